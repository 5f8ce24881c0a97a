/-
  Plain words for walks over blocks of two cells that are made, stored to and read (gavelkindref03). No conditions.
-/
import Derived.Test.YtmmjkbjceocpmaaDoorRefG
import Derived.Test.YtmmjkbjceocpmaaDoorWideF2
namespace Go.Proofs.YtmmjkbjceocpmaaDoor
open Go.RowKit
set_option linter.unusedSimpArgs false
set_option linter.unusedVariables false

theorem Big.put {w : World} {v p q : Value} {x : Int} {B : Nat} {s : Bool} {a : Option Addr} {l c : Nat} (h : Big w v x) (h0 : At2 w B (.bool s) (.slice a l c)) :
    Big ((w.setCell ⟨B, 0, none⟩ p).setCell ⟨B, 1, none⟩ q) v x := h.set2 h0.1 h0.2.1
theorem Big.drawn {w : World} {v : Value} {x : Int} (h : Big w v x) : Big w.drew v x := h.below (Below.refl _ _).drew
end Go.Proofs.YtmmjkbjceocpmaaDoor
