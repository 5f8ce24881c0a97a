/-
  Plain words about blocks of two cells. No conditions.
-/
import Derived.Test.YtadbelkckeokjaaWideF2
namespace Go.Proofs.Ytadbelkckeokjaa
open Go.RowKit
set_option linter.unusedSimpArgs false
set_option linter.unusedVariables false

theorem below_set2 {B k : Nat} {w0 w : World} {p q : Value} (h : Below B w0 w) (hk : B ≤ k) : Below B w0 ((w.setCell ⟨k, 0, none⟩ p).setCell ⟨k, 1, none⟩ q) := (h.setCell hk _).setCell hk _
theorem Keeps.three' {w0 w : World} {a b c : Nat × Value × Value} {l : List (Nat × Value × Value)} (h : Keeps w0 w (a :: b :: c :: l)) :
    w.cell? ⟨a.1, 0, none⟩ = some a.2.1 ∧ w.cell? ⟨a.1, 1, none⟩ = some a.2.2 ∧ w.cell? ⟨b.1, 0, none⟩ = some b.2.1 ∧ w.cell? ⟨b.1, 1, none⟩ = some b.2.2 ∧ w.cell? ⟨c.1, 0, none⟩ = some c.2.1 ∧ w.cell? ⟨c.1, 1, none⟩ = some c.2.2 :=
  ⟨h.at0.1, h.at0.2.1, h.at1.1, h.at1.2.1, h.at2.1, h.at2.2.1⟩
theorem Keeps.one {w0 w : World} {a : Nat × Value × Value} {l : List (Nat × Value × Value)} (h : Keeps w0 w (a :: l)) : w.cell? ⟨a.1, 0, none⟩ = some a.2.1 ∧ w.cell? ⟨a.1, 1, none⟩ = some a.2.2 := ⟨h.at0.1, h.at0.2.1⟩
end Go.Proofs.Ytadbelkckeokjaa
