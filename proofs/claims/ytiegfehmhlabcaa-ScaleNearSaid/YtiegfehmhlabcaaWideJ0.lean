/-
  Plain words: a whole number's wide one is told by gavelkindref02's Of; two that are the same. No conditions besides.
-/
import Derived.Test.YtiegfehmhlabcaaWideF1
import Derived.Test.YtiegfehmhlabcaaRefX0
namespace Go.Proofs.Ytiegfehmhlabcaa
open Go.RowKit
set_option linter.unusedSimpArgs false
set_option linter.unusedVariables false

theorem Big.drewB {w : World} {v : Value} {x : Int} (h : Big w v x) : Big w.drew v x := h.below (Below.refl _ _).drew
theorem cmpv_self (x : Int) : cmpv x x = 0 := by unfold cmpv; simp
theorem Keeps.three {w0 w : World} {a b c : Nat × Value × Value} {l : List (Nat × Value × Value)} (h : Keeps w0 w (a :: b :: c :: l)) :
    w.cell? ⟨a.1, 0, none⟩ = some a.2.1 ∧ w.cell? ⟨a.1, 1, none⟩ = some a.2.2 ∧ w.cell? ⟨b.1, 0, none⟩ = some b.2.1 ∧ w.cell? ⟨b.1, 1, none⟩ = some b.2.2 ∧ w.cell? ⟨c.1, 0, none⟩ = some c.2.1 ∧ w.cell? ⟨c.1, 1, none⟩ = some c.2.2 :=
  ⟨h.at0.1, h.at0.2.1, h.at1.1, h.at1.2.1, h.at2.1, h.at2.2.1⟩
theorem big_same {x : Int} (hl : (digs x.natAbs).length ≤ 1000) (w : World) (v v' : Value) (hv : Big w v x) (hv' : Big w v' x) :
    Calls Try.prog 14 #[v, v'] w fun e w' => e = .returned (.int .i64 0) ∧ Below w.heap.size w w' := by
  have := bcmp v v' x x w hv hv' hl hl (by rw [Int.sub_self]; simp [digs_zero])
  rwa [cmpv_self] at this
theorem wof_v {x : Int} (hx : InV x) (w : World) :
    Calls Try.prog 7 #[.agg #[.int .i64 (vhi x), .int .u64 (vlo x)]] w fun e w' => ∃ u, e = .returned u ∧ Big w' u x ∧ Below w.heap.size w w' := by
  have := wof_any (vhi x) (vlo x) (vhi_R x) (vlo_U x) w
  rwa [of_wide hx] at this
theorem v_len {x : Int} (hx : InV x) : (digs x.natAbs).length ≤ 40 := by rw [← of_wide hx]; exact wide_len (vhi_R x) (vlo_U x)

end Go.Proofs.Ytiegfehmhlabcaa
