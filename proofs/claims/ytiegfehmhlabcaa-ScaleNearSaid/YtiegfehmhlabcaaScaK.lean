/-
  ScaleNear of layer 3 answers true, for whatever numbers in range. No conditions besides.
-/
import Derived.Test.YtiegfehmhlabcaaScaE
import Derived.Test.YtiegfehmhlabcaaScaN
import Derived.Test.YtiegfehmhlabcaaWideK1
import Derived.Test.YtiegfehmhlabcaaRefR
namespace Go.Proofs.Ytiegfehmhlabcaa
open Go.RowKit
set_option linter.unusedSimpArgs false
set_option linter.unusedVariables false

theorem Big.abs {w : World} {s : Bool} {u : Value} {z : Int} (h : Big w (.agg #[.bool s, u]) z) : Big w (.agg #[.bool false, u]) (z.natAbs : Int) := by
  obtain ⟨u', e, h2⟩ := h
  simp at e
  obtain ⟨e1, rfl⟩ := e
  refine ⟨u, ?_, ?_⟩
  · rw [decide_eq_false (show ¬ (z.natAbs : Int) < 0 by omega)]
  · rw [Int.natAbs_natCast]; exact h2
theorem Big.set0 {w : World} {v q : Value} {z : Int} {B : Nat} {s : Bool} (h : Big w v z) (h0 : w.cell? ⟨B, 0, none⟩ = some (.bool s)) : Big (w.setCell ⟨B, 0, none⟩ q) v z := by
  obtain ⟨u, e, h2⟩ := h
  exact ⟨u, e, h2.set h0 (by simp)⟩

theorem se_cases (y d : Int) (h1 : 1 ≤ d) : (se y d = 0 ∧ sv y d = y ∧ InR y) ∨ (se y d = 10) := by
  rw [sv_yes h1, se_yes h1]
  by_cases h : InR y
  · left; exact ⟨te_in h, tv_in h, h⟩
  · right; exact te_out h

/-- The last line, from where nothing is changed any more. -/
def LastOk (x0 x1 n e f v u : Int) : Prop := (e == 0) = false ∨ (f == 0) = false ∨ n < 0 ∨ ((x1 < x0 ∧ u ≤ v) ∨ (x0 < x1 ∧ v ≤ u) ∨ (x0 = x1 ∧ v = u))

theorem last_ok (x0 x1 n d : Int) (h1 : 1 ≤ d) : LastOk x0 x1 n (se (nearv (x0 * n) d) d) (se (nearv (x1 * n) d) d) (sv (nearv (x0 * n) d) d) (sv (nearv (x1 * n) d) d) := by
  unfold LastOk
  rcases se_cases (nearv (x0 * n) d) d h1 with ⟨e1, e2, e3⟩ | e1
  · rcases se_cases (nearv (x1 * n) d) d h1 with ⟨f1, f2, f3⟩ | f1
    · rw [e2, f2]
      right; right
      rcases Int.lt_or_le n 0 with hn | hn
      · left; exact hn
      · right
        rcases Int.lt_trichotomy x0 x1 with h | h | h
        · right; left; exact ⟨h, near_mono h1 hn (Int.le_of_lt h)⟩
        · right; right; rw [h]; exact ⟨rfl, rfl⟩
        · left; exact ⟨h, near_mono h1 hn (Int.le_of_lt h)⟩
    · right; left; rw [f1]; rfl
  · left; rw [e1]; rfl
end Go.Proofs.Ytiegfehmhlabcaa
