/-
  What the document's own Check (gavelkindref04) answers, for whatever rate. No conditions.
-/
import Derived.Test.YtogckefmmjbapaaChecked
import Derived.Test.YtogckefmmjbapaaRatM
import Derived.Test.YtogckefmmjbapaaRatK
namespace Go.Proofs.Ytogckefmmjbapaa
open Go.RowKit
set_option linter.unusedSimpArgs false
set_option linter.unusedVariables false

set_option maxHeartbeats 400000 in
theorem rcheck_any (n d : Int) (w : World) :
    Calls Try.prog 37 #[.agg #[.int .i64 n, .int .i64 d]] w fun e w' => e = .returned (.int .i64 (rc n d)) ∧ Below w.heap.size w w' := by
  rcases Int.lt_or_le n 1 with h1 | h1
  · rw [rc_no (by unfold OkR; omega)]
    go_enter Try.func37, Try.ntmps37
    go_wp2_with fail
    go_ret
    exact ⟨rfl, below1 _ _⟩
  rcases Int.lt_or_le d 1 with h2 | h2
  · rw [rc_no (by unfold OkR; omega)]
    have d1 : decide (n < 1) = false := decide_eq_false (by omega)
    go_enter Try.func37, Try.ntmps37
    go_wp2_with fail
    go_ret
    exact ⟨rfl, below1 _ _⟩
  rcases Int.lt_or_le 1000000000000 n with h3 | h3
  · rw [rc_no (by unfold OkR; omega)]
    have d1 : decide (n < 1) = false := decide_eq_false (by omega)
    have d2 : decide (d < 1) = false := decide_eq_false (by omega)
    go_enter Try.func37, Try.ntmps37
    go_wp2_with fail
    go_ret
    exact ⟨rfl, below1 _ _⟩
  rcases Int.lt_or_le 1000000000000 d with h4 | h4
  · rw [rc_no (by unfold OkR; omega)]
    have d1 : decide (n < 1) = false := decide_eq_false (by omega)
    have d2 : decide (d < 1) = false := decide_eq_false (by omega)
    have d3 : decide (1000000000000 < n) = false := decide_eq_false (by omega)
    go_enter Try.func37, Try.ntmps37
    go_wp2_with fail
    go_ret
    exact ⟨rfl, below1 _ _⟩
  · rw [rc_ok (by unfold OkR; omega)]
    have d1 : decide (n < 1) = false := decide_eq_false (by omega)
    have d2 : decide (d < 1) = false := decide_eq_false (by omega)
    have d3 : decide (1000000000000 < n) = false := decide_eq_false (by omega)
    have d4 : decide (1000000000000 < d) = false := decide_eq_false (by omega)
    go_enter Try.func37, Try.ntmps37
    go_wp2_with fail
    go_ret
    exact ⟨rfl, below1 _ _⟩
end Go.Proofs.Ytogckefmmjbapaa
