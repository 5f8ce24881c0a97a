/-
  What the document's own Check (gavelkindref05) answers, for whatever share. No conditions besides.
-/
import Derived.Test.YtebjmnppeohdiaaChecked
import Derived.Test.YtebjmnppeohdiaaRt1
import Derived.Test.YtebjmnppeohdiaaWid
namespace Go.Proofs.Ytebjmnppeohdiaa
open Go.RowKit
set_option linter.unusedSimpArgs false
set_option linter.unusedVariables false

set_option maxHeartbeats 400000 in
theorem r5check_any (s : Int) (w : World) :
    Calls Try.prog 56 #[.int .i64 s] w fun e w' => e = .returned (.int .i64 (shc s)) ∧ w = w' := by
  rcases Int.lt_or_le s 0 with h1 | h1
  · rw [shc_no (by unfold OkS; omega)]
    go_enter Try.func56, Try.ntmps56
    go_wp2_with fail
    go_ret
    exact ⟨rfl, rfl⟩
  · have d1 : decide (s < 0) = false := decide_eq_false (by omega)
    rcases Int.lt_or_le 10000 s with h2 | h2
    · rw [shc_no (by unfold OkS; omega)]
      go_enter Try.func56, Try.ntmps56
      go_wp2_with fail
      go_ret
      exact ⟨rfl, rfl⟩
    · rw [shc_ok (by unfold OkS; omega)]
      have d2 : decide (10000 < s) = false := decide_eq_false (by omega)
      go_enter Try.func56, Try.ntmps56
      go_wp2_with fail
      go_ret
      exact ⟨rfl, rfl⟩

end Go.Proofs.Ytebjmnppeohdiaa
