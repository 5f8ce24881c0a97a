/-
  What the document's own 'may' (gavelkindref06) answers, for whatever number of decimals. No conditions besides.
-/
import Derived.Test.YtmmjkbjceocpmaaDoorChecked
import Derived.Test.YtmmjkbjceocpmaaDoorDecM
namespace Go.Proofs.YtmmjkbjceocpmaaDoor
open Go.RowKit
set_option linter.unusedSimpArgs false
set_option linter.unusedVariables false

theorem r6may_any (d : Int) (w : World) :
    Calls Tryd.prog 31 #[.int .i64 d] w fun e w' => e = .returned (.bool (decide (OkD d))) ∧ w = w' := by
  rcases Int.lt_or_le d 0 with h | h
  · rw [decide_eq_false (show ¬ OkD d by unfold OkD; omega)]
    have d1 : decide (0 ≤ d) = false := decide_eq_false (by omega)
    go_enter Tryd.func31, Tryd.ntmps31
    go_wp2_with fail
    go_ret
    exact ⟨rfl, rfl⟩
  · have d1 : decide (0 ≤ d) = true := decide_eq_true h
    rcases Int.lt_or_le 6 d with h' | h'
    · rw [decide_eq_false (show ¬ OkD d by unfold OkD; omega)]
      have d2 : decide (d ≤ 6) = false := decide_eq_false (by omega)
      go_enter Tryd.func31, Tryd.ntmps31
      go_wp2_with fail
      go_ret
      exact ⟨rfl, rfl⟩
    · rw [decide_eq_true (show OkD d by unfold OkD; omega)]
      have d2 : decide (d ≤ 6) = true := decide_eq_true h'
      go_enter Tryd.func31, Tryd.ntmps31
      go_wp2_with fail
      go_ret
      exact ⟨rfl, rfl⟩
end Go.Proofs.YtmmjkbjceocpmaaDoor
