/-
  What ratio's own mayBe, Check and divisor answer, for whatever numbers. No conditions besides those named.
-/
import Derived.Test.YtogckefmmjbapaaChecked
import Derived.Test.YtogckefmmjbapaaRatM
import Derived.Test.YtogckefmmjbapaaRatK
namespace Go.Proofs.Ytogckefmmjbapaa
open Go.RowKit
set_option linter.unusedSimpArgs false
set_option linter.unusedVariables false

theorem c_maybe_t (n : Int) (h1 : 1 ≤ n) (h2 : n ≤ 1000000000000) (w : World) :
    Calls Try.prog 31 #[.int .i64 n] w fun e w' => e = .returned (.bool true) ∧ w = w' := by
  have d1 : decide (1 ≤ n) = true := decide_eq_true h1
  have d2 : decide (n ≤ 1000000000000) = true := decide_eq_true h2
  go_enter Try.func31, Try.ntmps31
  go_wp2_with fail
  go_ret
  exact ⟨rfl, rfl⟩
theorem c_maybe_lo (n : Int) (h1 : n < 1) (w : World) :
    Calls Try.prog 31 #[.int .i64 n] w fun e w' => e = .returned (.bool false) ∧ w = w' := by
  have d1 : decide (1 ≤ n) = false := decide_eq_false (by omega)
  go_enter Try.func31, Try.ntmps31
  go_wp2_with fail
  go_ret
  exact ⟨rfl, rfl⟩
theorem c_maybe_hi (n : Int) (h1 : 1 ≤ n) (h2 : 1000000000000 < n) (w : World) :
    Calls Try.prog 31 #[.int .i64 n] w fun e w' => e = .returned (.bool false) ∧ w = w' := by
  have d1 : decide (1 ≤ n) = true := decide_eq_true h1
  have d2 : decide (n ≤ 1000000000000) = false := decide_eq_false (by omega)
  go_enter Try.func31, Try.ntmps31
  go_wp2_with fail
  go_ret
  exact ⟨rfl, rfl⟩
/-- A number of a rate that may be. -/
def OkN (n : Int) : Prop := 1 ≤ n ∧ n ≤ 1000000000000
instance instDecOkN (n : Int) : Decidable (OkN n) := by unfold OkN; infer_instance
theorem c_maybe (n : Int) (w : World) :
    Calls Try.prog 31 #[.int .i64 n] w fun e w' => e = .returned (.bool (decide (OkN n))) ∧ w = w' := by
  rcases Int.lt_or_le n 1 with h | h
  · rw [decide_eq_false (show ¬ OkN n by unfold OkN; omega)]; exact c_maybe_lo n h w
  · rcases Int.lt_or_le 1000000000000 n with h' | h'
    · rw [decide_eq_false (show ¬ OkN n by unfold OkN; omega)]; exact c_maybe_hi n h h' w
    · rw [decide_eq_true (show OkN n by unfold OkN; omega)]; exact c_maybe_t n h h' w

set_option maxHeartbeats 400000 in
theorem c_check (n d : Int) (w : World) :
    Calls Try.prog 16 #[.agg #[.int .i64 n, .int .i64 d]] w fun e w' => e = .returned (.int .i64 (rc n d)) ∧ Below w.heap.size w w' := by
  have h1 := c_maybe n
  have h2 := c_maybe d
  by_cases a : OkN n
  · rw [decide_eq_true a] at h1
    by_cases b : OkN d
    · rw [decide_eq_true b] at h2
      rw [rc_ok (by unfold OkN at a b; unfold OkR; omega)]
      clear a b
      go_enter Try.func16, Try.ntmps16
      go_wp2_with fail
      refine (h1 _).mono ?_; rintro e w1 ⟨rfl, rfl⟩
      go_wp2_with fail
      refine (h2 _).mono ?_; rintro e w1 ⟨rfl, rfl⟩
      go_wp2_with fail
      go_ret
      exact ⟨rfl, below1 _ _⟩
    · rw [decide_eq_false b] at h2
      rw [rc_no (by unfold OkN at a b; unfold OkR; omega)]
      clear a b
      go_enter Try.func16, Try.ntmps16
      go_wp2_with fail
      refine (h1 _).mono ?_; rintro e w1 ⟨rfl, rfl⟩
      go_wp2_with fail
      refine (h2 _).mono ?_; rintro e w1 ⟨rfl, rfl⟩
      go_wp2_with fail
      go_ret
      exact ⟨rfl, below1 _ _⟩
  · rw [decide_eq_false a] at h1
    rw [rc_no (by unfold OkN at a; unfold OkR; omega)]
    clear a
    go_enter Try.func16, Try.ntmps16
    go_wp2_with fail
    refine (h1 _).mono ?_; rintro e w1 ⟨rfl, rfl⟩
    go_wp2_with fail
    go_ret
    exact ⟨rfl, below1 _ _⟩
end Go.Proofs.Ytogckefmmjbapaa
