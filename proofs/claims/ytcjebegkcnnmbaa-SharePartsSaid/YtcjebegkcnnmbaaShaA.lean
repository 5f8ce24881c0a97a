/-
  What share's own Check, Parent and Minor answer, for whatever amount and share in range. No conditions besides.
-/
import Derived.Test.YtcjebegkcnnmbaaScaD
import Derived.Test.YtcjebegkcnnmbaaShaM
namespace Go.Proofs.Ytcjebegkcnnmbaa
open Go.RowKit
set_option linter.unusedSimpArgs false
set_option linter.unusedVariables false

set_option maxHeartbeats 400000 in
theorem h_check (s : Int) (w : World) :
    Calls Try.prog 11 #[.int .i64 s] w fun e w' => e = .returned (.int .i64 (shc s)) ∧ w = w' := by
  rcases Int.lt_or_le s 0 with h1 | h1
  · rw [shc_no (by unfold OkS; omega)]
    go_enter Try.func11, Try.ntmps11
    go_wp2_with fail
    go_ret
    exact ⟨rfl, rfl⟩
  · have d1 : decide (s < 0) = false := decide_eq_false (by omega)
    rcases Int.lt_or_le 10000 s with h2 | h2
    · rw [shc_no (by unfold OkS; omega)]
      go_enter Try.func11, Try.ntmps11
      go_wp2_with fail
      go_ret
      exact ⟨rfl, rfl⟩
    · rw [shc_ok (by unfold OkS; omega)]
      have d2 : decide (10000 < s) = false := decide_eq_false (by omega)
      go_enter Try.func11, Try.ntmps11
      go_wp2_with fail
      go_ret
      exact ⟨rfl, rfl⟩

set_option maxHeartbeats 1000000 in
theorem h_parent (x s : Int) (hx : InR x) (w : World) :
    Calls Try.prog 7 #[.int .i64 x, .int .i64 s] w fun e w' => e = .returned (.tuple #[.int .i64 (parv x s), .int .i64 (shc s)]) ∧ Below w.heap.size w w' := by
  have hc := h_check s
  unfold parv
  by_cases h : OkS s
  · rw [if_pos h]
    rw [shc_ok h] at hc ⊢
    have hS := fun w => s_scale x s 10000 hx (oks_inR h) (by decide) w
    rw [sv_yes (by omega), se_yes (by omega), tv_in (par_inR h hx).1, te_in (par_inR h hx).1] at hS
    generalize nearv (x * s) 10000 = p at *
    clear h hx
    go_enter Try.func7, Try.ntmps7
    go_wp2_with fail
    refine (hc _).mono ?_; rintro e w0 ⟨rfl, rfl⟩
    go_wp2_with fail
    refine (hS _).mono ?_; rintro e w1 ⟨rfl, hb1⟩
    go_wp2_with fail
    go_ret2
    exact ⟨rfl, hb1⟩
  · rw [if_neg h]
    rw [shc_no h] at hc ⊢
    clear h hx
    go_enter Try.func7, Try.ntmps7
    go_wp2_with fail
    refine (hc _).mono ?_; rintro e w0 ⟨rfl, rfl⟩
    go_wp2_with fail
    go_ret2
    exact ⟨rfl, Below.refl _ _⟩

theorem h_inw {x : Int} (h : InR x) : -9223372036854775808 ≤ x ∧ x < 9223372036854775808 := by unfold InR at h; omega

set_option maxHeartbeats 1000000 in
theorem h_minor (x s : Int) (hx : InR x) (w : World) :
    Calls Try.prog 9 #[.int .i64 x, .int .i64 s] w fun e w' => e = .returned (.tuple #[.int .i64 (minv x s), .int .i64 (shc s)]) ∧ Below w.heap.size w w' := by
  have hc := h_parent x s hx
  unfold parv at hc
  unfold minv
  by_cases h : OkS s
  · rw [if_pos h] at hc ⊢
    rw [shc_ok h] at hc ⊢
    have hr := h_inw (par_inR h hx).2
    clear h hx
    generalize nearv (x * s) 10000 = p at *
    go_enter Try.func9, Try.ntmps9
    go_wp2_with fail
    refine (hc _).mono ?_; rintro e w0 ⟨rfl, hb0⟩
    go_wp2_with fail
    go_ret2
    exact ⟨rfl, hb0⟩
  · rw [if_neg h] at hc ⊢
    rw [shc_no h] at hc ⊢
    clear h hx
    go_enter Try.func9, Try.ntmps9
    go_wp2_with fail
    refine (hc _).mono ?_; rintro e w0 ⟨rfl, hb0⟩
    go_wp2_with fail
    go_ret2
    exact ⟨rfl, hb0⟩
end Go.Proofs.Ytcjebegkcnnmbaa
