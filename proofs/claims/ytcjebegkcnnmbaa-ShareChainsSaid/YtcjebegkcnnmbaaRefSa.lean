/-
  What the document's own Check, Parent and Minor (gavelkindref05) answer, for whatever amount and share in range. No conditions besides.
-/
import Derived.Test.YtcjebegkcnnmbaaRefS
import Derived.Test.YtcjebegkcnnmbaaShaM
import Derived.Test.YtcjebegkcnnmbaaKeepG
namespace Go.Proofs.Ytcjebegkcnnmbaa
open Go.RowKit
set_option linter.unusedSimpArgs false
set_option linter.unusedVariables false

set_option maxHeartbeats 400000 in
theorem r5check_any (s : Int) (w : World) :
    Calls Try.prog 12 #[.int .i64 s] w fun e w' => e = .returned (.int .i64 (shc s)) ∧ w = w' := by
  rcases Int.lt_or_le s 0 with h1 | h1
  · rw [shc_no (by unfold OkS; omega)]
    go_enter Try.func12, Try.ntmps12
    go_wp2_with fail
    go_ret
    exact ⟨rfl, rfl⟩
  · have d1 : decide (s < 0) = false := decide_eq_false (by omega)
    rcases Int.lt_or_le 10000 s with h2 | h2
    · rw [shc_no (by unfold OkS; omega)]
      go_enter Try.func12, Try.ntmps12
      go_wp2_with fail
      go_ret
      exact ⟨rfl, rfl⟩
    · rw [shc_ok (by unfold OkS; omega)]
      have d2 : decide (10000 < s) = false := decide_eq_false (by omega)
      go_enter Try.func12, Try.ntmps12
      go_wp2_with fail
      go_ret
      exact ⟨rfl, rfl⟩

set_option maxHeartbeats 1000000 in
theorem r5parent_any (x s : Int) (hx : InR x) (w : World) :
    Calls Try.prog 8 #[.int .i64 x, .int .i64 s] w fun e w' => e = .returned (.tuple #[.int .i64 (parv x s), .int .i64 (shc s)]) ∧ Below w.heap.size w w' := by
  have hc := r5check_any s
  unfold parv
  by_cases h : OkS s
  · rw [if_pos h]
    rw [shc_ok h] at hc ⊢
    have hS := fun w => rscale_any x s 10000 w hx (oks_inR h) (by decide)
    rw [sv_yes (by omega), se_yes (by omega), tv_in (par_inR h hx).1, te_in (par_inR h hx).1] at hS
    generalize nearv (x * s) 10000 = p at *
    clear h hx
    go_enter Try.func8, Try.ntmps8
    go_wp2_with fail
    refine (hc _).mono ?_; rintro e w0 ⟨rfl, rfl⟩
    go_wp2_with fail
    refine (hS _).mono ?_; rintro e w1 ⟨rfl, hb1⟩
    go_wp2_with fail
    go_ret2
    exact ⟨rfl, hb1⟩
  · rw [if_neg h]
    rw [shc_no h] at hc ⊢
    clear h hx
    go_enter Try.func8, Try.ntmps8
    go_wp2_with fail
    refine (hc _).mono ?_; rintro e w0 ⟨rfl, rfl⟩
    go_wp2_with fail
    go_ret2
    exact ⟨rfl, Below.refl _ _⟩

set_option maxHeartbeats 1000000 in
theorem r5minor_any (x s : Int) (hx : InR x) (w : World) :
    Calls Try.prog 10 #[.int .i64 x, .int .i64 s] w fun e w' => e = .returned (.tuple #[.int .i64 (minv x s), .int .i64 (shc s)]) ∧ Below w.heap.size w w' := by
  have hc := r5parent_any x s hx
  unfold parv at hc
  unfold minv
  by_cases h : OkS s
  · rw [if_pos h] at hc ⊢
    rw [shc_ok h] at hc ⊢
    have hr := par_inR h hx
    have lx := digs_19 hx; have lp := digs_19 hr.1; have lm := digs_19 hr.2
    have hOx := of_any x hx; have hOp := of_any _ hr.1
    have hM := fun (w : World) (v v' : Value) (h : Big w v x) (h' : Big w v' (nearv (x * s) 10000)) => bminus v v' _ _ w h h' (by omega) (by omega)
    have hT := fun (w : World) (v : Value) (h : Big w v (x - nearv (x * s) 10000)) => told_any v _ w h (by omega)
    rw [tv_in hr.2, te_in hr.2] at hT
    clear lx lp lm hr h hx
    generalize nearv (x * s) 10000 = p at *
    generalize x - p = m at *
    go_enter Try.func10, Try.ntmps10
    go_wp2_with fail
    refine (hc _).mono ?_; rintro e w0 ⟨rfl, hb0⟩
    go_wp2_with fail
    refine (hOx _).mono ?_; rintro e w1 ⟨u1, rfl, hu1, hb1⟩
    replace hb0 := hb0.trans (hb1.mono hb0.size)
    go_wp2_with fail
    refine (hOp _).mono ?_; rintro e w2 ⟨u2, rfl, hu2, hb2⟩
    replace hu1 := hu1.below hb2
    replace hb0 := hb0.trans (hb2.mono hb0.size)
    go_wp2_with fail
    refine (hM _ _ _ hu1 hu2).mono ?_; rintro e w3 ⟨u3, rfl, hu3, hb3⟩
    replace hb0 := hb0.trans (hb3.mono hb0.size)
    go_wp2_with fail
    refine (hT _ _ hu3).mono ?_; rintro e w4 ⟨rfl, hb4⟩
    replace hb0 := hb0.trans (hb4.mono hb0.size)
    go_wp2_with fail
    go_ret2
    exact ⟨rfl, hb0⟩
  · rw [if_neg h] at hc ⊢
    rw [shc_no h] at hc ⊢
    clear h hx
    go_enter Try.func10, Try.ntmps10
    go_wp2_with fail
    refine (hc _).mono ?_; rintro e w0 ⟨rfl, hb0⟩
    go_wp2_with fail
    go_ret2
    exact ⟨rfl, hb0⟩
end Go.Proofs.Ytcjebegkcnnmbaa
