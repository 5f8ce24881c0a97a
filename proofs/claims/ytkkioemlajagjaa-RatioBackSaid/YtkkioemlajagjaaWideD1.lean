/-
  What wide's Cmp answers, for whatever wide numbers. No conditions besides.
-/
import Derived.Test.YtkkioemlajagjaaWideB
namespace Go.Proofs.Ytkkioemlajagjaa
open Go.RowKit
set_option linter.unusedSimpArgs false
set_option linter.unusedVariables false

set_option maxHeartbeats 400000 in
theorem cmp_u (a b : Int) (w : World) :
    Calls Try.prog 49 #[.int .u64 a, .int .u64 b] w fun e w' => e = .returned (.int .i64 (cmpv a b)) ∧ w = w' := by
  unfold cmpv
  by_cases h : a < b
  · rw [if_pos h]
    go_enter Try.func49, Try.ntmps49
    go_wp2
    go_ret
    exact ⟨rfl, rfl⟩
  · by_cases h' : b < a
    · rw [if_neg h, if_pos h']
      go_enter Try.func49, Try.ntmps49
      go_wp2
      go_ret
      exact ⟨rfl, rfl⟩
    · rw [if_neg h, if_neg h']
      go_enter Try.func49, Try.ntmps49
      go_wp2
      go_ret
      exact ⟨rfl, rfl⟩

set_option maxHeartbeats 400000 in
theorem cmp_i (a b : Int) (w : World) :
    Calls Try.prog 50 #[.int .i64 a, .int .i64 b] w fun e w' => e = .returned (.int .i64 (cmpv a b)) ∧ w = w' := by
  unfold cmpv
  by_cases h : a < b
  · rw [if_pos h]
    go_enter Try.func50, Try.ntmps50
    go_wp2
    go_ret
    exact ⟨rfl, rfl⟩
  · by_cases h' : b < a
    · rw [if_neg h, if_pos h']
      go_enter Try.func50, Try.ntmps50
      go_wp2
      go_ret
      exact ⟨rfl, rfl⟩
    · rw [if_neg h, if_neg h']
      go_enter Try.func50, Try.ntmps50
      go_wp2
      go_ret
      exact ⟨rfl, rfl⟩

theorem cmpv_hi {x y : Int} (hx : InV x) (hy : InV y) (h : vhi x ≠ vhi y) : cmpv (vhi x) (vhi y) = cmpv x y := by
  rw [vhi_v hx, vhi_v hy] at h ⊢; unfold cmpv; repeat' split <;> omega
theorem cmpv_lo {x y : Int} (hx : InV x) (hy : InV y) (h : vhi x = vhi y) : cmpv (vlo x) (vlo y) = cmpv x y := by
  rw [vhi_v hx, vhi_v hy] at h; unfold cmpv vlo; repeat' split <;> omega

set_option maxHeartbeats 400000 in
theorem w_cmp (x y : Int) (hx : InV x) (hy : InV y) (w : World) :
    Calls Try.prog 38 #[.agg #[.int .i64 (vhi x), .int .u64 (vlo x)], .agg #[.int .i64 (vhi y), .int .u64 (vlo y)]] w fun e w' =>
      e = .returned (.int .i64 (cmpv x y)) ∧ Below w.heap.size w w' := by
  by_cases h : vhi x = vhi y
  · have HC := Lib.hid (cmpv_lo hx hy h)
    by_cases h' : vlo x = vlo y
    · have HZ : Hid (cmpv x y = 0) := by rw [v_ext hx hy h h']; show cmpv y y = 0; unfold cmpv; simp
      rw [h, h']
      generalize vlo y = bl at *; generalize vhi y = bh at *
      clear hx hy h h' HC
      go_enter Try.func38, Try.ntmps38
      go_wp2_with fail
      go_ret
      exact ⟨by rw [HZ.out]; rfl, below2 _ _ _⟩
    · rw [← HC.out]
      rw [h]
      generalize vlo x = al at *; generalize vlo y = bl at *; generalize vhi y = bh at *
      clear hx hy h HC
      have he : (al == bl) = false := by simpa using h'
      go_enter Try.func38, Try.ntmps38
      go_wp2_with fail
      refine (cmp_u al bl _).mono ?_; rintro e w1 ⟨rfl, rfl⟩
      go_wp2_with fail
      go_ret
      exact ⟨rfl, below2 _ _ _⟩
  · rw [← cmpv_hi hx hy h]
    generalize vlo x = al at *; generalize vlo y = bl at *; generalize vhi y = bh at *; generalize vhi x = ah at *
    clear hx hy
    have he : (ah == bh) = false := by simpa using h
    go_enter Try.func38, Try.ntmps38
    go_wp2_with fail
    refine (cmp_i ah bh _).mono ?_; rintro e w1 ⟨rfl, rfl⟩
    go_wp2_with fail
    go_ret
    exact ⟨rfl, below2 _ _ _⟩
end Go.Proofs.Ytkkioemlajagjaa
