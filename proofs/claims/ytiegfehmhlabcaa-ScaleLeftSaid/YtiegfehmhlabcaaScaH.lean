/-
  ScaleLeft of layer 3 answers true, for whatever wide number and whatever divisor in range. No conditions besides.
-/
import Derived.Test.YtiegfehmhlabcaaScaE
import Derived.Test.YtiegfehmhlabcaaWideK1
import Derived.Test.YtiegfehmhlabcaaRefR
namespace Go.Proofs.Ytiegfehmhlabcaa
open Go.RowKit
set_option linter.unusedSimpArgs false
set_option linter.unusedVariables false

set_option maxHeartbeats 4000000 in
set_option maxRecDepth 100000 in
theorem left_no (x d : Int) (h : d < 1) (haw : ∀ w, Calls Try.prog 11 #[] w fun e w' => e = .returned (.bool true) ∧ Below w.heap.size w w') (w : World) :
    Calls Try.prog 5 #[.agg #[.int .i64 (vhi x), .int .u64 (vlo x)], .int .i64 d] w fun e w' => e = .returned (.bool true) ∧ Below w.heap.size w w' := by
  have hQ := quo_no x d h
  generalize vhi x = xh at *; generalize vlo x = xl at *
  go_enter Try.func5, Try.ntmps5
  go_wp2_with fail
  refine (hQ _).mono ?_; rintro e w1 ⟨rfl, hb1⟩
  have K := (((Keeps.start w).new (.int .i64 xh) (.int .u64 xl) 24).below hb1).new (.int .i64 0) (.int .u64 0) 24
  clear hb1
  go_wp2_with fail
  refine (haw _).mono ?_; rintro e w2 ⟨rfl, hb2⟩
  replace K := K.below hb2; clear hb2
  go_wp2_with fail
  go_ret
  exact ⟨rfl, K.1⟩

theorem left_sum (x d : Int) : x / d * d + x % d = x := by rw [Int.mul_comm]; exact Int.mul_ediv_add_emod x d

set_option maxHeartbeats 4000000 in
set_option maxRecDepth 100000 in
theorem left_yes (x d : Int) (hx : InV x) (hd : InR d) (h1 : 1 ≤ d) (haw : ∀ w, Calls Try.prog 11 #[] w fun e w' => e = .returned (.bool true) ∧ Below w.heap.size w w') (w : World) :
    Calls Try.prog 5 #[.agg #[.int .i64 (vhi x), .int .u64 (vlo x)], .int .i64 d] w fun e w' => e = .returned (.bool true) ∧ Below w.heap.size w w' := by
  have hQ := quo_ok x d hx hd h1
  have hq := div_inV hx h1
  have lx := v_len hx; have lq := v_len hq; have ld := digs_19 hd
  have lr := mod_len (x := x) hd (by omega)
  have r0 := Int.emod_nonneg x (show d ≠ 0 by omega)
  have r1 := Int.emod_lt_of_pos x (show 0 < d by omega)
  have hr : InR (x % d) := by unfold InR at hd ⊢; omega
  have hW := fun w => wof_v hq w
  have hX := fun w => wof_v hx w
  have hD := of_any d hd
  have hR := of_any (x % d) hr
  have hT := fun (w : World) (v v' : Value) (h : Big w v (x / d)) (h' : Big w v' d) => btimes v v' (x / d) d w h h' (by omega) (by omega)
  have lp := digs_len_times lq ld
  have hP := fun (w : World) (v v' : Value) (h : Big w v (x / d * d)) (h' : Big w v' (x % d)) => bplus_w w v v' h h' (by omega) (by omega)
  rw [left_sum] at hP
  have hC := fun (w : World) (v v' : Value) (h : Big w v x) (h' : Big w v' x) => big_same (by omega) w v v' h h'
  clear lx lq ld lr lp hq hr
  generalize vhi (x / d) = qh at *; generalize vlo (x / d) = ql at *
  generalize x / d = q at *; generalize x % d = r at *
  generalize vhi x = xh at *; generalize vlo x = xl at *
  generalize decide (x < 0) = sx at *; generalize (digs x.natAbs).length = lx at *
  clear hx hd
  go_enter Try.func5, Try.ntmps5
  go_wp2_with fail
  refine (hQ _).mono ?_; rintro e w1 ⟨rfl, hb1⟩
  have K := (((Keeps.start w).new (.int .i64 xh) (.int .u64 xl) 24).below hb1).new (.int .i64 qh) (.int .u64 ql) 24
  clear hb1
  go_wp2_with fail
  refine (hW _).mono ?_; rintro e w2 ⟨u2, rfl, hu2, hb2⟩
  replace K := K.below hb2; clear hb2
  go_wp2_with fail
  refine (hD _).mono ?_; rintro e w3 ⟨u3, rfl, hu3, hb3⟩
  replace K := K.below hb3; replace hu2 := hu2.below hb3; clear hb3
  go_wp2_with fail
  refine (hT _ _ _ hu2 hu3).mono ?_; rintro e w4 ⟨u4, rfl, hu4, hb4⟩
  replace K := K.below hb4; clear hb4 hu2 hu3
  go_wp2_with fail
  refine (hR _).mono ?_; rintro e w5 ⟨u5, rfl, hu5, hb5⟩
  replace K := K.below hb5; replace hu4 := hu4.below hb5; clear hb5
  go_wp2_with fail
  refine (hP _ _ _ hu4 hu5).mono ?_; rintro e w6 ⟨a6, c6, rfl, hu6, hb6⟩
  replace K := (K.below hb6).new (.bool sx) (.slice a6 lx c6) 27
  replace hu6 := hu6.alloc (.cells #[.bool sx, .slice a6 lx c6] 27)
  have HU := Lib.hid hu6
  clear hb6 hu4 hu5 hu6
  go_wp2_with fail
  go_region_held3 (fun w' => w'.cell? ⟨w6.heap.size, 0, none⟩ = some (.bool sx) ∧ w'.cell? ⟨w6.heap.size, 1, none⟩ = some (.slice a6 lx c6) ∧ w'.cell? ⟨w1.heap.size, 0, none⟩ = some (.int .i64 qh) ∧ w'.cell? ⟨w1.heap.size, 1, none⟩ = some (.int .u64 ql) ∧ w'.cell? ⟨w.heap.size, 0, none⟩ = some (.int .i64 xh) ∧ w'.cell? ⟨w.heap.size, 1, none⟩ = some (.int .u64 xl))
    (first | (exact K.three) | (exact K.drew.three))
    (first
      | (go_at_call 7; refine (hX _).mono ?_; rintro e wn ⟨un, rfl, hun, hbn⟩; (first | (have HU2 := Lib.hid (HU.out.below hbn); replace K := K.below hbn) | (have HU2 := Lib.hid (HU.out.drewB.below hbn); replace K := K.drew.below hbn)); obtain ⟨z0, z1, z2, z3, z4, z5⟩ := K.three)
      | (go_at_call 14; (first | refine (hC _ _ _ HU2.out hun).mono ?_ | refine (hC _ _ _ HU2.out.drewB hun.drewB).mono ?_); rintro e wm ⟨rfl, hbm⟩; (first | replace K := K.below hbm | replace K := K.drew.below hbm); obtain ⟨z0, z1, z2, z3, z4, z5⟩ := K.three)
      | (go_at_call 11; refine (haw _).mono ?_; rintro e wo ⟨rfl, hbo⟩; (first | replace K := K.below hbo | replace K := K.drew.below hbo); obtain ⟨z0, z1, z2, z3, z4, z5⟩ := K.three))
  go_wp2_with fail
  go_ret
  exact ⟨rfl, K.1⟩

theorem left_all (h l d : Int) (hh : InR h) (hl : InU l) (hd : InR d) (w : World) :
    Calls Try.prog 5 #[.agg #[.int .i64 h, .int .u64 l], .int .i64 d] w fun e w' => e = .returned (.bool true) ∧ Below w.heap.size w w' := by
  have e1 := vhi_of hh hl
  have e2 := vlo_of (h := h) hl
  by_cases c : d < 1
  · have := left_no (wideOf h l) d c s_awake w
    rwa [e1, e2] at this
  · have := left_yes (wideOf h l) d (wide_in hh hl) hd (by omega) s_awake w
    rwa [e1, e2] at this
end Go.Proofs.Ytiegfehmhlabcaa
