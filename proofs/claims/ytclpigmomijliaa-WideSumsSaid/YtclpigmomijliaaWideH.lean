/-
  WideProducts of layer 2 answers true, for whatever numbers in range. No conditions besides.
-/
import Derived.Test.YtclpigmomijliaaWideF1
import Derived.Test.YtclpigmomijliaaWideE
namespace Go.Proofs.Ytclpigmomijliaa
open Go.RowKit
set_option linter.unusedSimpArgs false
set_option linter.unusedVariables false

theorem mul_inV {a b : Int} (ha : InR a) (hb : InR b) : InV (a * b) := by
  have h : (a * b).natAbs ≤ 9223372036854775808 * 9223372036854775808 := by
    rw [Int.natAbs_mul]; exact Nat.mul_le_mul (by unfold InR at ha; omega) (by unfold InR at hb; omega)
  unfold InV; omega
theorem sgn_neg {x : Int} (h : x < 0) : cmpv x 0 = -1 := by unfold cmpv; rw [if_pos h]
theorem sgn_pos {x : Int} (h : 0 < x) : cmpv x 0 = 1 := by unfold cmpv; rw [if_neg (by omega), if_pos h]
theorem sgn_nul : cmpv 0 0 = 0 := by unfold cmpv; simp
theorem sgn_mul (a b : Int) : cmpv a 0 * cmpv b 0 = cmpv (a * b) 0 := by
  rcases Int.lt_trichotomy a 0 with h | h | h
  · rcases Int.lt_trichotomy b 0 with k | k | k
    · rw [sgn_neg h, sgn_neg k, sgn_pos (Int.mul_pos_of_neg_of_neg h k)]; rfl
    · subst k; rw [Int.mul_zero, sgn_nul, Int.mul_zero]
    · rw [sgn_neg h, sgn_pos k, sgn_neg (Int.mul_neg_of_neg_of_pos h k)]; rfl
  · subst h; rw [Int.zero_mul, sgn_nul, Int.zero_mul]
  · rcases Int.lt_trichotomy b 0 with k | k | k
    · rw [sgn_pos h, sgn_neg k, sgn_neg (Int.mul_neg_of_pos_of_neg h k)]; rfl
    · subst k; rw [Int.mul_zero, sgn_nul, Int.mul_zero]
    · rw [sgn_pos h, sgn_pos k, sgn_pos (Int.mul_pos h k)]; rfl
theorem sgn_bd (x y : Int) : -1 ≤ cmpv x y ∧ cmpv x y ≤ 1 := by unfold cmpv; split <;> (try split) <;> omega

set_option maxHeartbeats 1000000 in
theorem products_in (a b c : Int) (ha : InR a) (hb : InR b) (hc : InR c) (h : InR (b + c)) (haw : ∀ w, Calls Try.prog 15 #[] w fun e w' => e = .returned (.bool true) ∧ Below w.heap.size w w') (w : World) :
    Calls Try.prog 6 #[.int .i64 a, .int .i64 b, .int .i64 c] w fun e w' => e = .returned (.bool true) ∧ Below w.heap.size w w' := by
  have hM1 := w_mul a b ha hb; have hM2 := w_mul a c ha hc
  have hM3 := w_mul b a hb ha
  rw [Int.mul_comm b a] at hM3
  have hS1 := w_sign (a * b) (mul_inV ha hb); have hS2 := w_sign a (inV_of ha); have hS3 := w_sign b (inV_of hb)
  have hO1 := w_of a ha; have hO2 := w_of b hb; have hO3 := w_of c hc
  have hA := w_add b c (inV_of hb) (inV_of hc)
  have hbc : InV (b + c) := by unfold InR at hb hc; unfold InV; omega
  rw [vt_in hbc, ve_in hbc] at hA
  have hI := w_int (b + c) hbc
  have hA2 := w_add (a * b) (a * c) (mul_inV ha hb) (mul_inV ha hc)
  rw [← Int.mul_add, vt_in (mul_inV ha h), ve_in (mul_inV ha h)] at hA2
  have hM4 := w_mul a (b + c) ha h
  rw [tv_in h, te_in h] at hI
  have hss := sgn_mul a b
  have hwr : IntKind.i64.wrap (cmpv (a * b) 0) = cmpv (a * b) 0 := by have := sgn_bd (a * b) 0; rw [IntKind.wrap_i64]; omega
  generalize cmpv (a * b) 0 = sp at *; generalize cmpv a 0 = sa at *; generalize cmpv b 0 = sb at *
  generalize vhi (a * b) = ph at *; generalize vlo (a * b) = pl at *; generalize vhi (a * c) = qh at *; generalize vlo (a * c) = ql at *
  generalize vhi (a * (b + c)) = xh at *; generalize vlo (a * (b + c)) = xl at *
  generalize vhi (b + c) = mh at *; generalize vlo (b + c) = ml at *
  generalize b + c = n at *
  generalize vhi a = ah at *; generalize vlo a = al at *; generalize vhi b = bh at *; generalize vlo b = bl at *; generalize vhi c = ch at *; generalize vlo c = cl at *
  clear ha hb hc h hbc
  go_enter Try.func6, Try.ntmps6
  go_wp2_with fail
  refine (hM1 _).mono ?_; rintro e w1 ⟨rfl, hb1⟩
  have K := (Keeps.start w).below hb1; clear hb1
  go_wp2_with fail
  refine (hM2 _).mono ?_; rintro e w2 ⟨rfl, hb2⟩
  replace K := (K.below hb2).new2 (.int .i64 ph) (.int .u64 pl) (.int .i64 qh) (.int .u64 ql) 28 28; clear hb2
  go_wp2_with fail
  go_region_held3 (fun w' => w'.cell? ⟨w2.heap.size, 0, none⟩ = some (.int .i64 ph) ∧ w'.cell? ⟨w2.heap.size, 1, none⟩ = some (.int .u64 pl))
    (first | (exact ⟨K.at1.1, K.at1.2.1⟩) | (exact ⟨K.drew.at1.1, K.drew.at1.2.1⟩))
    (first
      | (go_at_call 8; refine (hM3 _).mono ?_; rintro e wn ⟨rfl, hbn⟩; replace K := K.drew.below hbn; obtain ⟨y0, y1, y2⟩ := K.at1)
      | (go_at_call 24; (first | with_reducible refine (hS1 _).mono ?_ | with_reducible refine (hS2 _).mono ?_ | with_reducible refine (hS3 _).mono ?_); rintro e wn ⟨rfl, hbn⟩; replace K := K.below hbn; obtain ⟨y0, y1, y2⟩ := K.at1)
      | (go_at_call 14; (first | with_reducible refine (hO1 _).mono ?_ | with_reducible refine (hO2 _).mono ?_); rintro e wn ⟨rfl, hbn⟩; replace K := K.below hbn; obtain ⟨y0, y1, y2⟩ := K.at1))
  go_wp2_with fail
  refine (hO2 _).mono ?_; rintro e w3 ⟨rfl, hb3⟩
  replace K := K.below hb3; clear hb3
  go_wp2_with fail
  refine (hO3 _).mono ?_; rintro e w4 ⟨rfl, hb4⟩
  replace K := K.below hb4; clear hb4
  go_wp2_with fail
  refine (hA _).mono ?_; rintro e w5 ⟨rfl, hb5⟩
  replace K := (K.below hb5).new (.int .i64 mh) (.int .u64 ml) 28; clear hb5
  go_wp2_with fail
  refine (hI _).mono ?_; rintro e w6 ⟨rfl, hb6⟩
  replace K := K.below hb6; clear hb6
  obtain ⟨q0, q1, q2⟩ := K.at1
  obtain ⟨p0, p1, p2⟩ := K.at2
  go_wp2_with fail
  refine (hA2 _).mono ?_; rintro e w7 ⟨rfl, hb7⟩
  replace K := (K.below hb7).new (.int .i64 xh) (.int .u64 xl) 28; clear hb7
  go_wp2_with fail
  go_region_held3 (fun w' => w'.cell? ⟨w7.heap.size, 0, none⟩ = some (.int .i64 xh) ∧ w'.cell? ⟨w7.heap.size, 1, none⟩ = some (.int .u64 xl))
    (first | (exact ⟨K.at0.1, K.at0.2.1⟩) | (exact ⟨K.drew.at0.1, K.drew.at0.2.1⟩))
    (first
      | (go_at_call 8; refine (hM4 _).mono ?_; rintro e wm ⟨rfl, hbm⟩; replace K := K.drew.below hbm; obtain ⟨z0, z1, z2⟩ := K.at0))
  go_wp2_with fail
  refine (haw _).mono ?_; rintro e w8 ⟨rfl, hb8⟩
  replace K := K.below hb8
  go_wp2_with fail
  go_ret
  exact ⟨rfl, K.1⟩

set_option maxHeartbeats 1000000 in
theorem products_out (a b c : Int) (ha : InR a) (hb : InR b) (hc : InR c) (h : ¬ InR (b + c)) (haw : ∀ w, Calls Try.prog 15 #[] w fun e w' => e = .returned (.bool true) ∧ Below w.heap.size w w') (w : World) :
    Calls Try.prog 6 #[.int .i64 a, .int .i64 b, .int .i64 c] w fun e w' => e = .returned (.bool true) ∧ Below w.heap.size w w' := by
  have hM1 := w_mul a b ha hb; have hM2 := w_mul a c ha hc
  have hM3 := w_mul b a hb ha
  rw [Int.mul_comm b a] at hM3
  have hS1 := w_sign (a * b) (mul_inV ha hb); have hS2 := w_sign a (inV_of ha); have hS3 := w_sign b (inV_of hb)
  have hO1 := w_of a ha; have hO2 := w_of b hb; have hO3 := w_of c hc
  have hA := w_add b c (inV_of hb) (inV_of hc)
  have hbc : InV (b + c) := by unfold InR at hb hc; unfold InV; omega
  rw [vt_in hbc, ve_in hbc] at hA
  have hI := w_int (b + c) hbc
  rw [tv_out h, te_out h] at hI
  have hss := sgn_mul a b
  have hwr : IntKind.i64.wrap (cmpv (a * b) 0) = cmpv (a * b) 0 := by have := sgn_bd (a * b) 0; rw [IntKind.wrap_i64]; omega
  generalize cmpv (a * b) 0 = sp at *; generalize cmpv a 0 = sa at *; generalize cmpv b 0 = sb at *
  generalize vhi (a * b) = ph at *; generalize vlo (a * b) = pl at *; generalize vhi (a * c) = qh at *; generalize vlo (a * c) = ql at *
  generalize vhi (b + c) = mh at *; generalize vlo (b + c) = ml at *
  generalize vhi a = ah at *; generalize vlo a = al at *; generalize vhi b = bh at *; generalize vlo b = bl at *; generalize vhi c = ch at *; generalize vlo c = cl at *
  clear ha hb hc h hbc
  go_enter Try.func6, Try.ntmps6
  go_wp2_with fail
  refine (hM1 _).mono ?_; rintro e w1 ⟨rfl, hb1⟩
  have K := (Keeps.start w).below hb1; clear hb1
  go_wp2_with fail
  refine (hM2 _).mono ?_; rintro e w2 ⟨rfl, hb2⟩
  replace K := (K.below hb2).new2 (.int .i64 ph) (.int .u64 pl) (.int .i64 qh) (.int .u64 ql) 28 28; clear hb2
  go_wp2_with fail
  go_region_held3 (fun w' => w'.cell? ⟨w2.heap.size, 0, none⟩ = some (.int .i64 ph) ∧ w'.cell? ⟨w2.heap.size, 1, none⟩ = some (.int .u64 pl))
    (first | (exact ⟨K.at1.1, K.at1.2.1⟩) | (exact ⟨K.drew.at1.1, K.drew.at1.2.1⟩))
    (first
      | (go_at_call 8; refine (hM3 _).mono ?_; rintro e wn ⟨rfl, hbn⟩; replace K := K.drew.below hbn; obtain ⟨y0, y1, y2⟩ := K.at1)
      | (go_at_call 24; (first | with_reducible refine (hS1 _).mono ?_ | with_reducible refine (hS2 _).mono ?_ | with_reducible refine (hS3 _).mono ?_); rintro e wn ⟨rfl, hbn⟩; replace K := K.below hbn; obtain ⟨y0, y1, y2⟩ := K.at1)
      | (go_at_call 14; (first | with_reducible refine (hO1 _).mono ?_ | with_reducible refine (hO2 _).mono ?_); rintro e wn ⟨rfl, hbn⟩; replace K := K.below hbn; obtain ⟨y0, y1, y2⟩ := K.at1))
  go_wp2_with fail
  refine (hO2 _).mono ?_; rintro e w3 ⟨rfl, hb3⟩
  replace K := K.below hb3; clear hb3
  go_wp2_with fail
  refine (hO3 _).mono ?_; rintro e w4 ⟨rfl, hb4⟩
  replace K := K.below hb4; clear hb4
  go_wp2_with fail
  refine (hA _).mono ?_; rintro e w5 ⟨rfl, hb5⟩
  replace K := (K.below hb5).new (.int .i64 mh) (.int .u64 ml) 28; clear hb5
  go_wp2_with fail
  refine (hI _).mono ?_; rintro e w6 ⟨rfl, hb6⟩
  replace K := K.below hb6; clear hb6
  obtain ⟨q0, q1, q2⟩ := K.at1
  obtain ⟨p0, p1, p2⟩ := K.at2
  go_wp2_with fail
  refine (haw _).mono ?_; rintro e w8 ⟨rfl, hb8⟩
  replace K := K.below hb8
  go_wp2_with fail
  go_ret
  exact ⟨rfl, K.1⟩

theorem products_any (a b c : Int) (ha : InR a) (hb : InR b) (hc : InR c) (haw : ∀ w, Calls Try.prog 15 #[] w fun e w' => e = .returned (.bool true) ∧ Below w.heap.size w w') (w : World) :
    Calls Try.prog 6 #[.int .i64 a, .int .i64 b, .int .i64 c] w fun e w' => e = .returned (.bool true) ∧ Below w.heap.size w w' := by
  by_cases h : InR (b + c)
  · exact products_in a b c ha hb hc h haw w
  · exact products_out a b c ha hb hc h haw w
end Go.Proofs.Ytclpigmomijliaa
