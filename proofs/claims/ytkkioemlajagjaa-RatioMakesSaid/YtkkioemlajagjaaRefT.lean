/-
  What the document's own Check, Same and Less (gavelkindref04) answer, for whatever rates. No conditions besides.
-/
import Derived.Test.YtkkioemlajagjaaRefR
import Derived.Test.YtkkioemlajagjaaRatM
namespace Go.Proofs.Ytkkioemlajagjaa
open Go.RowKit
set_option linter.unusedSimpArgs false
set_option linter.unusedVariables false

theorem ret_bool' {a b : Bool} (h : a = b) : Ending.returned (.bool a) = .returned (.bool b) := by rw [h]
set_option maxHeartbeats 400000 in
theorem rcheck_any (n d : Int) (w : World) :
    Calls Try.prog 8 #[.agg #[.int .i64 n, .int .i64 d]] w fun e w' => e = .returned (.int .i64 (rc n d)) ∧ Below w.heap.size w w' := by
  rcases Int.lt_or_le n 1 with h1 | h1
  · rw [rc_no (by unfold OkR; omega)]
    go_enter Try.func8, Try.ntmps8
    go_wp2_with fail
    go_ret
    exact ⟨rfl, below1 _ _⟩
  rcases Int.lt_or_le d 1 with h2 | h2
  · rw [rc_no (by unfold OkR; omega)]
    have d1 : decide (n < 1) = false := decide_eq_false (by omega)
    go_enter Try.func8, Try.ntmps8
    go_wp2_with fail
    go_ret
    exact ⟨rfl, below1 _ _⟩
  rcases Int.lt_or_le 1000000000000 n with h3 | h3
  · rw [rc_no (by unfold OkR; omega)]
    have d1 : decide (n < 1) = false := decide_eq_false (by omega)
    have d2 : decide (d < 1) = false := decide_eq_false (by omega)
    go_enter Try.func8, Try.ntmps8
    go_wp2_with fail
    go_ret
    exact ⟨rfl, below1 _ _⟩
  rcases Int.lt_or_le 1000000000000 d with h4 | h4
  · rw [rc_no (by unfold OkR; omega)]
    have d1 : decide (n < 1) = false := decide_eq_false (by omega)
    have d2 : decide (d < 1) = false := decide_eq_false (by omega)
    have d3 : decide (1000000000000 < n) = false := decide_eq_false (by omega)
    go_enter Try.func8, Try.ntmps8
    go_wp2_with fail
    go_ret
    exact ⟨rfl, below1 _ _⟩
  · rw [rc_ok (by unfold OkR; omega)]
    have d1 : decide (n < 1) = false := decide_eq_false (by omega)
    have d2 : decide (d < 1) = false := decide_eq_false (by omega)
    have d3 : decide (1000000000000 < n) = false := decide_eq_false (by omega)
    have d4 : decide (1000000000000 < d) = false := decide_eq_false (by omega)
    go_enter Try.func8, Try.ntmps8
    go_wp2_with fail
    go_ret
    exact ⟨rfl, below1 _ _⟩

theorem twobox' {w w1 : World} {p q r s : Value} {t t' : TypeId} (hb : Below ((w.alloc (.cells #[p, q] t)).alloc (.cells #[r, s] t')).drew.heap.size ((w.alloc (.cells #[p, q] t)).alloc (.cells #[r, s] t')).drew w1) :
    w1.cell? ⟨w.heap.size, 0, none⟩ = some p ∧ w1.cell? ⟨w.heap.size, 1, none⟩ = some q ∧ w1.cell? ⟨w.heap.size + 1, 0, none⟩ = some r ∧ w1.cell? ⟨w.heap.size + 1, 1, none⟩ = some s := twobox ((Below.refl _ _).drew.trans hb)

set_option maxHeartbeats 1000000 in
theorem rcross_any (n d m f : Int) (hn : InR n) (hd : InR d) (hm : InR m) (hf : InR f) (w : World) :
    Calls Try.prog 26 #[.agg #[.int .i64 n, .int .i64 d], .agg #[.int .i64 m, .int .i64 f]] w fun e w' => e = .returned (.int .i64 (cmpv (n * f) (m * d))) ∧ Below w.heap.size w w' := by
  have ln := digs_19 hn; have ld := digs_19 hd; have lm := digs_19 hm; have lf := digs_19 hf
  have l1 := digs_len_times ln lf; have l2 := digs_len_times lm ld
  have l3 : (digs (n * f - m * d).natAbs).length ≤ 2000 := Nat.le_trans (digs_len_minus l1 l2) (by omega)
  have hT1 := fun (w : World) (v v' : Value) (h : Big w v n) (h' : Big w v' f) => btimes v v' n f w h h' (by omega) (by omega)
  have hT2 := fun (w : World) (v v' : Value) (h : Big w v m) (h' : Big w v' d) => btimes v v' m d w h h' (by omega) (by omega)
  have hC := fun (w : World) (v v' : Value) (h : Big w v (n * f)) (h' : Big w v' (m * d)) => bcmp v v' _ _ w h h' (by omega) (by omega) l3
  have hOn := of_any n hn; have hOd := of_any d hd; have hOm := of_any m hm; have hOf := of_any f hf
  generalize cmpv (n * f) (m * d) = c at *
  clear ln ld lm lf l1 l2 l3 hn hd hm hf
  have KH := Lib.hid ((Keeps.start w).new2 (.int .i64 n) (.int .i64 d) (.int .i64 m) (.int .i64 f) 23 23)
  go_enter Try.func26, Try.ntmps26
  go_wp2_with fail
  go_region_held3 (fun w' => w'.cell? ⟨w.heap.size + 1, 0, none⟩ = some (.int .i64 m) ∧ w'.cell? ⟨w.heap.size + 1, 1, none⟩ = some (.int .i64 f) ∧ w'.cell? ⟨w.heap.size, 0, none⟩ = some (.int .i64 n) ∧ w'.cell? ⟨w.heap.size, 1, none⟩ = some (.int .i64 d))
    (first | (exact K7.two) | (exact K6.two) | (exact K5.two) | (exact K4.two) | (exact K3.two) | (exact K2.two) | (exact K1.two) | (exact KH.out.drew.two))
    (first
      | (go_at_call 25; with_reducible refine (hOn _).mono ?_; rintro e w1 ⟨r1, rfl, hr1, hb1⟩; have K1 := KH.out.drew.below hb1; obtain ⟨z0, z1, z2, z3⟩ := K1.two)
      | (go_at_call 25; with_reducible refine (hOf _).mono ?_; rintro e w2 ⟨r2, rfl, hr2, hb2⟩; have K2 := K1.below hb2; have g1 := hr1.below hb2; obtain ⟨z0, z1, z2, z3⟩ := K2.two)
      | (go_at_call 30; with_reducible refine (hT1 _ _ _ g1 hr2).mono ?_; rintro e w3 ⟨r3, rfl, hr3, hb3⟩; have K3 := K2.below hb3; clear g1 hr1 hr2; obtain ⟨z0, z1, z2, z3⟩ := K3.two)
      | (go_at_call 25; with_reducible refine (hOm _).mono ?_; rintro e w4 ⟨r4, rfl, hr4, hb4⟩; have K4 := K3.below hb4; have g3 := hr3.below hb4; obtain ⟨z0, z1, z2, z3⟩ := K4.two)
      | (go_at_call 25; with_reducible refine (hOd _).mono ?_; rintro e w5 ⟨r5, rfl, hr5, hb5⟩; have K5 := K4.below hb5; have g4 := hr4.below hb5; have g5 := g3.below hb5; obtain ⟨z0, z1, z2, z3⟩ := K5.two)
      | (go_at_call 30; with_reducible refine (hT2 _ _ _ g4 hr5).mono ?_; rintro e w6 ⟨r6, rfl, hr6, hb6⟩; have K6 := K5.below hb6; have g6 := g5.below hb6; obtain ⟨z0, z1, z2, z3⟩ := K6.two)
      | (go_at_call 36; with_reducible refine (hC _ _ _ g6 hr6).mono ?_; rintro e w7 ⟨rfl, hb7⟩; have K7 := K6.below hb7; obtain ⟨z0, z1, z2, z3⟩ := K7.two))
  go_wp2_with fail
  go_ret
  exact ⟨rfl, K7.1⟩

set_option maxHeartbeats 1000000 in
theorem rsame_any (n d m f : Int) (hn : InR n) (hd : InR d) (hm : InR m) (hf : InR f) (w : World) :
    Calls Try.prog 12 #[.agg #[.int .i64 n, .int .i64 d], .agg #[.int .i64 m, .int .i64 f]] w fun e w' => e = .returned (.bool (decide (OkR n d) && decide (OkR m f) && cmpv (n * f) (m * d) == 0)) ∧ Below w.heap.size w w' := by
  have h1 := rcheck_any n d; have h2 := rcheck_any m f
  have hc := rcross_any n d m f hn hd hm hf
  generalize cmpv (n * f) (m * d) = c at *
  clear hn hd hm hf
  have K := (Keeps.start w).new2 (.int .i64 n) (.int .i64 d) (.int .i64 m) (.int .i64 f) 23 23
  by_cases ha : OkR n d
  · rw [rc_ok ha] at h1
    rw [decide_eq_true ha]
    by_cases hb : OkR m f
    · rw [rc_ok hb] at h2
      rw [decide_eq_true hb]
      clear ha hb
      go_enter Try.func12, Try.ntmps12
      go_wp2_with fail
      refine (h1 _).mono ?_; rintro e w1 ⟨rfl, hb1⟩
      replace K := K.below hb1; clear hb1
      obtain ⟨z0, z1, z2, z3⟩ := K.two
      go_wp2_with fail
      refine (h2 _).mono ?_; rintro e w2 ⟨rfl, hb2⟩
      replace K := K.below hb2; clear hb2 z0 z1 z2 z3
      obtain ⟨z0, z1, z2, z3⟩ := K.two
      go_wp2_with fail
      refine (hc _).mono ?_; rintro e w3 ⟨rfl, hb3⟩
      replace K := K.below hb3; clear hb3 z0 z1 z2 z3
      go_wp2_with fail
      go_ret
      exact ⟨ret_bool' (by simp), K.1⟩
    · have hz := rc_b hb
      rw [decide_eq_false hb]
      generalize rc m f = e2 at *
      clear ha hb
      go_enter Try.func12, Try.ntmps12
      go_wp2_with fail
      refine (h1 _).mono ?_; rintro e w1 ⟨rfl, hb1⟩
      replace K := K.below hb1; clear hb1
      obtain ⟨z0, z1, z2, z3⟩ := K.two
      go_wp2_with fail
      refine (h2 _).mono ?_; rintro e w2 ⟨rfl, hb2⟩
      replace K := K.below hb2; clear hb2 z0 z1 z2 z3
      go_wp2_with fail
      go_ret
      exact ⟨ret_bool' (by simp), K.1⟩
  · have hz := rc_b ha
    rw [decide_eq_false ha]
    generalize rc n d = e1 at *
    clear ha
    go_enter Try.func12, Try.ntmps12
    go_wp2_with fail
    refine (h1 _).mono ?_; rintro e w1 ⟨rfl, hb1⟩
    replace K := K.below hb1; clear hb1
    go_wp2_with fail
    go_ret
    exact ⟨ret_bool' (by simp), K.1⟩

set_option maxHeartbeats 1000000 in
theorem rless_any (n d m f : Int) (hn : InR n) (hd : InR d) (hm : InR m) (hf : InR f) (w : World) :
    Calls Try.prog 14 #[.agg #[.int .i64 n, .int .i64 d], .agg #[.int .i64 m, .int .i64 f]] w fun e w' => e = .returned (.bool (decide (OkR n d) && decide (OkR m f) && decide (cmpv (n * f) (m * d) < 0))) ∧ Below w.heap.size w w' := by
  have h1 := rcheck_any n d; have h2 := rcheck_any m f
  have hc := rcross_any n d m f hn hd hm hf
  generalize cmpv (n * f) (m * d) = c at *
  clear hn hd hm hf
  have K := (Keeps.start w).new2 (.int .i64 n) (.int .i64 d) (.int .i64 m) (.int .i64 f) 23 23
  by_cases ha : OkR n d
  · rw [rc_ok ha] at h1
    rw [decide_eq_true ha]
    by_cases hb : OkR m f
    · rw [rc_ok hb] at h2
      rw [decide_eq_true hb]
      clear ha hb
      go_enter Try.func14, Try.ntmps14
      go_wp2_with fail
      refine (h1 _).mono ?_; rintro e w1 ⟨rfl, hb1⟩
      replace K := K.below hb1; clear hb1
      obtain ⟨z0, z1, z2, z3⟩ := K.two
      go_wp2_with fail
      refine (h2 _).mono ?_; rintro e w2 ⟨rfl, hb2⟩
      replace K := K.below hb2; clear hb2 z0 z1 z2 z3
      obtain ⟨z0, z1, z2, z3⟩ := K.two
      go_wp2_with fail
      refine (hc _).mono ?_; rintro e w3 ⟨rfl, hb3⟩
      replace K := K.below hb3; clear hb3 z0 z1 z2 z3
      go_wp2_with fail
      go_ret
      exact ⟨ret_bool' (by simp), K.1⟩
    · have hz := rc_b hb
      rw [decide_eq_false hb]
      generalize rc m f = e2 at *
      clear ha hb
      go_enter Try.func14, Try.ntmps14
      go_wp2_with fail
      refine (h1 _).mono ?_; rintro e w1 ⟨rfl, hb1⟩
      replace K := K.below hb1; clear hb1
      obtain ⟨z0, z1, z2, z3⟩ := K.two
      go_wp2_with fail
      refine (h2 _).mono ?_; rintro e w2 ⟨rfl, hb2⟩
      replace K := K.below hb2; clear hb2 z0 z1 z2 z3
      go_wp2_with fail
      go_ret
      exact ⟨ret_bool' (by simp), K.1⟩
  · have hz := rc_b ha
    rw [decide_eq_false ha]
    generalize rc n d = e1 at *
    clear ha
    go_enter Try.func14, Try.ntmps14
    go_wp2_with fail
    refine (h1 _).mono ?_; rintro e w1 ⟨rfl, hb1⟩
    replace K := K.below hb1; clear hb1
    go_wp2_with fail
    go_ret
    exact ⟨ret_bool' (by simp), K.1⟩

end Go.Proofs.Ytkkioemlajagjaa
