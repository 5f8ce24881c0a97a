/-
  ShareParts of layer 5 answers true, for whatever amount and share in range. No conditions besides.
-/
import Derived.Test.YtcjebegkcnnmbaaShaH
import Derived.Test.YtcjebegkcnnmbaaRefJ
namespace Go.Proofs.Ytcjebegkcnnmbaa
open Go.RowKit
set_option linter.unusedSimpArgs false
set_option linter.unusedVariables false

set_option maxHeartbeats 4000000 in
set_option maxRecDepth 100000 in
theorem parts5_ok (x s p m : Int) (hx : InR x) (hp : InR p) (hm : InR m) (hsum : p + m = x)
    (hside : (0 < x ∧ 0 ≤ p ∧ p ≤ x ∧ 0 ≤ m ∧ m ≤ x) ∨ (x < 0 ∧ x ≤ p ∧ p ≤ 0 ∧ x ≤ m ∧ m ≤ 0) ∨ (x = 0 ∧ p = 0 ∧ m = 0))
    (hend : (s = 0 ∧ p = 0) ∨ (s = 10000 ∧ p = x) ∨ ((s != 0) = true ∧ (s != 10000) = true))
    (hc : ∀ w, Calls Try.prog 11 #[.int .i64 s] w fun e w' => e = .returned (.int .i64 0) ∧ w = w')
    (h1 : ∀ w, Calls Try.prog 7 #[.int .i64 x, .int .i64 s] w fun e w' => e = .returned (.tuple #[.int .i64 p, .int .i64 0]) ∧ Below w.heap.size w w')
    (h2 : ∀ w, Calls Try.prog 9 #[.int .i64 x, .int .i64 s] w fun e w' => e = .returned (.tuple #[.int .i64 m, .int .i64 0]) ∧ Below w.heap.size w w')
    (haw : ∀ w, Calls Try.prog 13 #[] w fun e w' => e = .returned (.bool true) ∧ Below w.heap.size w w') (w : World) :
    Calls Try.prog 5 #[.int .i64 x, .int .i64 s] w fun e w' => e = .returned (.bool true) ∧ Below w.heap.size w w' := by
  have lp := digs_19 hp; have lm := digs_19 hm
  have hOp := of_any p hp; have hOm := of_any m hm
  have hP := fun (w : World) (v v' : Value) (h : Big w v p) (h' : Big w v' m) => bplus v v' p m w h h' (by omega) (by omega)
  have lx := digs_19 hx
  rw [hsum] at hP
  have hI := fun (w : World) (v : Value) (h : Big w v x) => bint v x w h (by omega)
  rw [tv_in hx] at hI
  rw [decide_eq_true hx] at hI
  clear lp lm lx hsum hx hp hm
  have K := Keeps.start w
  have HS := Lib.hid hside; have HE := Lib.hid hend; clear hside hend
  go_enter Try.func5, Try.ntmps5
  go_wp2_with fail
  refine (hc _).mono ?_; rintro e w0 ⟨rfl, rfl⟩
  go_wp2_with fail
  refine (h1 _).mono ?_; rintro e w1 ⟨rfl, hb1⟩
  replace K := K.below hb1; clear hb1
  go_wp2_with fail
  refine (h2 _).mono ?_; rintro e w2 ⟨rfl, hb2⟩
  replace K := K.below hb2; clear hb2
  go_wp2_with fail
  refine (hOp _).mono ?_; rintro e w3 ⟨u3, rfl, hu3, hb3⟩
  replace K := K.below hb3; clear hb3
  go_wp2_with fail
  refine (hOm _).mono ?_; rintro e w4 ⟨u4, rfl, hu4, hb4⟩
  replace hu3 := hu3.below hb4; replace K := K.below hb4; clear hb4
  go_wp2_with fail
  refine (hP _ _ _ hu3 hu4).mono ?_; rintro e w5 ⟨u5, rfl, hu5, hb5⟩
  replace K := K.below hb5; clear hb5 hu3 hu4
  go_wp2_with fail
  refine (hI _ _ hu5).mono ?_; rintro e w6 ⟨rfl, hb6⟩
  replace K := K.below hb6; clear hb6 hu5
  clear hc h1 h2 hOp hOm hP hI
  rcases HS.out with ⟨c0, c1, c2, c3, c4⟩ | ⟨c0, c1, c2, c3, c4⟩ | ⟨rfl, rfl, rfl⟩
  · have d0 : decide (0 ≤ x) = true := decide_eq_true (by omega)
    have d1 : decide (p < 0) = false := decide_eq_false (by omega)
    have d2 : decide (x < p) = false := decide_eq_false (by omega)
    have d3 : decide (m < 0) = false := decide_eq_false (by omega)
    have d4 : decide (x < m) = false := decide_eq_false (by omega)
    have d5 : decide (x ≤ 0) = false := decide_eq_false (by omega)
    clear HS c0 c1 c2 c3 c4
    rcases HE.out with ⟨rfl, rfl⟩ | ⟨rfl, rfl⟩ | ⟨g1, g2⟩
    all_goals clear HE
    all_goals go_wp2_with fail
    all_goals (refine (haw _).mono ?_; rintro e w7 ⟨rfl, hb7⟩)
    all_goals replace K := K.below hb7
    all_goals go_wp2_with fail
    all_goals go_ret
    all_goals exact ⟨rfl, K.1⟩
  · have d0 : decide (0 ≤ x) = false := decide_eq_false (by omega)
    have d1 : decide (0 < p) = false := decide_eq_false (by omega)
    have d2 : decide (p < x) = false := decide_eq_false (by omega)
    have d3 : decide (0 < m) = false := decide_eq_false (by omega)
    have d4 : decide (m < x) = false := decide_eq_false (by omega)
    have d5 : decide (x ≤ 0) = true := decide_eq_true (by omega)
    clear HS c0 c1 c2 c3 c4
    rcases HE.out with ⟨rfl, rfl⟩ | ⟨rfl, rfl⟩ | ⟨g1, g2⟩
    all_goals clear HE
    all_goals go_wp2_with fail
    all_goals (refine (haw _).mono ?_; rintro e w7 ⟨rfl, hb7⟩)
    all_goals replace K := K.below hb7
    all_goals go_wp2_with fail
    all_goals go_ret
    all_goals exact ⟨rfl, K.1⟩
  · clear HS
    rcases HE.out with ⟨rfl, _⟩ | ⟨rfl, _⟩ | ⟨g1, g2⟩
    all_goals clear HE
    all_goals go_wp2_with fail
    all_goals (refine (haw _).mono ?_; rintro e w7 ⟨rfl, hb7⟩)
    all_goals replace K := K.below hb7
    all_goals go_wp2_with fail
    all_goals go_ret
    all_goals exact ⟨rfl, K.1⟩

set_option maxHeartbeats 1000000 in
theorem parts5_all (x s : Int) (hx : InR x) (w : World) :
    Calls Try.prog 5 #[.int .i64 x, .int .i64 s] w fun e w' => e = .returned (.bool true) ∧ Below w.heap.size w w' := by
  have hc := h_check s
  have haw := h_awake
  by_cases h : OkS s
  · have h1 := h_parent x s hx; have h2 := h_minor x s hx
    have hr := par_inR h hx
    unfold parv at h1; unfold minv at h2
    rw [shc_ok h] at hc h1 h2
    rw [if_pos h] at h1 h2
    refine parts5_ok x s _ _ hx hr.1 hr.2 (by omega) ?_ ?_ hc h1 h2 haw w
    · rcases Int.lt_trichotomy x 0 with q | q | q
      · have := par_neg h (x := x) (by omega)
        right; left; omega
      · have g1 := par_neg h (x := x) (by omega); have g2 := par_pos h (x := x) (by omega)
        right; right; omega
      · have := par_pos h (x := x) (by omega)
        left; omega
    · by_cases g1 : s = 0
      · subst g1; left; exact ⟨rfl, by rw [Int.mul_zero]; exact near_zero⟩
      · by_cases g2 : s = 10000
        · subst g2; right; left; exact ⟨rfl, near_whole x⟩
        · right; right; exact ⟨by simpa using g1, by simpa using g2⟩
  · rw [shc_no h] at hc
    clear h hx
    go_enter Try.func5, Try.ntmps5
    go_wp2_with fail
    refine (hc _).mono ?_; rintro e w0 ⟨rfl, rfl⟩
    go_wp2_with fail
    refine (haw _).mono ?_; rintro e w1 ⟨rfl, hb1⟩
    go_wp2_with fail
    go_ret
    exact ⟨rfl, hb1⟩
end Go.Proofs.Ytcjebegkcnnmbaa
