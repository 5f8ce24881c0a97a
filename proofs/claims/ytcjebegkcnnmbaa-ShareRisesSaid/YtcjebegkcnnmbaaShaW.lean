/-
  ShareRises of layer 5 answers true, for whatever two amounts and two shares in range. No conditions besides.
-/
import Derived.Test.YtcjebegkcnnmbaaShaH
namespace Go.Proofs.Ytcjebegkcnnmbaa
open Go.RowKit
set_option linter.unusedSimpArgs false
set_option linter.unusedVariables false

set_option maxHeartbeats 4000000 in
set_option maxRecDepth 100000 in
theorem rises5_ok (x y s t a b c : Int)
    (he : decide (x < 0) = true ∨ (decide (x < 0) = false ∧ decide (t < s) = true) ∨ (decide (x < 0) = false ∧ decide (t < s) = false ∧ decide (a ≤ b) = true))
    (hf : decide (y < x) = true ∨ (decide (y < x) = false ∧ decide (a ≤ c) = true))
    (hc0 : ∀ w, Calls Try.prog 11 #[.int .i64 s] w fun e w' => e = .returned (.int .i64 0) ∧ w = w')
    (hc1 : ∀ w, Calls Try.prog 11 #[.int .i64 t] w fun e w' => e = .returned (.int .i64 0) ∧ w = w')
    (h1 : ∀ w, Calls Try.prog 7 #[.int .i64 x, .int .i64 s] w fun e w' => e = .returned (.tuple #[.int .i64 a, .int .i64 0]) ∧ Below w.heap.size w w')
    (h2 : ∀ w, Calls Try.prog 7 #[.int .i64 x, .int .i64 t] w fun e w' => e = .returned (.tuple #[.int .i64 b, .int .i64 0]) ∧ Below w.heap.size w w')
    (h3 : ∀ w, Calls Try.prog 7 #[.int .i64 y, .int .i64 s] w fun e w' => e = .returned (.tuple #[.int .i64 c, .int .i64 0]) ∧ Below w.heap.size w w')
    (haw : ∀ w, Calls Try.prog 13 #[] w fun e w' => e = .returned (.bool true) ∧ Below w.heap.size w w') (w : World) :
    Calls Try.prog 6 #[.int .i64 x, .int .i64 y, .agg #[.int .i64 s, .int .i64 t]] w fun e w' => e = .returned (.bool true) ∧ Below w.heap.size w w' := by
  have HE := Lib.hid he; have HF := Lib.hid hf; clear he hf
  have K := (Keeps.start w).new (.int .i64 s) (.int .i64 t) 45
  go_enter Try.func6, Try.ntmps6
  go_wp2_with fail
  refine (hc0 _).mono ?_; rintro e w0 ⟨rfl, rfl⟩
  go_wp2_with fail
  refine (hc1 _).mono ?_; rintro e w0 ⟨rfl, rfl⟩
  go_wp2_with fail
  refine (h1 _).mono ?_; rintro e w1 ⟨rfl, hb1⟩
  replace K := K.below hb1; clear hb1
  obtain ⟨z0, z1, z2⟩ := K.at0
  go_wp2_with fail
  refine (h2 _).mono ?_; rintro e w2 ⟨rfl, hb2⟩
  replace K := K.below hb2; clear hb2 z0 z1 z2
  obtain ⟨z0, z1, z2⟩ := K.at0
  go_wp2_with fail
  refine (h3 _).mono ?_; rintro e w3 ⟨rfl, hb3⟩
  replace K := K.below hb3; clear hb3 z0 z1 z2
  obtain ⟨z0, z1, z2⟩ := K.at0
  clear hc0 hc1 h1 h2 h3
  rcases HE.out with d0 | ⟨d0, d1⟩ | ⟨d0, d1, d2⟩ <;> rcases HF.out with g0 | ⟨g0, g1⟩
  all_goals clear HE HF
  all_goals go_wp2_with fail
  all_goals (refine (haw _).mono ?_; rintro e w7 ⟨rfl, hb7⟩)
  all_goals replace K := K.below hb7
  all_goals go_wp2_with fail
  all_goals go_ret
  all_goals exact ⟨rfl, K.1⟩

set_option maxHeartbeats 2000000 in
theorem rises5_all (x y s t : Int) (hx : InR x) (hy : InR y) (w : World) :
    Calls Try.prog 6 #[.int .i64 x, .int .i64 y, .agg #[.int .i64 s, .int .i64 t]] w fun e w' => e = .returned (.bool true) ∧ Below w.heap.size w w' := by
  have hc0 := h_check s; have hc1 := h_check t
  have haw := h_awake
  by_cases hs : OkS s
  · by_cases ht : OkS t
    · have h1 := h_parent x s hx; have h2 := h_parent x t hx; have h3 := h_parent y s hy
      unfold parv at h1 h2 h3
      rw [shc_ok hs] at hc0 h1 h3; rw [shc_ok ht] at hc1 h2
      rw [if_pos hs] at h1 h3; rw [if_pos ht] at h2
      refine rises5_ok x y s t _ _ _ ?_ ?_ hc0 hc1 h1 h2 h3 haw w
      · by_cases g0 : x < 0
        · exact Or.inl (decide_eq_true g0)
        · by_cases g1 : t < s
          · exact Or.inr (Or.inl ⟨decide_eq_false g0, decide_eq_true g1⟩)
          · exact Or.inr (Or.inr ⟨decide_eq_false g0, decide_eq_false g1, decide_eq_true (near_mono' (by omega) (Int.mul_le_mul_of_nonneg_left (by omega) (by omega)))⟩)
      · by_cases g0 : y < x
        · exact Or.inl (decide_eq_true g0)
        · exact Or.inr ⟨decide_eq_false g0, decide_eq_true (near_mono' (by omega) (Int.mul_le_mul_of_nonneg_right (by omega) hs.1))⟩
    · rw [shc_ok hs] at hc0; rw [shc_no ht] at hc1
      clear hs ht hx hy
      go_enter Try.func6, Try.ntmps6
      go_wp2_with fail
      refine (hc0 _).mono ?_; rintro e w0 ⟨rfl, rfl⟩
      go_wp2_with fail
      refine (hc1 _).mono ?_; rintro e w0 ⟨rfl, rfl⟩
      go_wp2_with fail
      refine (haw _).mono ?_; rintro e w1 ⟨rfl, hb1⟩
      go_wp2_with fail
      go_ret
      exact ⟨rfl, (below1 _ _).trans (hb1.mono (by simp))⟩
  · rw [shc_no hs] at hc0
    clear hs hx hy hc1
    go_enter Try.func6, Try.ntmps6
    go_wp2_with fail
    refine (hc0 _).mono ?_; rintro e w0 ⟨rfl, rfl⟩
    go_wp2_with fail
    refine (haw _).mono ?_; rintro e w1 ⟨rfl, hb1⟩
    go_wp2_with fail
    go_ret
    exact ⟨rfl, (below1 _ _).trans (hb1.mono (by simp))⟩
end Go.Proofs.Ytcjebegkcnnmbaa
