/-
  ScaleNear of layer 3 answers true, for whatever numbers in range. No conditions besides.
-/
import Derived.Test.YtiegfehmhlabcaaScaK
namespace Go.Proofs.Ytiegfehmhlabcaa
open Go.RowKit
set_option linter.unusedSimpArgs false
set_option linter.unusedVariables false

set_option maxHeartbeats 4000000 in
set_option maxRecDepth 100000 in
theorem near_out (x0 x1 n d v e u f : Int) (he : (e == 0) = false) (hE : (e = 2 ∧ d < 1) ∨ ((e == 2) = false ∧ ¬ d < 1))
    (hS0 : ∀ w, Calls Try.prog 15 #[.int .i64 x0, .int .i64 n, .int .i64 d] w fun r w' => r = .returned (.tuple #[.int .i64 v, .int .i64 e]) ∧ Below w.heap.size w w')
    (hS1 : ∀ w, Calls Try.prog 15 #[.int .i64 x1, .int .i64 n, .int .i64 d] w fun r w' => r = .returned (.tuple #[.int .i64 u, .int .i64 f]) ∧ Below w.heap.size w w')
    (haw : ∀ w, Calls Try.prog 11 #[] w fun e w' => e = .returned (.bool true) ∧ Below w.heap.size w w') (w : World) :
    Calls Try.prog 6 #[.agg #[.int .i64 x0, .int .i64 x1], .int .i64 n, .int .i64 d] w fun e w' => e = .returned (.bool true) ∧ Below w.heap.size w w' := by
  have HE := Lib.hid hE
  clear hE
  have he' : (e != 0) = true := by simpa using he
  go_enter Try.func6, Try.ntmps6
  go_wp2_with fail
  refine (hS0 _).mono ?_; rintro r w1 ⟨rfl, hb1⟩
  have K := ((Keeps.start w).new (.int .i64 x0) (.int .i64 x1) 46).below hb1; clear hb1
  obtain ⟨z0, z1, z2⟩ := K.at0
  go_wp2_with fail
  refine (hS1 _).mono ?_; rintro r w2 ⟨rfl, hb2⟩
  replace K := K.below hb2; clear hb2 z0 z1 z2
  rcases HE.out with ⟨rfl, hd⟩ | ⟨h2, hd⟩
  · go_wp2_with fail
    refine (haw _).mono ?_; rintro r w3 ⟨rfl, hb3⟩
    replace K := K.below hb3
    go_wp2_with fail
    go_ret
    exact ⟨rfl, K.1⟩
  · have hdb : decide (d < 1) = false := decide_eq_false (by omega)
    clear hd
    go_wp2_with fail
    refine (haw _).mono ?_; rintro r w3 ⟨rfl, hb3⟩
    replace K := K.below hb3
    go_wp2_with fail
    go_ret
    exact ⟨rfl, K.1⟩

set_option maxHeartbeats 8000000 in
set_option maxRecDepth 100000 in
theorem near_in (x0 x1 n d v u f c : Int) (h0 : InR x0) (hn : InR n) (hd : InR d) (hv : InR v) (h1 : 1 ≤ d) (hc : (c = -1) ∨ (c = 0 ∧ v.tmod 2 = 0)) (ec : cmpv ((x0 * n - v * d).natAbs + (x0 * n - v * d).natAbs : Int) d = c)
    (hN : (x0 ≤ -9223372036854775808 ∨ (-9223372036854775808 < x0 ∧ v ≤ -9223372036854775808)) ∨ (-9223372036854775808 < x0 ∧ -9223372036854775808 < v ∧ ∀ w, Calls Try.prog 15 #[.int .i64 (-x0), .int .i64 n, .int .i64 d] w fun r w' => r = .returned (.tuple #[.int .i64 (-v), .int .i64 0]) ∧ Below w.heap.size w w'))
    (hL : (f == 0) = false ∨ n < 0 ∨ ((x1 < x0 ∧ u ≤ v) ∨ (x0 < x1 ∧ v ≤ u) ∨ (x0 = x1 ∧ v = u)))
    (hS0 : ∀ w, Calls Try.prog 15 #[.int .i64 x0, .int .i64 n, .int .i64 d] w fun r w' => r = .returned (.tuple #[.int .i64 v, .int .i64 0]) ∧ Below w.heap.size w w')
    (hS1 : ∀ w, Calls Try.prog 15 #[.int .i64 x1, .int .i64 n, .int .i64 d] w fun r w' => r = .returned (.tuple #[.int .i64 u, .int .i64 f]) ∧ Below w.heap.size w w')
    (haw : ∀ w, Calls Try.prog 11 #[] w fun e w' => e = .returned (.bool true) ∧ Below w.heap.size w w') (w : World) :
    Calls Try.prog 6 #[.agg #[.int .i64 x0, .int .i64 x1], .int .i64 n, .int .i64 d] w fun e w' => e = .returned (.bool true) ∧ Below w.heap.size w w' := by
  have l0 := digs_19 h0; have ln := digs_19 hn; have ld := digs_19 hd; have lv := digs_19 hv
  have lp := digs_len_times l0 ln; have lq := digs_len_times lv ld
  have lm := digs_len_minus (k := 38) lp lq
  have hO0 := of_any x0 h0; have hOn := of_any n hn; have hOd := of_any d hd; have hOv := of_any v hv
  have hT1 := fun (w : World) (a a' : Value) (h : Big w a x0) (h' : Big w a' n) => btimes a a' x0 n w h h' (by omega) (by omega)
  have hT2 := fun (w : World) (a a' : Value) (h : Big w a v) (h' : Big w a' d) => btimes a a' v d w h h' (by omega) (by omega)
  have hM := fun (w : World) (a a' : Value) (h : Big w a (x0 * n)) (h' : Big w a' (v * d)) => bminus a a' (x0 * n) (v * d) w h h' (by omega) (by omega)
  have la : (digs (((x0 * n - v * d).natAbs : Nat) : Int).natAbs).length ≤ 39 := by rw [Int.natAbs_natCast]; exact lm
  have lpp := digs_len_plus la la
  have lc := digs_len_minus (k := 40) lpp (Nat.le_trans ld (by omega))
  have hP := fun (w : World) (a a' : Value) (h : Big w a (((x0 * n - v * d).natAbs : Nat) : Int)) (h' : Big w a' (((x0 * n - v * d).natAbs : Nat) : Int)) => bplus a a' _ _ w h h' (by omega) (by omega)
  have hC := fun (w : World) (a a' : Value) (h : Big w a ((((x0 * n - v * d).natAbs : Nat) : Int) + (((x0 * n - v * d).natAbs : Nat) : Int))) (h' : Big w a' d) => bcmp a a' _ _ w h h' (by omega) (by omega) (by omega)
  rw [ec] at hC
  have hnv : wrap64 (-v) = -v ∨ v ≤ -9223372036854775808 := by
    unfold InR at hv; unfold wrap64; omega
  have hn0 : wrap64 (-x0) = -x0 ∨ x0 ≤ -9223372036854775808 := by
    unfold InR at h0; unfold wrap64; omega
  have HN := Lib.hid (And.intro hN (And.intro hnv hn0)); have HC := Lib.hid hc; have HL := Lib.hid hL
  have hd1 : decide (d < 1) = false := decide_eq_false (by omega)
  clear hN hc hL hnv hn0 l0 ln ld lv lp lq lm la lpp lc ec h0 hn hd hv h1
  generalize hz : x0 * n - v * d = z at *
  clear hz
  go_enter Try.func6, Try.ntmps6
  go_wp2_with fail
  refine (hS0 _).mono ?_; rintro r w1 ⟨rfl, hb1⟩
  have K := ((Keeps.start w).new (.int .i64 x0) (.int .i64 x1) 46).below hb1; clear hb1
  obtain ⟨z0, z1, z2⟩ := K.at0
  go_wp2_with fail
  refine (hS1 _).mono ?_; rintro r w2 ⟨rfl, hb2⟩
  replace K := K.below hb2; clear hb2 z0 z1 z2
  go_upto_if 32 with fail
  go_cut [] (fun wx => Keeps w wx [(w.heap.size, .int .i64 x0, .int .i64 x1)])
  case first =>
    obtain ⟨z0, z1, z2⟩ := K.at0
    go_wp2_with fail
    refine (hO0 _).mono ?_; rintro r w3 ⟨u3, rfl, hu3, hb3⟩
    replace K := K.below hb3; clear hb3
    go_wp2_with fail
    refine (hOn _).mono ?_; rintro r w4 ⟨u4, rfl, hu4, hb4⟩
    replace K := K.below hb4; replace hu3 := hu3.below hb4; clear hb4
    go_wp2_with fail
    refine (hT1 _ _ _ hu3 hu4).mono ?_; rintro r w5 ⟨u5, rfl, hu5, hb5⟩
    replace K := K.below hb5; clear hb5 hu3 hu4
    go_wp2_with fail
    refine (hOv _).mono ?_; rintro r w6 ⟨u6, rfl, hu6, hb6⟩
    replace K := K.below hb6; replace hu5 := hu5.below hb6; clear hb6
    go_wp2_with fail
    refine (hOd _).mono ?_; rintro r w7 ⟨u7, rfl, hu7, hb7⟩
    replace K := K.below hb7; replace hu5 := hu5.below hb7; replace hu6 := hu6.below hb7; clear hb7
    go_wp2_with fail
    refine (hT2 _ _ _ hu6 hu7).mono ?_; rintro r w8 ⟨u8, rfl, hu8, hb8⟩
    replace K := K.below hb8; replace hu5 := hu5.below hb8; clear hb8 hu6 hu7
    go_wp2_with fail
    refine (hM _ _ _ hu5 hu8).mono ?_; rintro r w9 ⟨u9, rfl, hu9, hb9⟩
    replace K := K.below hb9; clear hb9 hu5 hu8 z0 z1 z2
    obtain ⟨a9, c9, rfl⟩ := hu9.form
    have HA2 := Lib.hid (hu9.abs.alloc (.cells #[.bool false, .slice a9 (digs z.natAbs).length c9] 27))
    clear hu9
    generalize decide (z < 0) = sz at *; generalize (digs z.natAbs).length = lz at *
    have K2 := K.alloc (.cells #[.bool false, .slice a9 lz c9] 27)
    have KK := Lib.hid K2
    clear K K2
    go_wp2_with fail
    refine (hP _ _ _ HA2.out HA2.out).mono ?_; rintro r w10 ⟨u10, rfl, hu10, hb10⟩
    have K := KK.out.below hb10; clear hb10 KK HA2
    go_wp2_with fail
    refine (hOd _).mono ?_; rintro r w11 ⟨u11, rfl, hu11, hb11⟩
    replace K := K.below hb11; replace hu10 := hu10.below hb11; clear hb11
    go_wp2_with fail
    refine (hC _ _ _ hu10 hu11).mono ?_; rintro r w12 ⟨rfl, hb12⟩
    replace K := K.below hb12; clear hb12 hu10 hu11
    obtain ⟨z0, z1, z2⟩ := K.at0
    obtain ⟨hN, hnv, hn0⟩ := HN.out
    rcases HC.out with rfl | ⟨rfl, ht⟩
    · rcases hN with (g | ⟨g, g'⟩) | ⟨g, g', hS2⟩
      · clear hnv hn0
        have g1 : ¬ -9223372036854775808 < x0 := by omega
        go_wp2_with fail
        go_meet
        exact K
      · clear hnv hn0
        have g1 : ¬ -9223372036854775808 < v := by omega
        go_wp2_with fail
        go_meet
        exact K
      · have k1 : wrap64 (-v) = -v := by rcases hnv with h | h; exact h; omega
        have k2 : wrap64 (-x0) = -x0 := by rcases hn0 with h | h; exact h; omega
        clear hnv hn0
        go_wp2_with fail
        refine (hS2 _).mono ?_; rintro r w13 ⟨rfl, hb13⟩
        replace K := K.below hb13
        go_wp2_with fail
        go_meet
        exact K
    · rcases hN with (g | ⟨g, g'⟩) | ⟨g, g', hS2⟩
      · clear hnv hn0
        have g1 : ¬ -9223372036854775808 < x0 := by omega
        go_wp2_with fail
        go_meet
        exact K
      · clear hnv hn0
        have g1 : ¬ -9223372036854775808 < v := by omega
        go_wp2_with fail
        go_meet
        exact K
      · have k1 : wrap64 (-v) = -v := by rcases hnv with h | h; exact h; omega
        have k2 : wrap64 (-x0) = -x0 := by rcases hn0 with h | h; exact h; omega
        clear hnv hn0
        go_wp2_with fail
        refine (hS2 _).mono ?_; rintro r w13 ⟨rfl, hb13⟩
        replace K := K.below hb13
        go_wp2_with fail
        go_meet
        exact K
  case rest =>
    clear K HC HN hO0 hOn hOd hOv hT1 hT2 hM hP hC hS0 hS1
    have K := hcut; clear hcut
    obtain ⟨z0, z1, z2⟩ := K.at0
    by_cases hf : f = 0
    · subst hf
      by_cases hn : n < 0
      · go_wp2_with fail
        refine (haw _).mono ?_; rintro r w3 ⟨rfl, hb3⟩
        replace K := K.below hb3
        go_wp2_with fail
        go_ret
        exact ⟨rfl, K.1⟩
      · rcases HL.out with g | g | ⟨g, g'⟩ | ⟨g, g'⟩ | ⟨rfl, rfl⟩
        · simp at g
        · exact absurd g hn
        · have g1 : ¬ x0 < x1 := by omega
          go_wp2_with fail
          refine (haw _).mono ?_; rintro r w3 ⟨rfl, hb3⟩
          replace K := K.below hb3
          go_wp2_with fail
          go_ret
          exact ⟨rfl, K.1⟩
        · have g1 : ¬ x1 < x0 := by omega
          go_wp2_with fail
          refine (haw _).mono ?_; rintro r w3 ⟨rfl, hb3⟩
          replace K := K.below hb3
          go_wp2_with fail
          go_ret
          exact ⟨rfl, K.1⟩
        · have g1 : ¬ x0 < x0 := by omega
          have g2 : v ≤ v := by omega
          go_wp2_with fail
          refine (haw _).mono ?_; rintro r w3 ⟨rfl, hb3⟩
          replace K := K.below hb3
          go_wp2_with fail
          go_ret
          exact ⟨rfl, K.1⟩
    · have hf' : (f != 0) = true := by simpa using hf
      clear HL
      go_wp2_with fail
      refine (haw _).mono ?_; rintro r w3 ⟨rfl, hb3⟩
      replace K := K.below hb3
      go_wp2_with fail
      go_ret
      exact ⟨rfl, K.1⟩

theorem near_all (x0 x1 n d : Int) (h0 : InR x0) (hx1 : InR x1) (hn : InR n) (hd : InR d) (w : World) :
    Calls Try.prog 6 #[.agg #[.int .i64 x0, .int .i64 x1], .int .i64 n, .int .i64 d] w fun e w' => e = .returned (.bool true) ∧ Below w.heap.size w w' := by
  have hS0 := s_scale x0 n d h0 hn hd
  have hS1 := s_scale x1 n d hx1 hn hd
  by_cases hd1 : d < 1
  · rw [sv_no hd1, se_no hd1] at hS0
    exact near_out x0 x1 n d _ _ _ _ rfl (Or.inl ⟨rfl, hd1⟩) hS0 hS1 s_awake w
  · have h1 : 1 ≤ d := by omega
    have hl := last_ok x0 x1 n d h1
    unfold LastOk at hl
    rcases se_cases (nearv (x0 * n) d) d h1 with ⟨e1, e2, e3⟩ | e1
    · rw [e1, e2] at hS0
      rw [e1, e2] at hl
      refine near_in x0 x1 n d (nearv (x0 * n) d) _ _ _ h0 hn hd e3 h1 (near_off (x0 * n) d h1) rfl ?_ (by rcases hl with h | h; simp at h; exact h) hS0 hS1 s_awake w
      by_cases g0 : x0 ≤ -9223372036854775808
      · exact Or.inl (Or.inl g0)
      · by_cases g1 : nearv (x0 * n) d ≤ -9223372036854775808
        · exact Or.inl (Or.inr ⟨by omega, g1⟩)
        · right
          refine ⟨by omega, by omega, ?_⟩
          have hm : InR (-x0) := by unfold InR at h0 ⊢; omega
          have hv : InR (-(nearv (x0 * n) d)) := by unfold InR at e3 ⊢; omega
          have hS2 := s_scale (-x0) n d hm hn hd
          rw [Int.neg_mul, near_neg _ d h1, sv_yes h1, se_yes h1, tv_in hv, te_in hv] at hS2
          exact hS2
    · rw [e1] at hS0
      exact near_out x0 x1 n d _ _ _ _ rfl (Or.inr ⟨rfl, hd1⟩) hS0 hS1 s_awake w
end Go.Proofs.Ytiegfehmhlabcaa
