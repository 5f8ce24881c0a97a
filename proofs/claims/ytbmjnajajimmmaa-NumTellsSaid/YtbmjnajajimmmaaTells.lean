/-
  NumTells of layer 1 returns true, whatever two numbers it is given. No conditions.
-/
import Derived.Test.YtbmjnajajimmmaaAwake
import Derived.Test.YtbmjnajajimmmaaRefJ
namespace Go.Proofs.Ytbmjnajajimmmaa
open Go.RowKit
set_option linter.unusedVariables false

theorem big_abs {w : World} {x : Int} {s : Bool} {a : Option Addr} {l c : Nat} (h : Big w (.agg #[.bool s, .slice a l c]) x) : Big w (.agg #[.bool false, .slice a l c]) (x.natAbs : Int) := by
  obtain ⟨u, hu, hs⟩ := h
  simp at hu
  obtain ⟨_, rfl⟩ := hu
  refine ⟨_, ?_, by rw [Int.natAbs_natCast]; exact hs⟩
  rw [decide_eq_false (by omega)]

theorem field_D (s : Bool) (a : Option Addr) (l c : Nat) (w : World) : (Instr.field 29 (.agg #[.bool s, .slice a l c]) 1).run Try.prog w = .ok (.slice a l c) w := by kernel_rfl

set_option maxHeartbeats 2000000 in
set_option maxRecDepth 100000 in
theorem tells_any (a b : Int) (ha : InR a) (hb : InR b) (w : World) :
    Calls Try.prog 3 #[.int .i64 a, .int .i64 b] w fun e w' => e = .returned (.bool true) ∧ Below w.heap.size w w' := by
  have la : (digs a.natAbs).length ≤ 1000 := by have := digs_19 ha; omega
  have lb : (digs b.natAbs).length ≤ 1000 := by have := digs_19 hb; omega
  have lp : (digs (a + b).natAbs).length ≤ 900 := Nat.le_trans (digs_len_plus (digs_19 ha) (digs_19 hb)) (by omega)
  have lm : (digs (a - b).natAbs).length ≤ 900 := Nat.le_trans (digs_len_minus (digs_19 ha) (digs_19 hb)) (by omega)
  have lc : (digs (a - b).natAbs).length ≤ 2000 := by omega
  have ln : (digs (-a).natAbs).length ≤ 900 := by rw [Int.natAbs_neg]; have := digs_19 ha; omega
  have lq : (digs (a.natAbs : Int).natAbs).length ≤ 900 := by rw [Int.natAbs_natCast]; have := digs_19 ha; omega
  have H0 := Below.refl w.heap.size w
  have hfd := field_D
  go_enter Try.func3, Try.ntmps3
  go_wp2_with fail
  refine (add_any a b ha hb _).mono ?_; rintro e w' ⟨rfl, rfl⟩
  go_wp2_with fail
  refine (of_any a ha _).mono ?_; rintro e w1 ⟨r1, rfl, hr1, hb1⟩
  have H1 := H0.trans (hb1.mono H0.size)
  go_wp2_with fail
  refine (of_any b hb _).mono ?_; rintro e w2 ⟨r2, rfl, hr2, hb2⟩
  have H2 := H1.trans (hb2.mono H1.size)
  go_wp2_with fail
  refine (bplus _ _ a b _ (hr1.below hb2) hr2 la lb).mono ?_; rintro e w3 ⟨r3, rfl, hr3, hb3⟩
  have H3 := H2.trans (hb3.mono H2.size)
  go_wp2_with fail
  refine (told_any _ (a + b) _ hr3 lp).mono ?_; rintro e w4 ⟨rfl, hb4⟩
  have H4 := H3.trans (hb4.mono H3.size)
  clear hb1 hb2 hb3 hb4 hr1 hr2 hr3
  go_wp2_with fail
  refine (sub_any a b ha hb _).mono ?_; rintro e w' ⟨rfl, rfl⟩
  go_wp2_with fail
  refine (of_any a ha _).mono ?_; rintro e w5 ⟨r1, rfl, hr1, hb1⟩
  have H5 := H4.trans (hb1.mono H4.size)
  go_wp2_with fail
  refine (of_any b hb _).mono ?_; rintro e w6 ⟨r2, rfl, hr2, hb2⟩
  have H6 := H5.trans (hb2.mono H5.size)
  go_wp2_with fail
  refine (bminus _ _ a b _ (hr1.below hb2) hr2 la lb).mono ?_; rintro e w7 ⟨r3, rfl, hr3, hb3⟩
  have H7 := H6.trans (hb3.mono H6.size)
  go_wp2_with fail
  refine (told_any _ (a - b) _ hr3 lm).mono ?_; rintro e w8 ⟨rfl, hb4⟩
  have H8 := H7.trans (hb4.mono H7.size)
  clear hb1 hb2 hb3 hb4 hr1 hr2 hr3
  go_wp2_with fail
  refine (neg_any a ha _).mono ?_; rintro e w' ⟨rfl, rfl⟩
  go_wp2_with fail
  refine (of_any a ha _).mono ?_; rintro e w9 ⟨r1, rfl, hr1, hb1⟩
  have H9 := H8.trans (hb1.mono H8.size)
  go_wp2_with fail
  refine (flip_any _ a _ hr1 la).mono ?_; rintro e w10 ⟨r2, rfl, hr2, hb2⟩
  have H10 := H9.trans (hb2.mono H9.size)
  go_wp2_with fail
  refine (told_any _ (-a) _ hr2 ln).mono ?_; rintro e w11 ⟨rfl, hb4⟩
  have H11 := H10.trans (hb4.mono H10.size)
  clear hb1 hb2 hb4 hr1 hr2
  go_wp2_with fail
  refine (abs_any a ha _).mono ?_; rintro e w' ⟨rfl, rfl⟩
  go_wp2_with fail
  refine (of_any a ha _).mono ?_; rintro e w12 ⟨r1, rfl, hr1, hb1⟩
  have H12 := H11.trans (hb1.mono H11.size)
  obtain ⟨ra, rc, rfl⟩ := hr1.form
  go_wp2_with fail
  refine (told_any _ (a.natAbs : Int) _ (big_abs hr1) lq).mono ?_; rintro e w13 ⟨rfl, hb4⟩
  have H13 := H12.trans (hb4.mono H12.size)
  clear hb1 hb4 hr1
  go_wp2_with fail
  refine (cmp_any a b _).mono ?_; rintro e w' ⟨rfl, rfl⟩
  go_wp2_with fail
  refine (of_any a ha _).mono ?_; rintro e w14 ⟨r1, rfl, hr1, hb1⟩
  have H14 := H13.trans (hb1.mono H13.size)
  go_wp2_with fail
  refine (of_any b hb _).mono ?_; rintro e w15 ⟨r2, rfl, hr2, hb2⟩
  have H15 := H14.trans (hb2.mono H14.size)
  go_wp2_with fail
  refine (bcmp _ _ a b _ (hr1.below hb2) hr2 la lb lc).mono ?_; rintro e w16 ⟨rfl, hb3⟩
  have H16 := H15.trans (hb3.mono H15.size)
  clear hb1 hb2 hb3 hr1 hr2
  go_wp2_with fail
  refine (awake_any _).mono ?_; rintro e w17 ⟨rfl, hb4⟩
  have H17 := H16.trans (hb4.mono H16.size)
  go_wp2_with fail
  go_ret
  exact ⟨rfl, H17⟩

end Go.Proofs.Ytbmjnajajimmmaa
