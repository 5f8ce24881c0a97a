/-
  What the document's own lowest terms (gavelkindref04.Lowest) are. The condition: whole numbers above 0 of at most 300 digits.
-/
import Derived.Test.YtebjmnppeohdiaaRf4
import Derived.Test.YtebjmnppeohdiaaRt1
import Derived.Deep.DeepCutAuto
import Derived.Deep.RegionWith
namespace Go.Proofs.Ytebjmnppeohdiaa
open Go.RowKit
set_option linter.unusedSimpArgs false
set_option linter.unusedVariables false

theorem rdivisor_w (X Y : Nat) (v v' : Value) (w : World) (hv : Big w v (X : Int)) (hv' : Big w v' (Y : Int)) (hx : 0 < X) (hl : (digs X).length ≤ 300) (hl' : (digs Y).length ≤ 300) :
    Calls Try.prog 65 #[v, v'] w fun e w' => ∃ a c, e = .returned (.agg #[.bool false, .slice a (digs (Nat.gcd X Y)).length c]) ∧ Big w' (.agg #[.bool false, .slice a (digs (Nat.gcd X Y)).length c]) ((Nat.gcd X Y : Nat) : Int) ∧ Below w.heap.size w w' := by
  refine (rdivisor_any X Y v v' w hv hv' hx hl hl').mono ?_
  rintro e w' ⟨u, rfl, hu, hb⟩
  obtain ⟨a, c, rfl⟩ := hu.form
  rw [nat_neg, Int.natAbs_natCast] at hu ⊢
  exact ⟨a, c, rfl, hu, hb⟩
theorem ndiv_len {X g k : Nat} (h : (digs X).length ≤ k) : (digs (X / g)).length ≤ k := Nat.le_trans (digs_len_mono (Nat.div_le_self X g)) h
theorem nat_inR {N : Nat} (h : N ≤ 1000000000000) : InR (N : Int) := by unfold InR; omega
theorem ncmp_gt {N : Nat} (h : 1000000000000 < N) : cmpv (N : Int) 1000000000000 = 1 := by unfold cmpv; rw [if_neg (by omega), if_pos (by omega)]
theorem ncmp_le {N : Nat} (h : N ≤ 1000000000000) : cmpv (N : Int) 1000000000000 = 0 ∨ cmpv (N : Int) 1000000000000 = -1 := by
  unfold cmpv; split
  · exact Or.inr rfl
  · rw [if_neg (by omega)]; exact Or.inl rfl

set_option maxHeartbeats 8000000 in
set_option maxRecDepth 100000 in
theorem rlowest_any (X Y : Nat) (v v' : Value) (w : World) (hv : Big w v (X : Int)) (hv' : Big w v' (Y : Int)) (hx : 0 < X) (hy : 0 < Y) (hl : (digs X).length ≤ 300) (hl' : (digs Y).length ≤ 300) :
    Calls Try.prog 57 #[v, v'] w fun e w' => e = .returned (.tuple #[.agg #[.int .i64 (lown X Y), .int .i64 (lowd X Y)], .bool (decide (LowOk X Y))]) ∧ Below w.heap.size w w' := by
  obtain ⟨a0, c0, rfl⟩ := hv.form
  obtain ⟨b0, f0, rfl⟩ := hv'.form
  rw [nat_neg, Int.natAbs_natCast] at hv hv' ⊢
  rw [nat_neg, Int.natAbs_natCast]
  have hgp : 0 < Nat.gcd X Y := Nat.gcd_pos_of_pos_left Y hx
  have lg : (digs (Nat.gcd X Y)).length ≤ 300 := Nat.le_trans (digs_len_mono (Nat.le_of_dvd hx (Nat.gcd_dvd_left X Y))) hl
  have lN : (digs (X / Nat.gcd X Y)).length ≤ 300 := ndiv_len hl
  have lD : (digs (Y / Nat.gcd X Y)).length ≤ 300 := ndiv_len hl'
  have hM : InR 1000000000000 := by unfold InR; omega
  have lM := digs_19 hM
  have hG := fun (w : World) (v v' : Value) (h : Big w v (X : Int)) (h' : Big w v' (Y : Int)) => rdivisor_w X Y v v' w h h' hx hl hl'
  have hD1 := fun (w : World) (v v' : Value) (h : Big w v (X : Int)) (h' : Big w v' ((Nat.gcd X Y : Nat) : Int)) => bdiv_n X (Nat.gcd X Y) w v v' h h' hgp (by omega) (by omega)
  have hD2 := fun (w : World) (v v' : Value) (h : Big w v (Y : Int)) (h' : Big w v' ((Nat.gcd X Y : Nat) : Int)) => bdiv_n Y (Nat.gcd X Y) w v v' h h' hgp (by omega) (by omega)
  have hOM := of_any 1000000000000 hM
  have hC1 := fun (w : World) (v v' : Value) (h : Big w v ((X / Nat.gcd X Y : Nat) : Int)) (h' : Big w v' 1000000000000) => bcmp v v' _ _ w h h' (by rw [Int.natAbs_natCast]; omega) (by omega) (Nat.le_trans (digs_len_minus (k := 300) (by rw [Int.natAbs_natCast]; omega) (by omega)) (by omega))
  have hC2 := fun (w : World) (v v' : Value) (h : Big w v ((Y / Nat.gcd X Y : Nat) : Int)) (h' : Big w v' 1000000000000) => bcmp v v' _ _ w h h' (by rw [Int.natAbs_natCast]; omega) (by omega) (Nat.le_trans (digs_len_minus (k := 300) (by rw [Int.natAbs_natCast]; omega) (by omega)) (by omega))
  have hI1 := fun (w : World) (v : Value) (h : Big w v ((X / Nat.gcd X Y : Nat) : Int)) => bint v _ w h (by rw [Int.natAbs_natCast]; omega)
  have hI2 := fun (w : World) (v : Value) (h : Big w v ((Y / Nat.gcd X Y : Nat) : Int)) => bint v _ w h (by rw [Int.natAbs_natCast]; omega)
  have HQ : Hid ((cmpv ((X / Nat.gcd X Y : Nat) : Int) 1000000000000 = 1 ∧ lown X Y = 0 ∧ lowd X Y = 0 ∧ decide (LowOk X Y) = false) ∨
      ((cmpv ((X / Nat.gcd X Y : Nat) : Int) 1000000000000 = 0 ∨ cmpv ((X / Nat.gcd X Y : Nat) : Int) 1000000000000 = -1) ∧ cmpv ((Y / Nat.gcd X Y : Nat) : Int) 1000000000000 = 1 ∧ lown X Y = 0 ∧ lowd X Y = 0 ∧ decide (LowOk X Y) = false) ∨
      ((cmpv ((X / Nat.gcd X Y : Nat) : Int) 1000000000000 = 0 ∨ cmpv ((X / Nat.gcd X Y : Nat) : Int) 1000000000000 = -1) ∧ (cmpv ((Y / Nat.gcd X Y : Nat) : Int) 1000000000000 = 0 ∨ cmpv ((Y / Nat.gcd X Y : Nat) : Int) 1000000000000 = -1) ∧
        lown X Y = tv ((X / Nat.gcd X Y : Nat) : Int) ∧ lowd X Y = tv ((Y / Nat.gcd X Y : Nat) : Int) ∧ decide (LowOk X Y) = true)) := by
    show _ ∨ _
    unfold lown lowd
    by_cases h1 : X / Nat.gcd X Y ≤ 1000000000000
    · right
      by_cases h2 : Y / Nat.gcd X Y ≤ 1000000000000
      · right
        have hk : LowOk X Y := ⟨h1, h2⟩
        exact ⟨ncmp_le h1, ncmp_le h2, by rw [if_pos hk, tv_in (nat_inR h1)], by rw [if_pos hk, tv_in (nat_inR h2)], decide_eq_true hk⟩
      · left
        have hk : ¬ LowOk X Y := fun h => h2 h.2
        exact ⟨ncmp_le h1, ncmp_gt (by omega), if_neg hk, if_neg hk, decide_eq_false hk⟩
    · left
      have hk : ¬ LowOk X Y := fun h => h1 h.1
      exact ⟨ncmp_gt (by omega), if_neg hk, if_neg hk, decide_eq_false hk⟩
  have HV := Lib.hid (And.intro (((hv.alloc (.cells #[.bool false, .slice a0 (digs X).length c0] 88)).alloc (.cells #[.bool false, .slice b0 (digs Y).length f0] 88)).alloc (.cells #[.int .i64 0, .int .i64 0] 43)) (((hv'.alloc (.cells #[.bool false, .slice a0 (digs X).length c0] 88)).alloc (.cells #[.bool false, .slice b0 (digs Y).length f0] 88)).alloc (.cells #[.int .i64 0, .int .i64 0] 43)))
  generalize lown X Y = on at *; generalize lowd X Y = od at *; generalize decide (LowOk X Y) = ok at *
  generalize X / Nat.gcd X Y = N at *; generalize Y / Nat.gcd X Y = D at *
  generalize X % Nat.gcd X Y = r1 at *; generalize Y % Nat.gcd X Y = r2 at *
  generalize Nat.gcd X Y = g at *
  generalize (digs X).length = lx at *; generalize (digs Y).length = ly at *; generalize (digs g).length = lg' at *; generalize (digs N).length = ln at *; generalize (digs D).length = ld at *; generalize (digs r1).length = l1 at *; generalize (digs r2).length = l2 at *
  generalize cmpv (N : Int) 1000000000000 = p1 at *; generalize cmpv (D : Int) 1000000000000 = p2 at *
  generalize tv (N : Int) = tn at *; generalize tv (D : Int) = td at *
  generalize decide (InR (N : Int)) = z1 at *; generalize decide (InR (D : Int)) = z2 at *
  clear hv hv' hx hy hl hl' hgp lg lN lD lM hM
  have K := ((Keeps.start w).new2 (.bool false) (.slice a0 lx c0) (.bool false) (.slice b0 ly f0) 88 88).alloc (.cells #[.int .i64 0, .int .i64 0] 43)
  have HO := Lib.hid (Ow2.new3 w (.cells #[.bool false, .slice a0 lx c0] 88) (.cells #[.bool false, .slice b0 ly f0] 88) (.int .i64 0) (.int .i64 0) 43)
  obtain ⟨z0, z3, z4, z5⟩ := K.two
  go_enter Try.func57, Try.ntmps57
  clear z0 z3 z4 z5
  go_wp2_with fail
  refine (hG _ _ _ HV.out.1 HV.out.2).mono ?_; rintro e w1 ⟨ag, cg, rfl, rg, hb1⟩
  replace K := (K.below hb1).new (.bool false) (.slice ag lg' cg) 88
  replace HO := Lib.hid ((HO.out.below hb1).alloc (.cells #[.bool false, .slice ag lg' cg] 88))
  replace HV := Lib.hid (And.intro ((HV.out.1.below hb1).alloc (.cells #[.bool false, .slice ag lg' cg] 88)) (And.intro ((HV.out.2.below hb1).alloc (.cells #[.bool false, .slice ag lg' cg] 88)) (rg.alloc (.cells #[.bool false, .slice ag lg' cg] 88))))
  clear rg hb1
  obtain ⟨k0, k1, k2, k3, k4, k5⟩ := K.three'
  go_wp2_with fail
  refine (hD1 _ _ _ HV.out.1 HV.out.2.2).mono ?_; rintro e w2 ⟨an, cn, am, cm, rfl, rn, rm, hb2⟩
  replace K := (K.below hb2).new2 (.bool false) (.slice an ln cn) (.bool false) (.slice am l1 cm) 88 88
  replace HO := Lib.hid (((HO.out.below hb2).alloc (.cells #[.bool false, .slice an ln cn] 88)).alloc (.cells #[.bool false, .slice am l1 cm] 88))
  replace HV := Lib.hid (And.intro (((HV.out.2.1.below hb2).alloc (.cells #[.bool false, .slice an ln cn] 88)).alloc (.cells #[.bool false, .slice am l1 cm] 88)) (And.intro (((HV.out.2.2.below hb2).alloc (.cells #[.bool false, .slice an ln cn] 88)).alloc (.cells #[.bool false, .slice am l1 cm] 88)) ((rn.alloc (.cells #[.bool false, .slice an ln cn] 88)).alloc (.cells #[.bool false, .slice am l1 cm] 88))))
  clear rn rm hb2 k0 k1 k2 k3 k4 k5
  obtain ⟨k0, k1, k2⟩ := K.2 (w1.heap.size, .bool false, .slice ag lg' cg) (by simp)
  obtain ⟨k3, k4, k5⟩ := K.2 (w.heap.size + 1, .bool false, .slice b0 ly f0) (by simp)
  go_wp2_with fail
  refine (hD2 _ _ _ HV.out.1 HV.out.2.1).mono ?_; rintro e w3 ⟨ad, cd, ae, ce, rfl, rd, re, hb3⟩
  replace K : Keeps w _ [(w2.heap.size, .bool false, .slice an ln cn)] := ⟨(((K.below hb3).new2 (.bool false) (.slice ad ld cd) (.bool false) (.slice ae l2 ce) 88 88)).1, fun b hb => ((K.below hb3).new2 (.bool false) (.slice ad ld cd) (.bool false) (.slice ae l2 ce) 88 88).2 b (by simp at hb; subst hb; simp)⟩
  have KD : At2 _ w3.heap.size (.bool false) (.slice ad ld cd) := (At2.new w3 (.bool false) (.slice ad ld cd) 88).alloc (.cells #[.bool false, .slice ae l2 ce] 88)
  replace HO := Lib.hid (((HO.out.below hb3).alloc (.cells #[.bool false, .slice ad ld cd] 88)).alloc (.cells #[.bool false, .slice ae l2 ce] 88))
  replace HV := Lib.hid (And.intro (((HV.out.2.2.below hb3).alloc (.cells #[.bool false, .slice ad ld cd] 88)).alloc (.cells #[.bool false, .slice ae l2 ce] 88)) ((rd.alloc (.cells #[.bool false, .slice ad ld cd] 88)).alloc (.cells #[.bool false, .slice ae l2 ce] 88)))
  replace K : Keeps w _ [(w2.heap.size, .bool false, .slice an ln cn), (w3.heap.size, .bool false, .slice ad ld cd)] := ⟨K.1, by intro b hb; simp at hb; rcases hb with rfl | rfl; exact K.at0; exact KD⟩
  clear rd re hb3 k0 k1 k2 k3 k4 k5 KD
  have KH := Lib.hid K
  clear K
  go_upto_region 4 with fail
  go_cut [39] (fun s wx => ∃ t : Bool, s = .bool t ∧ Keeps w wx [(w2.heap.size, .bool false, .slice an ln cn), (w3.heap.size, .bool false, .slice ad ld cd)] ∧ Ow2 wx (w.heap.size + 1 + 1) (.int .i64 0) (.int .i64 0) ∧
      Big wx (.agg #[.bool false, .slice an ln cn]) (N : Int) ∧ Big wx (.agg #[.bool false, .slice ad ld cd]) (D : Int) ∧ ((t = true ∧ on = 0 ∧ od = 0 ∧ ok = false) ∨ (t = false ∧ on = tn ∧ od = td ∧ ok = true)))
  case first =>
    rcases HQ.out with ⟨rfl, q1, q2, q3⟩ | ⟨hp, rfl, q1, q2, q3⟩ | ⟨hp, hp', q1, q2, q3⟩
    · have Q := Lib.hid (And.intro q1 (And.intro q2 q3))
      clear q1 q2 q3
      obtain ⟨x0, x1, x2, x3⟩ := KH.out.drew.two
      go_region_with (first
          | (go_at_call 59; with_reducible refine (hOM _).mono ?_; rintro e w5 ⟨u5, rfl, hu5, hb5⟩
             first
               | (have K5 := Lib.hid (K6.out.below hb5); have o5 := Lib.hid (o6.out.below hb5); have v5 := Lib.hid (And.intro (v6.out.1.below hb5) (v6.out.2.below hb5)); obtain ⟨y0, y1, y2, y3⟩ := K5.out.two)
               | (have K5 := Lib.hid (KH.out.drew.below hb5); have o5 := Lib.hid (HO.out.drew.below hb5); have v5 := Lib.hid (And.intro (HV.out.1.drawn.below hb5) (HV.out.2.drawn.below hb5)); obtain ⟨y0, y1, y2, y3⟩ := K5.out.two))
          | (go_at_call 67; (first | with_reducible refine (hC1 _ _ _ v5.out.1 hu5).mono ?_ | with_reducible refine (hC2 _ _ _ v5.out.2 hu5).mono ?_); rintro e w6 ⟨rfl, hb6⟩
             have K6 := Lib.hid (K5.out.below hb6); have o6 := Lib.hid (o5.out.below hb6); have v6 := Lib.hid (And.intro (v5.out.1.below hb6) (v5.out.2.below hb6)); obtain ⟨y0, y1, y2, y3⟩ := K6.out.two))
      all_goals go_wp2_with fail
      all_goals go_meet
      all_goals exact ⟨true, rfl, K6.out, o6.out, v6.out.1, v6.out.2, Or.inl ⟨rfl, Q.out.1, Q.out.2.1, Q.out.2.2⟩⟩
    · have Q := Lib.hid (And.intro q1 (And.intro q2 q3))
      clear q1 q2 q3
      have hp1 : decide (0 < p1) = false := decide_eq_false (by omega)
      clear hp
      go_region_held3 (fun w' => w'.cell? ⟨w2.heap.size, 0, none⟩ = some (.bool false) ∧ w'.cell? ⟨w2.heap.size, 1, none⟩ = some (.slice an ln cn) ∧ w'.cell? ⟨w3.heap.size, 0, none⟩ = some (.bool false) ∧ w'.cell? ⟨w3.heap.size, 1, none⟩ = some (.slice ad ld cd))
        (first | (exact K5.out.two) | (exact K6.out.two) | (exact KH.out.drew.two))
        (first
          | (go_at_call 59; with_reducible refine (hOM _).mono ?_; rintro e w5 ⟨u5, rfl, hu5, hb5⟩
             first
               | (have K5 := Lib.hid (K6.out.below hb5); have o5 := Lib.hid (o6.out.below hb5); have v5 := Lib.hid (And.intro (v6.out.1.below hb5) (v6.out.2.below hb5)); obtain ⟨y0, y1, y2, y3⟩ := K5.out.two)
               | (have K5 := Lib.hid (KH.out.drew.below hb5); have o5 := Lib.hid (HO.out.drew.below hb5); have v5 := Lib.hid (And.intro (HV.out.1.drawn.below hb5) (HV.out.2.drawn.below hb5)); obtain ⟨y0, y1, y2, y3⟩ := K5.out.two))
          | (go_at_call 67; (first | with_reducible refine (hC1 _ _ _ v5.out.1 hu5).mono ?_ | with_reducible refine (hC2 _ _ _ v5.out.2 hu5).mono ?_); rintro e w6 ⟨rfl, hb6⟩
             have K6 := Lib.hid (K5.out.below hb6); have o6 := Lib.hid (o5.out.below hb6); have v6 := Lib.hid (And.intro (v5.out.1.below hb6) (v5.out.2.below hb6)); obtain ⟨y0, y1, y2, y3⟩ := K6.out.two))
      go_wp2_with fail
      go_meet
      exact ⟨true, rfl, K6.out, o6.out, v6.out.1, v6.out.2, Or.inl ⟨rfl, Q.out.1, Q.out.2.1, Q.out.2.2⟩⟩
    · have Q := Lib.hid (And.intro q1 (And.intro q2 q3))
      clear q1 q2 q3
      have hp1 : decide (0 < p1) = false := decide_eq_false (by omega)
      have hp2 : decide (0 < p2) = false := decide_eq_false (by omega)
      clear hp hp'
      go_region_held3 (fun w' => w'.cell? ⟨w2.heap.size, 0, none⟩ = some (.bool false) ∧ w'.cell? ⟨w2.heap.size, 1, none⟩ = some (.slice an ln cn) ∧ w'.cell? ⟨w3.heap.size, 0, none⟩ = some (.bool false) ∧ w'.cell? ⟨w3.heap.size, 1, none⟩ = some (.slice ad ld cd))
        (first | (exact K5.out.two) | (exact K6.out.two) | (exact KH.out.drew.two))
        (first
          | (go_at_call 59; with_reducible refine (hOM _).mono ?_; rintro e w5 ⟨u5, rfl, hu5, hb5⟩
             first
               | (have K5 := Lib.hid (K6.out.below hb5); have o5 := Lib.hid (o6.out.below hb5); have v5 := Lib.hid (And.intro (v6.out.1.below hb5) (v6.out.2.below hb5)); obtain ⟨y0, y1, y2, y3⟩ := K5.out.two)
               | (have K5 := Lib.hid (KH.out.drew.below hb5); have o5 := Lib.hid (HO.out.drew.below hb5); have v5 := Lib.hid (And.intro (HV.out.1.drawn.below hb5) (HV.out.2.drawn.below hb5)); obtain ⟨y0, y1, y2, y3⟩ := K5.out.two))
          | (go_at_call 67; (first | with_reducible refine (hC1 _ _ _ v5.out.1 hu5).mono ?_ | with_reducible refine (hC2 _ _ _ v5.out.2 hu5).mono ?_); rintro e w6 ⟨rfl, hb6⟩
             have K6 := Lib.hid (K5.out.below hb6); have o6 := Lib.hid (o5.out.below hb6); have v6 := Lib.hid (And.intro (v5.out.1.below hb6) (v5.out.2.below hb6)); obtain ⟨y0, y1, y2, y3⟩ := K6.out.two))
      go_wp2_with fail
      go_meet
      exact ⟨false, rfl, K6.out, o6.out, v6.out.1, v6.out.2, Or.inr ⟨rfl, Q.out.1, Q.out.2.1, Q.out.2.2⟩⟩
  case rest =>
    obtain ⟨t, rfl, K, o, rn, rd, hcase⟩ := hcut
    clear KH HO HV HQ
    have HO := Lib.hid o
    obtain ⟨⟨o0, o1, o2⟩, f1, f2⟩ := o
    rcases hcase with ⟨rfl, rfl, rfl, rfl⟩ | ⟨rfl, h1, h2, h3⟩
    · go_wp2_with fail
      refine bodyPost_ret (v := .tuple #[.agg #[.int .i64 0, .int .i64 0], .bool false]) (by simp [results, Try.results57, go_sem, o0, o1]) rfl ⟨rfl, ?_⟩
      exact below_set2 K.1 (by omega)
    · have HH := Lib.hid (And.intro h1 (And.intro h2 h3))
      clear h1 h2 h3 o0 o1 o2 f1 f2
      have HB := Lib.hid (And.intro rn rd)
      clear rn rd
      obtain ⟨y0, y1, y2, y3⟩ := K.two
      go_wp2_with fail
      refine (hI1 _ _ HB.out.1).mono ?_; rintro e w7 ⟨rfl, hb7⟩
      replace K := K.below hb7
      replace HO := Lib.hid (HO.out.below hb7)
      replace HB := Lib.hid (And.intro (HB.out.1.below hb7) (HB.out.2.below hb7))
      clear y0 y1 y2 y3 hb7
      obtain ⟨y0, y1, y2, y3⟩ := K.two
      go_wp2_with fail
      refine (hI2 _ _ HB.out.2).mono ?_; rintro e w8 ⟨rfl, hb8⟩
      replace K := K.below hb8
      replace HO := Lib.hid (HO.out.below hb8)
      clear y0 y1 y2 y3 hb8
      obtain ⟨⟨o0, o1, o2⟩, f1, f2⟩ := HO.out
      go_wp2_with fail
      refine bodyPost_ret (v := .tuple #[.agg #[.int .i64 tn, .int .i64 td], .bool true]) (by simp [results, Try.results57, go_sem, o0, o1]) rfl ⟨?_, ?_⟩
      · rw [HH.out.1, HH.out.2.1, HH.out.2.2]
      · exact below_set2 K.1 (by omega)
theorem rlowest_i (x y : Int) (v v' : Value) (w : World) (hv : Big w v x) (hv' : Big w v' y) (hx : 0 < x) (hy : 0 < y) (hl : (digs x.natAbs).length ≤ 300) (hl' : (digs y.natAbs).length ≤ 300) :
    Calls Try.prog 57 #[v, v'] w fun e w' => e = .returned (.tuple #[.agg #[.int .i64 (lown x.toNat y.toNat), .int .i64 (lowd x.toNat y.toNat)], .bool (decide (LowOk x.toNat y.toNat))]) ∧ Below w.heap.size w w' := by
  obtain ⟨X, rfl⟩ := Int.eq_ofNat_of_zero_le (Int.le_of_lt hx)
  obtain ⟨Y, rfl⟩ := Int.eq_ofNat_of_zero_le (Int.le_of_lt hy)
  rw [Int.natAbs_natCast] at hl hl'
  rw [Int.toNat_natCast, Int.toNat_natCast]
  exact rlowest_any X Y v v' w hv hv' (by omega) (by omega) hl hl'
end Go.Proofs.Ytebjmnppeohdiaa
