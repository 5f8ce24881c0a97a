/-
  What the document's own Div (of gavelkindref01) does: the quotient, rounded down, and what is left, of a whole number and one above 0. The condition: at most 400 digits each.
-/
import Derived.Test.YtebjmnppeohdiaaRf3
namespace Go.Proofs.Ytebjmnppeohdiaa
open Go.RowKit
set_option linter.unusedVariables false

theorem big_nat {w : World} {q : Value} {k : Nat} (h : Sl w q (digs k)) : Big w (.agg #[.bool false, q]) (k : Int) := by
  refine ⟨q, ?_, by rw [Int.natAbs_natCast]; exact h⟩
  rw [decide_eq_false (by omega)]

theorem below4 (w : World) (a b c d : Obj) : Below w.heap.size w ((((w.alloc a).alloc b).alloc c).alloc d) := (below3 w a b c).alloc (by simp; omega) _

theorem digs_one : digs 1 = [1] := by rw [digs_pos (by omega), show (1 : Nat) / 10 = 0 by omega, digs_zero]; rfl

theorem cell_set2 {B C i : Nat} {w : World} {p q u : Value} (hc : w.cell? ⟨C, i, none⟩ = some u) (h : C ≠ B) : ((w.setCell ⟨B, 0, none⟩ p).setCell ⟨B, 1, none⟩ q).cell? ⟨C, i, none⟩ = some u := by
  rw [World.cell?_setCell_other _ _ _ _ (by simp <;> omega), World.cell?_setCell_other _ _ _ _ (by simp <;> omega)]; exact hc
theorem Sl.set4 {w : World} {v p q p' q' : Value} {L : List Int} {B : Nat} (h : Sl w v L) (h4 : w.cell? ⟨B + 2, 0, none⟩ = some (.bool false)) (h5 : w.cell? ⟨B + 2, 1, none⟩ = some (.slice none 0 0))
    (h9 : w.cell? ⟨B + 3, 0, none⟩ = some (.bool false)) (h10 : w.cell? ⟨B + 3, 1, none⟩ = some (.slice none 0 0)) :
    Sl ((((w.setCell ⟨B + 1 + 1, 0, none⟩ p).setCell ⟨B + 1 + 1, 1, none⟩ q).setCell ⟨B + 1 + 1 + 1, 0, none⟩ p').setCell ⟨B + 1 + 1 + 1, 1, none⟩ q') v L :=
  (h.set2 (B := B + 2) h4 h5).set2 (B := B + 3) (cell_set2 h9 (by omega)) (cell_set2 h10 (by omega))
theorem Big.set4 {w : World} {v p q p' q' : Value} {x : Int} {B : Nat} (h : Big w v x) (h4 : w.cell? ⟨B + 2, 0, none⟩ = some (.bool false)) (h5 : w.cell? ⟨B + 2, 1, none⟩ = some (.slice none 0 0))
    (h9 : w.cell? ⟨B + 3, 0, none⟩ = some (.bool false)) (h10 : w.cell? ⟨B + 3, 1, none⟩ = some (.slice none 0 0)) :
    Big ((((w.setCell ⟨B + 1 + 1, 0, none⟩ p).setCell ⟨B + 1 + 1, 1, none⟩ q).setCell ⟨B + 1 + 1 + 1, 0, none⟩ p').setCell ⟨B + 1 + 1 + 1, 1, none⟩ q') v x := by
  obtain ⟨u, rfl, hu⟩ := h
  exact ⟨u, rfl, hu.set4 h4 h5 h9 h10⟩
theorem div_below {w w1 : World} {p q p' q' : Value} (hb : Below w.heap.size w w1) :
    Below w.heap.size w ((((w1.setCell ⟨w.heap.size + 1 + 1, 0, none⟩ p).setCell ⟨w.heap.size + 1 + 1, 1, none⟩ q).setCell ⟨w.heap.size + 1 + 1 + 1, 0, none⟩ p').setCell ⟨w.heap.size + 1 + 1 + 1, 1, none⟩ q') :=
  (((hb.setCell (by show w.heap.size ≤ w.heap.size + 1 + 1; omega) _).setCell (by show w.heap.size ≤ w.heap.size + 1 + 1; omega) _).setCell (by show w.heap.size ≤ w.heap.size + 1 + 1 + 1; omega) _).setCell (by show w.heap.size ≤ w.heap.size + 1 + 1 + 1; omega) _

theorem div_neg_zero {m n : Nat} (hn : 0 < n) (hz : m % n = 0) : (if true = true then -(m : Int) else m) / (n : Int) = -((m / n : Nat) : Int) ∧ (if true = true then -(m : Int) else m) % (n : Int) = 0 := by
  have h := Nat.div_add_mod m n
  rw [hz, Nat.add_zero] at h
  generalize m / n = q at *
  subst h
  rw [if_pos rfl]
  have e : -((n * q : Nat) : Int) = (n : Int) * (-(q : Int)) := by rw [Int.natCast_mul, Int.mul_neg]
  rw [e]
  exact ⟨Int.mul_ediv_cancel_left _ (by omega), Int.mul_emod_right _ _⟩
theorem div_neg_pos {m n : Nat} (hn : 0 < n) (hz : ¬ m % n = 0) : (if true = true then -(m : Int) else m) / (n : Int) = -((m / n + 1 : Nat) : Int) ∧ (if true = true then -(m : Int) else m) % (n : Int) = ((n - m % n : Nat) : Int) := by
  have h := Nat.div_add_mod m n
  have hlt := Nat.mod_lt m hn
  generalize m / n = q at *
  generalize m % n = r at *
  subst h
  rw [if_pos rfl]
  have e : -((n * q + r : Nat) : Int) = ((n - r : Nat) : Int) + (n : Int) * (-((q + 1 : Nat) : Int)) := by
    have h1 : ((n - r : Nat) : Int) = n - r := by omega
    have h2 : (n : Int) * (-((q + 1 : Nat) : Int)) = -((n : Int) * q) - n := by rw [Int.mul_neg, Int.natCast_add, Int.mul_add]; simp; omega
    rw [h1, h2, Int.natCast_add, Int.natCast_mul]; omega
  rw [e]
  refine ⟨?_, ?_⟩
  · rw [Int.add_mul_ediv_left _ _ (by omega), Int.ediv_eq_zero_of_lt (by omega) (by omega)]; omega
  · rw [Int.add_mul_emod_self_left, Int.emod_eq_of_lt (by omega) (by omega)]

set_option maxHeartbeats 4000000 in
set_option maxRecDepth 100000 in
theorem div_walk (s s' : Bool) (m n : Nat) (x y : Int) (hxs : x = if s = true then -(m : Int) else m) (hyn : y = n) (hn0 : 0 < n) (v v' : Value) (w : World) (hv : Sl w v (digs m)) (hv' : Sl w v' (digs n)) (hm : (digs m).length ≤ 400) (hn : (digs n).length ≤ 400) :
    Calls Try.prog 66 #[.agg #[.bool s, v], .agg #[.bool s', v']] w fun e w' => ∃ u1 u2, e = .returned (.tuple #[u1, u2]) ∧ Big w' u1 (x / y) ∧ Big w' u2 (x % y) ∧ Below w.heap.size w w' := by
  have HXY := Lib.hid (And.intro hxs (And.intro hyn hn0)); clear hxs hyn hn0
  have HB := Lib.hid hv'
  obtain ⟨a, cap, rfl, hcap, hc0, hA⟩ := hv
  obtain ⟨b, cap', rfl⟩ := hv'.form
  clear hcap hc0 hv'
  obtain ⟨A, hAe⟩ : ∃ A, A = digs m := ⟨_, rfl⟩
  have dA : Digs A := by rw [hAe]; exact digs_ok m
  have vA : dval A = m := by rw [hAe]; exact dval_digs m
  rw [← hAe] at hA hm ⊢
  have H : Hid (Digs A ∧ dval A = m) := ⟨dA, vA⟩
  have hlm : Hid ((digs m).length ≤ 400) := by rw [← hAe]; exact hm
  clear dA vA hAe
  go_enter Try.func66, Try.ntmps66
  go_wp2
  go_loopw [6, 7, 8] (fun q r i wr => DivRel m n A s s' (.slice a A.length cap) (.slice b (digs n).length cap') w q r i wr) (fun _ _ i _ => (intOf i + 1).toNat)
  case atStart =>
    refine ⟨A.length, 0, [], Nat.le_refl _, rfl, by rw [List.drop_length]; rfl, (Own.nil _ 0).sl (by simp), fun d hd => by (cases hd), by simp, by simp [dval], ?_, Box4.init _ _ _ _ _ _, below4 _ _ _ _ _⟩
    rw [Nat.zero_mod, digs_zero]; exact (Own.nil _ 0).sl (by simp)
  case round =>
    obtain ⟨k, V, Q, hk, hi, hV, hq, hQd, hQl, hQv, hr, hbox, hb⟩ := hrel
    obtain ⟨w0, hw0⟩ : ∃ w0, w0 = wr := ⟨_, rfl⟩
    subst hw0
    have HQ := Lib.hid (And.intro hV (And.intro hQd (And.intro hQl hQv))); clear hV hQd hQl hQv
    have HBX := Lib.hid hbox
    obtain ⟨⟨k0, k1, k2, k3, k4, k5, k6, k7, k8⟩, k9, k10, k11, k12, k13⟩ := hbox
    by_cases hk0 : k = 0
    · subst hk0
      simp at hi
      subst hi
      go_wp2_with fail
      have hVm : Hid (V = m) := by
        have h := HQ.out.1
        rw [List.drop_zero, H.out.2] at h
        show V = m
        omega
      refine (trim_any u6 Q w0 hq HQ.out.2.1 (by have := HQ.out.2.2.1; omega)).mono ?_; rintro e w2 ⟨v2, rfl, hs2, rfl⟩
      have e0 : (dval Q).toNat = m / n := by rw [HQ.out.2.2.2, hVm.out]; exact Int.toNat_natCast _
      rw [e0] at hs2
      rw [hVm.out] at hr
      clear e0
      have hlq : (digs (m / n)).length ≤ 500 := by have h1 := digs_len_mono (Nat.div_le_self m n); have h2 := hlm.out; omega
      obtain ⟨qa, qc, rfl⟩ := hs2.form
      obtain ⟨ra, rc, rfl⟩ := hr.form
      have hlr := digs_len_mod (V := m) HXY.out.2.2
      have HQ2 := Lib.hid hs2
      have HR2 := Lib.hid hr
      rcases s with _ | _
      · have HX : Hid (x / y = ((m / n : Nat) : Int) ∧ x % y = ((m % n : Nat) : Int)) := by
          have h := HXY.out
          rw [h.1, h.2.1]
          exact ⟨by simp, by simp⟩
        generalize (digs (m / n)).length = lq at *
        generalize (digs (m % n)).length = lr at *
        go_wp2
        refine bodyPost_ret (v := .tuple #[.agg #[.bool false, .slice qa lq qc], .agg #[.bool false, .slice ra lr rc]]) (by simp [results, Try.results66, go_sem, k4, k5, k9, k10]) rfl ⟨_, _, rfl, ?_, ?_, div_below hb⟩
        · rw [HX.out.1]; exact big_nat (HQ2.out.set4 k4 k5 k9 k10)
        · rw [HX.out.2]; exact big_nat (HR2.out.set4 k4 k5 k9 k10)
      · by_cases hz : m % n = 0
        · have HX : Hid (x / y = -((m / n : Nat) : Int) ∧ x % y = 0) := by
            have h := HXY.out
            rw [h.1, h.2.1]
            exact div_neg_zero h.2.2 hz
          have hl0 : (digs (m % n)).length = 0 := by rw [hz, digs_zero]; rfl
          have hFl := flip_any _ ((m / n : Nat) : Int) w0 (big_nat HQ2.out) (by rw [Int.natAbs_natCast]; omega)
          rw [hl0]
          clear HR2 hr hl0 hlr
          go_wp2_with fail
          refine hFl.mono ?_; rintro e w3 ⟨r3, rfl, hr3, hb3⟩
          obtain ⟨fa, fc, rfl⟩ := hr3.form
          obtain ⟨⟨p0, p1, p2, p3, p4, p5, p6, p7, p8⟩, p9, p10, p11, p12, p13⟩ := HBX.out.below hb3
          have HR3 := Lib.hid hr3; clear hr3
          generalize decide (-((m / n : Nat) : Int) < 0) = sf at *
          generalize (digs (-((m / n : Nat) : Int)).natAbs).length = lf at *
          go_wp2
          refine bodyPost_ret (v := .tuple #[.agg #[.bool sf, .slice fa lf fc], .agg #[.bool false, .slice none 0 0]]) (by simp [results, Try.results66, go_sem, p4, p5, p9, p10]) rfl ⟨_, _, rfl, ?_, ?_, div_below (hb.trans (hb3.mono hb.size))⟩
          · rw [HX.out.1]; exact HR3.out.set4 p4 p5 p9 p10
          · rw [HX.out.2]; exact big_nat (k := 0) (by rw [digs_zero]; exact (Own.nil _ 0).sl (by simp))
        · have HX : Hid (x / y = -((m / n + 1 : Nat) : Int) ∧ x % y = ((n - m % n : Nat) : Int)) := by
            have h := HXY.out
            rw [h.1, h.2.1]
            exact div_neg_pos h.2.2 hz
          have hlp : 0 < (digs (m % n)).length := digs_pos_len hz
          have hne : (((digs (m % n)).length : Int) == 0) = false := beq_eq_false_iff_ne.2 (by omega)
          have hle : m % n ≤ n := Nat.le_of_lt (Nat.mod_lt m HXY.out.2.2)
          have a3 : (w0.drew.alloc (.cells #[.int .i64 1] 3)).cell? ⟨w.heap.size + 1, 1, none⟩ = some (.slice b (digs n).length cap') := by rw [World.cell?_alloc_lt _ _ _ (by show w.heap.size + 1 < w0.heap.size; omega)]; exact k3
          have hba : Below w0.heap.size w0 (w0.drew.alloc (.cells #[.int .i64 1] 3)) := (Below.refl _ _).drew.alloc (Nat.le_refl _) _
          have hone : Sl (w0.drew.alloc (.cells #[.int .i64 1] 3)) (.slice (some ⟨w0.heap.size, 0, none⟩) 1 1) (digs 1) := by rw [digs_one]; exact (Own.one w0.drew 1).sl (by simp [InR])
          have hMo := more_any _ _ (m / n) 1 _ (HQ2.out.below hba) hone (by omega) (by rw [digs_one]; simp)
          have hl1 : (digs (m / n + 1)).length ≤ 900 := Nat.le_trans (digs_len_add (k := 500) hlq (by rw [digs_one]; simp)) (by omega)
          have hFe := fun w1 (hb1 : Below w0.heap.size w0 w1) => fewer_any _ _ n (m % n) w1 hle (HB.out.below (hb.trans (hb1.mono hb.size))) (HR2.out.below hb1) (by omega)
          have h23 : Hid ((digs (n - m % n)).length ≤ 400) := by have := digs_len_mono (show n - m % n ≤ n by omega); show _ ≤ _; omega
          clear hr hs2 hq hone
          go_wp2_with fail
          go_region_held3 (fun w' => w'.cell? ⟨w.heap.size + 1, 1, none⟩ = some (.slice b (digs n).length cap')) (first | (exact k3) | (exact a3) | (exact m3) | (exact f3) | (exact g3) | (exact cell_set2 g3 (by omega)) | (exact cell_set2 (cell_set2 g3 (by omega)) (by omega)))
            (first
              | (go_at_call 69; refine hMo.mono ?_; rintro e w3 ⟨v3, rfl, hs3, hb3⟩; have hba3 := hba.trans (hb3.mono hba.size); have m3 := cell_later hb3 a3; obtain ⟨ma, mc, rfl⟩ := hs3.form)
              | (go_at_call 77; refine (flip_any _ ((m / n + 1 : Nat) : Int) _ (big_nat hs3) (by rw [Int.natAbs_natCast]; omega)).mono ?_; rintro e w4 ⟨v4, rfl, hs4, hb4⟩; have hba4 := hba3.trans (hb4.mono hba3.size); have f3 := cell_later hb4 m3)
              | (go_at_call 76; refine (hFe _ hba4).mono ?_; rintro e w5 ⟨v5, rfl, hs5, hb5⟩; have hba5 := hba4.trans (hb5.mono hba4.size); have g3 := cell_later hb5 f3; obtain ⟨ga, gc, rfl⟩ := hs5.form; obtain ⟨fa, fc, rfl⟩ := hs4.form; obtain ⟨⟨p0, p1, p2, p3, p4, p5, p6, p7, p8⟩, p9, p10, p11, p12, p13⟩ := HBX.out.below hba5))
          go_wp2
          refine bodyPost_ret (v := .tuple #[.agg #[.bool (decide (-((m / n + 1 : Nat) : Int) < 0)), .slice fa (digs (-((m / n + 1 : Nat) : Int)).natAbs).length fc], .agg #[.bool false, .slice ga (digs (n - m % n)).length gc]]) (by simp [results, Try.results66, go_sem, p4, p5, p9, p10]) rfl ⟨_, _, rfl, ?_, ?_, div_below (hb.trans (hba5.mono hb.size))⟩
          · rw [HX.out.1]; exact (hs4.below hb5).set4 p4 p5 p9 p10
          · rw [HX.out.2]; exact big_nat (hs5.set4 p4 p5 p9 p10)
    · obtain ⟨j, rfl⟩ : ∃ j, k = j + 1 := ⟨k - 1, by omega⟩
      have hi' : u8 = .int .i64 (j : Int) := by rw [hi]; congr 1; omega
      clear hi
      subst hi'
      obtain ⟨c, off, rfl, hc⟩ := (hA.below hb).2 j (by omega)
      have hlt : j < A.length := by omega
      obtain ⟨z, hz⟩ : ∃ z, z = A.getD j 0 := ⟨_, rfl⟩
      have hz09 := getD_in A H.out.1 j
      rw [← hz] at hc hz09
      have HZ := Lib.hid hz; clear hz
      have hlr := digs_len_mod (V := V) HXY.out.2.2
      go_wp2_with (at_builtin; refine wp_cons w0 rfl (.tmp 23) (.tmp 24) rfl z (digs (V % n)) _ rfl rfl hr (by omega) (by unfold InR; omega) ?_; intro v1 w1 hs1 hb1)
      obtain ⟨R, hR⟩ : ∃ R, R = 10 * (V % n) + z.toNat := ⟨_, rfl⟩
      have hRn : R < 10 * n := by have := Nat.mod_lt V HXY.out.2.2; omega
      have hRl : (digs R).length ≤ 401 := Nat.le_trans (digs_len R ((digs n).length + 1) (by rw [Nat.pow_succ]; have := lt_pow10 n; omega)) (by omega)
      have hdz : Digs (z :: digs (V % n)) := by
        intro d hd
        rcases List.mem_cons.1 hd with rfl | hd
        · exact hz09
        · exact digs_ok _ d hd
      have e0 : (dval (z :: digs (V % n))).toNat = R := by rw [dval, dval_digs, hR]; omega
      refine (trim_any v1 _ w1 hs1 hdz (by simp; omega)).mono ?_; rintro e w2 ⟨v2, rfl, hs2, rfl⟩
      rw [e0] at hs2
      have HR := Lib.hid (And.intro hR hRn)
      clear e0 hdz hR hs1
      go_wp2
      go_loopw [7, 9] (fun r c wk => ∃ t : Nat, t * n ≤ R ∧ c = .int .i64 t ∧ Sl wk r (digs (R - t * n)) ∧ Below w0.heap.size w0 wk) (fun _ c _ => R / n + 1 - (intOf c).toNat)
      case atStart => exact ⟨0, by omega, rfl, by simpa using hs2, hb1⟩
      case round =>
        clear hs2 hb1
        obtain ⟨t, htR, rfl, hsr, hbk⟩ := hrel
        have htn : t ≤ R / n := (Nat.le_div_iff_mul_le HXY.out.2.2).2 htR
        have ht9 : t < 10 := by
          have h1 := HR.out.2
          have h2 : R / n < 10 := Nat.div_lt_of_lt_mul (by rw [Nat.mul_comm]; exact h1)
          omega
        have hl1 : (digs (R - t * n)).length ≤ 1000 := by have := digs_len_mono (show R - t * n ≤ R by omega); omega
        have HT := Lib.hid (And.intro htR htn); clear htR htn
        obtain ⟨⟨k0', k1', k2', k3', k4', k5', k6', k7', k8'⟩, k9', k10', k11', k12', k13'⟩ := HBX.out.below hbk
        have hb0k := hb.trans (hbk.mono hb.size)
        by_cases hge : n ≤ R - t * n
        · have hD := digits_any _ _ (R - t * n) n _ hsr (HB.out.below hb0k) hl1 (by omega)
          obtain ⟨cm, hcm, hcm0⟩ : ∃ cm, cm = cmpv ((R - t * n : Nat) : Int) n ∧ 0 ≤ cm := ⟨_, rfl, by unfold cmpv; split <;> (try split) <;> omega⟩
          rw [← hcm] at hD
          clear hcm
          go_wp2_with fail
          refine hD.mono ?_; rintro e w3 ⟨rfl, hb3⟩
          have hbk3 := hbk.trans (hb3.mono hbk.size)
          obtain ⟨⟨p0, p1, p2, p3, p4, p5, p6, p7, p8⟩, p9, p10, p11, p12, p13⟩ := HBX.out.below hbk3
          have HE : Hid (R - t * n - n = R - (t + 1) * n ∧ (t + 1) * n ≤ R) := by
            show _ ∧ _
            rw [Nat.succ_mul]; omega
          have hF := fewer_any _ _ (R - t * n) n w3 hge (hsr.below hb3) ((HB.out.below hb0k).below hb3) hl1
          have HG := Lib.hid hge; clear hge
          go_wp2_with fail
          refine hF.mono ?_; rintro e w4 ⟨v4, rfl, hs4, hb4⟩
          rw [HE.out.1] at hs4
          go_wp2
          go_roundw
          case rel => exact ⟨t + 1, HE.out.2, by go_num, hs4, hbk3.trans (hb4.mono hbk3.size)⟩
          case measure =>
            have h1 := (Nat.le_div_iff_mul_le HXY.out.2.2).2 HE.out.2
            simp [intOf]; omega
        · have hD := digits_any _ _ (R - t * n) n _ hsr (HB.out.below hb0k) hl1 (by omega)
          rw [cmp_lt (by omega)] at hD
          have HG := Lib.hid hge; clear hge
          have HDG := Lib.hid (div_dig (V := V) (d := z.toNat) (j := t) HXY.out.2.2 (by omega) (by have := HR.out.1; have := HT.out.1; omega) (by have := HR.out.1; have := HG.out; omega))
          go_wp2_with fail
          refine hD.mono ?_; rintro e w3 ⟨rfl, hb3⟩
          have hbk3 := hbk.trans (hb3.mono hbk.size)
          go_wp2_with (at_builtin; refine wp_cons w3 rfl (.tmp 39) (.tmp 40) rfl _ Q _ rfl rfl (hq.below hbk3) (by have := HQ.out.2.2.1; omega) (by unfold InR; omega) ?_; intro v5 w5 hs5 hb5)
          have hbk5 := hbk3.trans (hb5.mono hbk3.size)
          go_roundw
          case rel =>
            refine ⟨j, z.toNat + 10 * V, (t : Int) :: Q, by omega, rfl, drop_val hlt HZ.out hz09.1 HQ.out.1, hs5, ?_, by have := HQ.out.2.2.1; simp; omega, ?_, ?_, HBX.out.below hbk5, hb.trans (hbk5.mono hb.size)⟩
            · intro d hd
              rcases List.mem_cons.1 hd with rfl | hd
              · omega
              · exact HQ.out.2.1 d hd
            · rw [dval, HQ.out.2.2.2, HDG.out.2.1]; omega
            · rw [HDG.out.2.2, ← HR.out.1]; exact (hsr.below hb3).below hb5
          case measure => simp [intOf]

/-- Div. -/
theorem bdiv (v v' : Value) (x y : Int) (w : World) (hv : Big w v x) (hv' : Big w v' y) (hy : 0 < y) (hl : (digs x.natAbs).length ≤ 400) (hl' : (digs y.natAbs).length ≤ 400) :
    Calls Try.prog 66 #[v, v'] w fun e w' => ∃ u1 u2, e = .returned (.tuple #[u1, u2]) ∧ Big w' u1 (x / y) ∧ Big w' u2 (x % y) ∧ Below w.heap.size w w' := by
  obtain ⟨u, rfl, hu⟩ := hv
  obtain ⟨u', rfl, hu'⟩ := hv'
  refine div_walk _ _ x.natAbs y.natAbs x y ?_ (by omega) (by omega) u u' w hu hu' hl hl'
  by_cases h : x < 0
  · rw [if_pos (by simpa using h)]; omega
  · rw [if_neg (by simpa using h)]; omega
end Go.Proofs.Ytebjmnppeohdiaa
