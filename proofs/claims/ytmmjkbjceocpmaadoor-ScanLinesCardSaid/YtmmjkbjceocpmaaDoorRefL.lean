/-
  What the document's own Times (of gavelkindref01) does: the product of two whole numbers. The condition: at most 600 digits and 400 digits.
-/
import Derived.Test.YtmmjkbjceocpmaaDoorRefK
namespace Go.Proofs.YtmmjkbjceocpmaaDoor
open Go.RowKit
set_option linter.unusedVariables false

set_option maxHeartbeats 2000000 in
set_option maxRecDepth 100000 in
theorem times_walk (s s' t : Bool) (m n : Nat) (v v' : Value) (w : World) (hv : Sl w v (digs m)) (hv' : Sl w v' (digs n)) (hm : (digs m).length ≤ 600) (hn : (digs n).length ≤ 400)
    (ht : t = ((s != s') && decide (0 < (digs (m * n)).length))) :
    Calls Tryd.prog 33 #[.agg #[.bool s, v], .agg #[.bool s', v']] w fun e w' => ∃ u, e = .returned (.agg #[.bool t, u]) ∧ Sl w' u (digs (m * n)) ∧ Below w.heap.size w w' := by
  obtain ⟨a, cap, rfl, hcap, hc0, hA⟩ := hv
  obtain ⟨b, cap', rfl, hcap', hc0', hB⟩ := hv'
  clear hcap hcap' hc0 hc0'
  have HT := Lib.hid ht; clear ht
  obtain ⟨A, hAe⟩ : ∃ A, A = digs m := ⟨_, rfl⟩
  obtain ⟨B, hBe⟩ : ∃ B, B = digs n := ⟨_, rfl⟩
  have dA : Digs A := by rw [hAe]; exact digs_ok m
  have dB : Digs B := by rw [hBe]; exact digs_ok n
  have vA : dval A = m := by rw [hAe]; exact dval_digs m
  have vB : dval B = n := by rw [hBe]; exact dval_digs n
  have hLen : Hid (∀ k N : Nat, (N : Int) = m * dval (B.take k) → (digs N).length ≤ 1000) := fun k N hN => by rw [hBe] at hN; exact times_len hN hm hn
  rw [← hAe] at hA hm ⊢
  rw [← hBe] at hB hn ⊢
  have H : Hid (Digs A ∧ Digs B ∧ dval A = m ∧ dval B = n) := ⟨dA, dB, vA, vB⟩
  clear dA dB vA vB hAe hBe
  go_enter Tryd.func33, Tryd.ntmps33
  go_wp2
  go_loopw [5, 6] (fun o i wr => TimesRel m B s s' (.slice a A.length cap) (.slice b B.length cap') w o i wr) (fun _ i _ => B.length - (intOf i).toNat)
  case atStart => exact ⟨0, 0, Nat.zero_le _, rfl, by rw [digs_zero]; exact (Own.nil _ 0).sl (by simp), by simp [dval], Box3.init _ _ _ _ _ _ _ _, below3 _ _ _ _⟩
  case round =>
    obtain ⟨i, N, hi, rfl, hSl, hN, hbox, hb⟩ := hrel
    obtain ⟨w0, hw0⟩ : ∃ w0, w0 = wr := ⟨_, rfl⟩
    subst hw0
    have HN := Lib.hid hN; clear hN
    have HBX := Lib.hid hbox
    obtain ⟨k0, k1, k2, k3, k4, k5, k6, k7, k8⟩ := hbox
    by_cases hlt : i < B.length
    · obtain ⟨c', off', rfl, hc'⟩ := (hB.below hb).2 i hlt
      obtain ⟨y, hy⟩ : ∃ y, y = B.getD i 0 := ⟨_, rfl⟩
      have hy09 := getD_in B H.out.2.1 i
      rw [← hy] at hc' hy09
      have HY := Lib.hid hy; clear hy
      go_wp2
      go_loopw [7, 8] (fun r k wk => ∃ j : Nat, j ≤ i ∧ k = .int .i64 j ∧ Own wk w0.heap.size r (List.replicate j 0) ∧ Below w0.heap.size w0 wk) (fun _ k _ => i - (intOf k).toNat)
      case atStart => exact ⟨0, Nat.zero_le _, rfl, Own.nil _ _, Below.refl _ _⟩
      case round =>
        obtain ⟨j, hj, rfl, hown, hbk⟩ := hrel
        by_cases hjl : j < i
        · go_wp2_with (at_builtin; refine wp_push wr rfl (.tmp 24) (.tmp 25) rfl w0.heap.size _ (List.replicate j 0) _ rfl hown rfl (by simp; omega) hbk.size ?_; intro v1 w1 hown1 hb1)
          go_roundw
          case rel => exact ⟨j + 1, by omega, by go_num, by rw [List.replicate_succ']; exact hown1, hbk.trans hb1⟩
          case measure => simp [intOf]; omega
        · obtain rfl : i = j := by omega
          go_wp2
          go_loopw [7, 9, 10] (fun r c k wk => RowRel A y i w0 r c k wk) (fun _ _ k _ => A.length + 1 - (intOf k).toNat)
          case atStart => exact ⟨0, 0, [], by omega, fun _ => rfl, by omega, by omega, rfl, fun d hd => by (cases hd), by simp [dval], rfl, rfl, by simpa using hown, hbk⟩
          case round =>
            clear hown hbk
            obtain ⟨k, cc, P, hk, hke, hc1, hc2, hPl, hPd, hval, rfl, rfl, hown, hbk⟩ := hrel
            have HV := Lib.hid (And.intro hke (And.intro hPl (And.intro hPd hval)))
            have hPk : P.length ≤ 602 := by omega
            clear hke hPl hPd hval
            have hx09 := getD_in A H.out.1 k
            obtain ⟨k0', k1', k2', k3', k4', k5', k6', k7', k8'⟩ := HBX.out.below hbk
            by_cases h1 : k < A.length
            · obtain ⟨c, off, rfl, hc⟩ := ((hA.below hb).below hbk).2 k h1
              have hc'' : wr.cell? ⟨c', off' + i, none⟩ = some (.int .i64 y) := cell_later hbk hc'
              obtain ⟨x, hx⟩ : ∃ x, x = A.getD k 0 := ⟨_, rfl⟩
              rw [← hx] at hc hx09
              have hp0 : 0 ≤ x * y := Int.mul_nonneg hx09.1 hy09.1
              have hp1 : x * y ≤ 9 * y := Int.mul_le_mul_of_nonneg_right hx09.2 hy09.1
              have hp : x * y ≤ 81 := by omega
              have HX := Lib.hid hx; clear hx hp1
              have hk1 : (k : Int) < (A.length : Int) := by omega
              have hi1 : (i : Int) < (B.length : Int) := by omega
              go_wp2
              go_quiet (fail)
              go_wp2_with (at_builtin; refine wp_push (wr.drewN _) rfl (.tmp 57) (.tmp 60) rfl w0.heap.size _ (List.replicate i 0 ++ P) _ rfl (hown.drewN _) rfl (by simp; omega) hbk.size ?_; intro v1 w1 hown1 hb1)
              go_roundw
              case rel => exact row_next HV.out (by rw [← HX.out]) hc1 hc2 (by rw [← HX.out]; exact hp0) (by rw [← HX.out]; exact hp) hk (.inl h1) hown1 ((below_drewN hbk _).trans hb1)
              case measure => simp [intOf]; omega
            · have hd1 : decide (k < A.length) = false := by simpa using h1
              by_cases h3 : cc = 0
              · subst h3
                have HS : Hid (Sl wr u7 (List.replicate i 0 ++ P)) := hown.sl (digs_inR (digs_zeros HV.out.2.2.1))
                have HE : Hid ((dval (List.replicate i 0 ++ P)).toNat = 10 ^ i * (m * y.toNat)) := row_last HV.out.2.2.2 (by omega) H.out.2.2.1 hy09.1
                have HNX : Hid (((N + 10 ^ i * (m * y.toNat) : Nat) : Int) = m * dval (B.take (i + 1))) := times_next HN.out HY.out hy09.1
                go_wp2_with fail
                refine (trim_any u7 _ wr HS.out (digs_zeros HV.out.2.2.1) (by simp; omega)).mono ?_; rintro e w2 ⟨v2, rfl, hs2, rfl⟩
                rw [HE.out] at hs2
                go_wp2_with fail
                refine (more_any u5 v2 N _ wr (hSl.below hbk) hs2 (by have := hLen.out i N HN.out; omega) ?_).mono ?_
                · have h1 := hLen.out (i + 1) _ HNX.out
                  have h2 := digs_len_mono (show 10 ^ i * (m * y.toNat) ≤ N + 10 ^ i * (m * y.toNat) by omega)
                  omega
                rintro e w3 ⟨v3, rfl, hs3, hb3⟩
                have hbk3 := hbk.trans (hb3.mono hbk.size)
                go_wp2
                go_roundw
                case rel => exact ⟨i + 1, _, by omega, by go_num, hs3, HNX.out, HBX.out.below hbk3, hb.trans (hbk3.mono hb.size)⟩
                case measure => simp [intOf]; omega
              · have hpos : 0 < cc := by omega
                have hkm : k ≤ A.length := by
                  by_cases hh : k = A.length + 1
                  · exact absurd (HV.out.1 hh) h3
                  · omega
                have HX : Hid (0 = A.getD k 0) := (getD_past A k (by omega)).symm
                go_wp2_with (at_builtin; refine wp_push wr rfl (.tmp 57) (.tmp 60) rfl w0.heap.size _ (List.replicate i 0 ++ P) _ rfl hown rfl (by simp; omega) hbk.size ?_; intro v1 w1 hown1 hb1)
                go_roundw
                case rel => exact row_next (d := cc) HV.out (by rw [← HX.out]; simp) hc1 hc2 (by rw [← HX.out]; simp) (by rw [← HX.out]; simp) hk (.inr hpos) hown1 (hbk.trans hb1)
                case measure => simp [intOf]; omega
    · obtain rfl : B.length = i := by omega
      have HM : Hid (N = m * n) := by
        have h := HN.out
        rw [List.take_length, H.out.2.2.2] at h
        show N = m * n
        have e : ((m * n : Nat) : Int) = (m : Int) * n := by simp
        omega
      have hlN := hLen.out _ N HN.out
      obtain ⟨ra, rc, rfl⟩ := hSl.form
      obtain ⟨lr, hlr⟩ : ∃ lr, lr = (digs N).length := ⟨_, rfl⟩
      have hT : s = s' ∧ t = false ∨ (s == s') = false ∧ t = decide (0 < lr) := by
        have h := HT.out
        rw [← HM.out, ← hlr] at h
        cases s <;> cases s' <;> simp_all
      have hR : Hid (Sl w0 (.slice ra lr rc) (digs (m * n))) := by rw [hlr, ← HM.out]; exact hSl
      rw [← hlr] at *
      clear hlr hSl
      have hfin : ∀ tt : Bool, Hid (∃ u, (Ending.returned (.agg #[.bool tt, .slice ra lr rc]) : Ending) = .returned (.agg #[.bool tt, u]) ∧ Sl ((w0.setCell ⟨w.heap.size + 1 + 1, 0, none⟩ (.bool tt)).setCell ⟨w.heap.size + 1 + 1, 1, none⟩ (.slice ra lr rc)) u (digs (m * n)) ∧
          Below w.heap.size w ((w0.setCell ⟨w.heap.size + 1 + 1, 0, none⟩ (.bool tt)).setCell ⟨w.heap.size + 1 + 1, 1, none⟩ (.slice ra lr rc))) := fun tt =>
        ⟨_, rfl, hR.out.set2 k4 k5, (hb.setCell (by show w.heap.size ≤ w.heap.size + 1 + 1; omega) _).setCell (by show w.heap.size ≤ w.heap.size + 1 + 1; omega) _⟩
      rcases hT with ⟨rfl, rfl⟩ | ⟨hss, ht⟩
      · go_wp2
        exact bodyPost_ret (v := .agg #[.bool false, .slice ra lr rc]) (by simp [results, Tryd.results33, go_sem, k4, k5]) rfl (hfin false).out
      · have hne : (s != s') = true := by simpa [bne] using hss
        by_cases hl0 : 0 < lr
        · rw [show decide (0 < lr) = true by simpa using hl0] at ht
          subst ht
          go_wp2
          exact bodyPost_ret (v := .agg #[.bool true, .slice ra lr rc]) (by simp [results, Tryd.results33, go_sem, k4, k5]) rfl (hfin true).out
        · rw [show decide (0 < lr) = false by simpa using hl0] at ht
          subst ht
          obtain rfl : lr = 0 := by omega
          go_wp2
          exact bodyPost_ret (v := .agg #[.bool false, .slice ra 0 rc]) (by simp [results, Tryd.results33, go_sem, k4, k5]) rfl (hfin false).out

/-- Times. -/
theorem btimes (v v' : Value) (x y : Int) (w : World) (hv : Big w v x) (hv' : Big w v' y) (hl : (digs x.natAbs).length ≤ 600) (hl' : (digs y.natAbs).length ≤ 400) :
    Calls Tryd.prog 33 #[v, v'] w fun e w' => ∃ u, e = .returned u ∧ Big w' u (x * y) ∧ Below w.heap.size w w' := by
  obtain ⟨u, rfl, hu⟩ := hv
  obtain ⟨u', rfl, hu'⟩ := hv'
  refine (times_walk _ _ _ x.natAbs y.natAbs u u' w hu hu' hl hl' rfl).mono ?_
  rintro e w' ⟨r, rfl, hr, hb⟩
  refine ⟨_, rfl, ⟨r, ?_, by rw [Int.natAbs_mul]; exact hr⟩, hb⟩
  have e : ((decide (x < 0) != decide (y < 0)) && decide (0 < (digs (x.natAbs * y.natAbs)).length)) = decide (x * y < 0) := by
    by_cases hx : x = 0
    · subst hx; simp [digs_zero]
    · by_cases hy : y = 0
      · subst hy; simp [digs_zero]
      · have hp : 0 < (digs (x.natAbs * y.natAbs)).length := digs_pos_len (Nat.mul_ne_zero (by omega) (by omega))
        have h1 : decide (0 < (digs (x.natAbs * y.natAbs)).length) = true := by simpa using hp
        rw [h1, Bool.and_true]
        rcases Int.lt_or_gt_of_ne hx with h | h <;> rcases Int.lt_or_gt_of_ne hy with h' | h'
        · have := Int.mul_pos_of_neg_of_neg h h'
          rw [decide_eq_true h, decide_eq_true h', decide_eq_false (by omega)]; rfl
        · have := Int.mul_neg_of_neg_of_pos h h'
          rw [decide_eq_true h, decide_eq_false (by omega), decide_eq_true this]; rfl
        · have := Int.mul_neg_of_pos_of_neg h h'
          rw [decide_eq_false (by omega), decide_eq_true h', decide_eq_true this]; rfl
        · have := Int.mul_pos h h'
          rw [decide_eq_false (by omega), decide_eq_false (by omega), decide_eq_false (by omega)]; rfl
  rw [e]
theorem digs_len_times {x y : Int} {a b : Nat} (hx : (digs x.natAbs).length ≤ a) (hy : (digs y.natAbs).length ≤ b) : (digs (x * y).natAbs).length ≤ a + b := by
  rw [Int.natAbs_mul]; exact digs_len_mul hx hy
end Go.Proofs.YtmmjkbjceocpmaaDoor
