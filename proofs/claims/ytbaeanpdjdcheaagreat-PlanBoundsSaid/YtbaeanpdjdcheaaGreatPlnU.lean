/-
  PlanBounds of layer 15. No conditions.
-/
import Derived.Test.YtbaeanpdjdcheaaGreatPl2
namespace Go.Proofs.YtbaeanpdjdcheaaGreat
open Go.RowKit
set_option linter.unusedSimpArgs false
set_option linter.unusedVariables false

set_option maxHeartbeats 8000000 in
set_option maxRecDepth 100000 in
theorem bounds15 (m : Int) (a : Option Addr) (c : Nat) (l : List GA) (fa : Option Addr) (fc : Nat) (D : List Int) (ta : Option Addr) (tc : Nat) (T : List Bool) (w : World) (h : ActsG w a l) (hn : (l.length : Int) ≤ 9223372036854775807) (hr : Reads w fa D) (hT : ReadsB w ta T) :
    Calls Tryz.prog 4 #[.int .i64 m, .slice a l.length c, .agg #[.slice fa D.length fc, .slice ta T.length tc]] w fun e w' => e = .returned (.bool true) ∧ Below w.heap.size w w' := by
  have hb0 := below1 w (.cells #[.slice fa D.length fc, .slice ta T.length tc] 26)
  have hfew := few_c m a c l fa fc D ta tc T _ (h.below hb0) hn
  have H := Lib.hid (h.below hb0); have HR := Lib.hid hr; have HT := Lib.hid hT
  clear h hr hT
  cases hf : f15 m l D T with
  | false =>
    rw [hf] at hfew
    clear hf
    go_enter Tryz.func4, Tryz.ntmps4
    go_wp2_with fail
    refine hfew.mono ?_; clear hfew; rintro e w1 ⟨rfl, hb1⟩
    have hb1' := hb0.trans (hb1.mono hb0.size)
    have HB1 := Lib.hid hb1'
    clear hb0 hb1 hb1'
    go_wp2_with fail
    refine (awake15 _).mono ?_; rintro e w2 ⟨rfl, hb⟩
    have HEND := Lib.hid (HB1.out.trans (hb.mono HB1.out.size))
    clear hb
    go_wp2_with fail
    go_ret
    exact ⟨rfl, HEND.out⟩
  | true =>
    rw [hf] at hfew
    obtain ⟨hg, hm12, hD, hTl⟩ := f15_of hf
    clear hf
    by_cases hm1 : 1 ≤ m
    · obtain ⟨n, rfl⟩ := Int.eq_ofNat_of_zero_le (by omega : 0 ≤ m)
      have hn6 : D.length ≤ 1000000 := by omega
      go_enter Tryz.func4, Tryz.ntmps4
      go_wp2_with fail
      refine hfew.mono ?_; clear hfew; rintro e w1 ⟨rfl, hb1⟩
      have hmade := made_ok n (by omega) (by omega) a c l w1 (H.out.below hb1) hg
      have HB1 := Lib.hid hb1
      clear hb0 hb1 hg
      go_wp2_with fail
      refine hmade.mono ?_; clear hmade; rintro e w2 ⟨B, R, F, x, rfl, hG⟩
      obtain ⟨xa, xc, us, rfl, _⟩ := hG.x
      have hL := LawW.start HR.out HT.out HB1.out hG
      have HI := Lib.hid hG.s.r.1
      have hRl := HI.out.hi
      obtain ⟨bc, hbc⟩ : ∃ bc, bc = w.heap.size := ⟨_, rfl⟩
      obtain ⟨bx, hbx⟩ : ∃ bx, bx = w2.heap.size := ⟨_, rfl⟩
      clear hG HB1
      go_upto_region 8 with fail
      rw [← hbc, ← hbx] at hL
      rw [← hbc, ← hbx]
      clear hbc hbx
      generalize w2.alloc (.cells #[.slice xa R.length xc] 32) = w3 at *
      have HL := Lib.hid hL
      have cx := hL.cx; have c0 := hL.c0; have c1 := hL.c1
      have q8 := plan_o hL.g.s fa fc D hL.d hn6
      clear hL
      go_wp2_with fail
      refine q8.mono ?_; clear q8; rintro e w4 ⟨S, hS, u1, l1, s1, rfl, ho1, hO1, hs1, hb4⟩
      have hin := pl_inr HI.out hO1 s1
      have hle := ord_le HI.out hO1 s1
      rw [id_eq] at ho1
      obtain ⟨p, hp⟩ : ∃ p, p = (if s1 = true then [] else l1) := ⟨_, rfl⟩
      rw [← hp] at ho1 hin hle
      obtain ⟨sa, sc, rfl, hr1⟩ := inr_own ho1 hin
      have HP := Lib.hid hp
      have HO := Lib.hid (And.intro hS (And.intro hO1 hs1))
      have HIN := Lib.hid hin
      have hL4 := HL.out.below hb4
      have HL4 := Lib.hid hL4
      have HR1 := Lib.hid hr1
      obtain ⟨ee, hee⟩ : ∃ ee, ee = ecir s1 := ⟨_, rfl⟩
      have HE := Lib.hid hee
      rw [← hee]
      have de : (ee != ee) = false := by simp
      clear cx c0 c1 HL ho1 hb4 hS hO1 hs1 hp hr1 hin hee
      have cx := hL4.cx; have c0 := hL4.c0; have c1 := hL4.c1
      have q8 := run_l hL4.g.s fa fc D hL4.d hn6 ta tc T hL4.t
      clear hL4
      go_wp2_with fail
      refine q8.mono ?_; clear q8; rintro e w5 ⟨S3, hS3, v3, u3, l3, s3, rfl, ho3, ho4, hO3, hs3, hb6⟩
      obtain rfl := hS3.uniq HO.out.1
      obtain rfl := hO3.uniq HO.out.2.1
      obtain rfl := s_same hs3 HO.out.2.2
      rw [← HP.out] at ho3 ho4
      have hdin : ∀ z ∈ don R D (chv T) p, InR z := don_inr HIN.out
      have hdlea : (don R D (chv T) p).length ≤ 20000 := Nat.le_trans don_len hle
      obtain ⟨da, hd⟩ : ∃ da, da = don R D (chv T) p := ⟨_, rfl⟩
      have HDa := Lib.hid hd
      rw [← hd] at ho3 ho4 hdin hdlea
      obtain ⟨vaa, vca, rfl, hvla, _, hv⟩ := ho3.sl hdin
      obtain ⟨uaa, uca, rfl, hu⟩ := inr_own ho4 hdin
      rw [← HE.out]
      clear hd ho3 ho4 hS3 hO3 hs3 hdin cx c0 c1
      go_upto_region 10 with fail
      have hba := below1 w5 (.cells #[.slice vaa da.length vca, .slice uaa da.length uca] 41)
      have hgot : Got (w5.alloc (.cells #[.slice vaa da.length vca, .slice uaa da.length uca] 41)) w5.heap.size vaa uaa vca uca da := ⟨by simp [go_sem], by simp [go_sem], hv.below hba, hu.below hba⟩
      have hb7 := hb6.trans (hba.mono hb6.size)
      obtain ⟨ba, hbae⟩ : ∃ ba, ba = w5.heap.size := ⟨_, rfl⟩
      have hL6 := HL4.out.below hb7
      have HR6 := Lib.hid (HR1.out.below hb7)
      rw [← hbae] at hgot ⊢
      have HG6 := Lib.hid hgot
      clear hbae hba hb6 hb7 HL4 HR1 hv hu hgot
      generalize w5.alloc (.cells #[.slice vaa da.length vca, .slice uaa da.length uca] 41) = w6 at *
      have HL6 := Lib.hid hL6
      have cx := hL6.cx; have c0 := hL6.c0; have c1 := hL6.c1
      have q8 := run_l hL6.g.s fa fc D hL6.d hn6 none 0 [] (fun k hk => by cases hk)
      simp only [List.length_nil] at q8
      clear hL6
      go_wp2_with fail
      refine q8.mono ?_; clear q8; rintro e w7 ⟨S3, hS3, v3, u3, l3, s3, rfl, ho3, ho4, hO3, hs3, hb6⟩
      obtain rfl := hS3.uniq HO.out.1
      obtain rfl := hO3.uniq HO.out.2.1
      obtain rfl := s_same hs3 HO.out.2.2
      rw [← HP.out] at ho3 ho4
      have hdin : ∀ z ∈ don R D (chv []) p, InR z := don_inr HIN.out
      have hdleb : (don R D (chv []) p).length ≤ 20000 := Nat.le_trans don_len hle
      obtain ⟨db, hd⟩ : ∃ db, db = don R D (chv []) p := ⟨_, rfl⟩
      have HDb := Lib.hid hd
      rw [← hd] at ho3 ho4 hdin hdleb
      obtain ⟨vab, vcb, rfl, hvlb, _, hv⟩ := ho3.sl hdin
      obtain ⟨uab, ucb, rfl, hu⟩ := inr_own ho4 hdin
      rw [← HE.out]
      clear hd ho3 ho4 hS3 hO3 hs3 hdin cx c0 c1
      go_upto_region 11 with fail
      have hba := below1 w7 (.cells #[.slice vab db.length vcb, .slice uab db.length ucb] 41)
      have hgot : Got (w7.alloc (.cells #[.slice vab db.length vcb, .slice uab db.length ucb] 41)) w7.heap.size vab uab vcb ucb db := ⟨by simp [go_sem], by simp [go_sem], hv.below hba, hu.below hba⟩
      have hb7 := hb6.trans (hba.mono hb6.size)
      obtain ⟨bb, hbbe⟩ : ∃ bb, bb = w7.heap.size := ⟨_, rfl⟩
      have hL8 := HL6.out.below hb7
      have HR8 := Lib.hid (HR6.out.below hb7)
      have HA8 := Lib.hid (HG6.out.below hb7)
      rw [← hbbe] at hgot ⊢
      have HB8 := Lib.hid hgot
      clear hbbe hba hb6 hb7 HL6 HR6 HG6 hv hu hgot
      generalize w7.alloc (.cells #[.slice vab db.length vcb, .slice uab db.length ucb] 41) = w8 at *
      have HL8 := Lib.hid hL8
      have cx := hL8.cx; have c0 := hL8.c0; have c1 := hL8.c1
      have q8 := run_n hL8.g.s fa fc D hL8.d hn6
      clear hL8
      go_wp2_with fail
      refine q8.mono ?_; clear q8; rintro e w9 ⟨S3, hS3, v3, l3, s3, rfl, ho3, hO3, hs3, hb6⟩
      obtain rfl := hS3.uniq HO.out.1
      obtain rfl := hO3.uniq HO.out.2.1
      obtain rfl := s_same hs3 HO.out.2.2
      rw [← HP.out] at ho3
      have hwh : don R D (fun _ => true) p = p := by
        rw [HP.out]
        cases s3 with
        | true => rfl
        | false => exact don_whole HO.out.1 HO.out.2.1
      rw [hwh] at ho3
      obtain ⟨wa, wc, rfl, hw⟩ := inr_own ho3 HIN.out
      have HL9 := Lib.hid (HL8.out.below hb6)
      have HR9 := Lib.hid (HR8.out.below hb6)
      have HA9 := Lib.hid (HA8.out.below hb6)
      have HB9 := Lib.hid (HB8.out.below hb6)
      have HW9 := Lib.hid hw
      rw [← HE.out]
      clear ho3 hS3 hO3 hs3 hb6 HL8 HR8 HA8 HB8 hwh hw cx c0 c1
      have HZ9 := Lib.hid HL9.out.g.s.b
      cases s3 with
      | true =>
        have hda : da = [] := by rw [HDa.out, HP.out]; rfl
        subst hda
        have hec : ee = 26 := HE.out
        subst hec
        obtain ⟨g0, g1, _, _⟩ := HA9.out
        simp only [List.length_nil] at g0 g1
        clear HE
        go_wp2_with fail
        refine (awake15 _).mono ?_; rintro e w12 ⟨rfl, hb12⟩
        have HEND := Lib.hid (HZ9.out.trans (hb12.mono HZ9.out.size))
        clear hb12
        go_wp2_with fail
        go_ret
        exact ⟨rfl, HEND.out⟩
      | false =>
        have hec : ee = 0 := HE.out
        subst hec
        have hpl : p = l3 := HP.out
        have HSD := Lib.hid (show StdD R p da by rw [HDa.out, hpl]; exact std_d HI.out (fun x hx => (mem_sel.1 hx).1) HO.out.2.1.step)
        have HSN := Lib.hid (show ∀ z ∈ db, z ∈ D from fun z hz => by
          rw [HDb.out, show chv [] = fun _ => false from funext chv_nil] at hz
          exact don_none hz)
        clear HE hpl
        go_wp2_with fail
        go_loopw [18] (fun i wr => ∃ k : Nat, k ≤ da.length ∧ i = .int .i64 (k : Int) ∧ Below w9.heap.size w9 wr) (fun i _ => da.length - (RowKit.intOf i).toNat)
        case atStart => exact ⟨0, Nat.zero_le _, rfl, Below.refl _ _⟩
        case round =>
          obtain ⟨k, hk, rfl, hb⟩ := hrel
          have HBR := Lib.hid hb
          obtain ⟨g0, g1, gv, gu⟩ := HA9.out.below hb
          by_cases hlt : k < da.length
          · obtain ⟨x, hx, hxl, hxm, hxt, hgs⟩ := HSD.out k hlt
            have hhp := has_any sa sc p ((x : Nat) : Int) wr (HR9.out.below hb) (by omega)
            rw [decide_eq_true hxm] at hhp
            obtain ⟨vb, vo, rfl, hcv⟩ := gv.2 k hlt
            rw [hx] at hcv
            have hht := has_any (some ⟨vb, vo, none⟩) vca (da.take k) ((x : Nat) : Int) wr (reads_takeV gv k) (by rw [List.length_take]; omega)
            rw [decide_eq_false hxt, List.length_take, Nat.min_eq_left (Nat.le_of_lt hlt)] at hht
            have i0 : (0 : Int) ≤ (k : Int) := by omega
            have i1 : (k : Int) < (da.length : Int) := by omega
            have i2 : (k : Int) ≤ (vca : Int) := by omega
            have d1 : decide ((k : Int) < (da.length : Int)) = true := decide_eq_true i1
            have HLT := Lib.hid hlt
            have HGS := Lib.hid hgs
            have hsz0 := World.block_lt_of_cell? _ _ g0
            clear hb g1 gv gu hx hxm hxt hgs hlt
            go_wp2_with fail
            refine hhp.mono ?_; clear hhp; rintro e w10 ⟨rfl, hw⟩
            subst hw
            go_wp2_with fail
            refine hht.mono ?_; clear hht; rintro e w10 ⟨rfl, hw⟩
            subst hw
            go_wp2_with fail
            go_loopw [20] (fun i wy => ∃ j : Nat, k ≤ j ∧ j ≤ da.length ∧ i = .int .i64 (j : Int) ∧ Below wr.heap.size wr wy) (fun i _ => da.length - (RowKit.intOf i).toNat)
            case atStart => exact ⟨k, Nat.le_refl _, Nat.le_of_lt HLT.out, rfl, Below.refl _ _⟩
            case round =>
              obtain ⟨j, hkj, hj, rfl, hby⟩ := hrel
              have hbw := HBR.out.trans (hby.mono HBR.out.size)
              have HBY := Lib.hid hby
              obtain ⟨f0, f1, fv, fu⟩ := HA9.out.below hbw
              by_cases hjl : j < da.length
              · obtain ⟨yb, yo, hya, hcy⟩ := fv.2 j hjl
                cases hya
                have hhg := has_o (HL9.out.below hbw).g.s ((x : Nat) : Int) (da.getD j 0) (by unfold InR; omega)
                rw [HGS.out j hkj hjl] at hhg
                generalize da.getD j 0 = y at *
                have j0 : (0 : Int) ≤ (j : Int) := by omega
                have j1 : (j : Int) < (da.length : Int) := by omega
                have d2 : decide ((j : Int) < (da.length : Int)) = true := decide_eq_true j1
                clear f1 fv fu hby hbw
                go_wp2_with fail
                refine hhg.mono ?_; clear hhg; rintro e w11 ⟨rfl, hb11⟩
                have HB11 := Lib.hid (HBY.out.trans (hb11.mono HBY.out.size))
                clear hb11
                go_wp2_with fail
                go_roundw
                · exact ⟨j + 1, by omega, by omega, by go_num, HB11.out⟩
                · simp [RowKit.intOf]; omega
              · obtain rfl : j = da.length := by omega
                have d2 : decide ((da.length : Int) < (da.length : Int)) = false := decide_eq_false (by omega)
                have HBW := Lib.hid hbw
                clear f1 fv fu hby hbw
                go_wp2_with fail
                go_roundw
                · exact ⟨k + 1, HLT.out, by go_num, HBW.out⟩
                · have := HLT.out; simp [RowKit.intOf]; omega
          · obtain rfl : k = da.length := by omega
            have d1 : decide ((da.length : Int) < (da.length : Int)) = false := decide_eq_false (by omega)
            have HBX := Lib.hid hb
            clear hb g1 gv gu hk HBR HSD
            go_wp2_with fail
            go_loopw [21] (fun i wr => ∃ k : Nat, k ≤ db.length ∧ i = .int .i64 (k : Int) ∧ Below w9.heap.size w9 wr) (fun i _ => db.length - (RowKit.intOf i).toNat)
            case atStart => exact ⟨0, Nat.zero_le _, rfl, HBX.out⟩
            case round =>
              obtain ⟨k, hk, rfl, hb⟩ := hrel
              have HBR := Lib.hid hb
              obtain ⟨f0, f1, fv, fu⟩ := HB9.out.below hb
              have hL10 := HL9.out.below hb
              have e0 := hL10.c0
              by_cases hlt : k < db.length
              · obtain ⟨yb, yo, rfl, hcy⟩ := fv.2 k hlt
                have hmm := HSN.out (db.getD k 0) (by rw [getD_lt _ _ hlt]; exact List.getElem_mem hlt)
                have hbd := (Below.refl wr.heap.size wr).drew
                have hhd := has_any fa fc D (db.getD k 0) wr.drew (hL10.d.below hbd) (by omega)
                rw [decide_eq_true hmm] at hhd
                generalize db.getD k 0 = y at *
                have j0 : (0 : Int) ≤ (k : Int) := by omega
                have j1 : (k : Int) < (db.length : Int) := by omega
                have d2 : decide ((k : Int) < (db.length : Int)) = true := decide_eq_true j1
                have HLT := Lib.hid hlt
                have hS : Hid (∀ W', Below wr.heap.size wr W' → W'.cell? ⟨bc, 0, none⟩ = some (.slice fa D.length fc) ∧ W'.cell? ⟨bb, 0, none⟩ = some (.slice (some ⟨yb, yo, none⟩) db.length vcb) ∧ W'.cell? ⟨yb, yo + k, none⟩ = some (.int .i64 y)) :=
                  fun W' q => ⟨(q.cell (p := ⟨bc, 0, none⟩) (World.block_lt_of_cell? _ _ e0)).trans e0, (q.cell (p := ⟨bb, 0, none⟩) (World.block_lt_of_cell? _ _ f0)).trans f0, (q.cell (World.block_lt_of_cell? _ _ hcy)).trans hcy⟩
                clear f1 fv fu hb hL10 hmm hlt
                go_wp2_with fail
                refine wp_region_held_drew (S := fun wz => wz.cell? ⟨bc, 0, none⟩ = some (.slice fa D.length fc) ∧ wz.cell? ⟨bb, 0, none⟩ = some (.slice (some ⟨yb, yo, none⟩) db.length vcb) ∧ wz.cell? ⟨yb, yo + k, none⟩ = some (.int .i64 y)) (by kernel_rfl) (hS.out _ hbd) (fun hHeld => ?_)
                refine wpAnyH_take (i := 0) (v := ?_) rfl (by kernel_rfl) (by kernel_rfl) (by kernel_rfl) (fun _ _ _ h => h) (Or.inl ⟨by rfl, ?y0⟩) (by assumption) ?_
                case y0 => intro w hSw; (try dsimp only at hSw); go_simp; (try with_reducible rfl)
                (try simp only [Act.put, List.setIfInBounds_toArray, List.set_cons_zero, List.set_cons_succ, List.getElem_toArray, List.getElem_cons_zero, List.getElem_cons_succ])
                refine wpAnyH_take (i := 1) (v := ?_) rfl (by kernel_rfl) (by kernel_rfl) (by kernel_rfl) (fun _ _ _ h => h) (Or.inl ⟨by rfl, ?y1⟩) (by assumption) ?_
                case y1 => intro w hSw; (try dsimp only at hSw); go_simp; (try with_reducible rfl)
                (try simp only [Act.put, List.setIfInBounds_toArray, List.set_cons_zero, List.set_cons_succ, List.getElem_toArray, List.getElem_cons_zero, List.getElem_cons_succ])
                refine wpAnyH_take (i := 2) (v := ?_) rfl (by kernel_rfl) (by kernel_rfl) (by kernel_rfl) (fun _ _ _ h => h) (Or.inl ⟨by rfl, ?y2⟩) (by assumption) ?_
                case y2 => intro w hSw; (try dsimp only at hSw); go_simp; (try with_reducible rfl)
                (try simp only [Act.put, List.setIfInBounds_toArray, List.set_cons_zero, List.set_cons_succ, List.getElem_toArray, List.getElem_cons_zero, List.getElem_cons_succ])
                refine wpAnyH_take (i := 3) (v := ?_) rfl (by kernel_rfl) (by kernel_rfl) (by kernel_rfl) (fun _ _ _ h => h) (Or.inl ⟨by rfl, ?y3⟩) (by assumption) ?_
                case y3 => intro w hSw; (try dsimp only at hSw); go_simp; (try with_reducible rfl)
                (try simp only [Act.put, List.setIfInBounds_toArray, List.set_cons_zero, List.set_cons_succ, List.getElem_toArray, List.getElem_cons_zero, List.getElem_cons_succ])
                refine wpAnyH_take (i := 4) (v := ?_) rfl (by kernel_rfl) (by kernel_rfl) (by kernel_rfl) (fun _ _ _ h => h) (Or.inl ⟨by rfl, ?y4⟩) (by assumption) ?_
                case y4 => intro w hSw; (try dsimp only at hSw); go_simp; (try with_reducible rfl)
                (try simp only [Act.put, List.setIfInBounds_toArray, List.set_cons_zero, List.set_cons_succ, List.getElem_toArray, List.getElem_cons_zero, List.getElem_cons_succ])
                refine wpAnyH_take (i := 5) (v := ?_) rfl (by kernel_rfl) (by kernel_rfl) (by kernel_rfl) (fun _ _ _ h => h) (Or.inl ⟨by rfl, ?y5⟩) (by assumption) ?_
                case y5 => intro w hSw; (try dsimp only at hSw); go_simp; (try with_reducible rfl)
                (try simp only [Act.put, List.setIfInBounds_toArray, List.set_cons_zero, List.set_cons_succ, List.getElem_toArray, List.getElem_cons_zero, List.getElem_cons_succ])
                refine wpAnyH_take (i := 6) (v := ?_) rfl (by kernel_rfl) (by kernel_rfl) (by kernel_rfl) (fun _ _ _ h => h) (Or.inl ⟨by rfl, ?y6⟩) (by assumption) ?_
                case y6 => intro w hSw; (try dsimp only at hSw); go_simp; (try with_reducible rfl)
                (try simp only [Act.put, List.setIfInBounds_toArray, List.set_cons_zero, List.set_cons_succ, List.getElem_toArray, List.getElem_cons_zero, List.getElem_cons_succ])
                refine wpAnyH_ready (rs := [7]) (by kernel_rfl) (by simp) ?_
                refine AllReadyH.cons rfl (fun K hK => ?_) AllReadyH.nil
                go_simp
                refine hhd.mono ?_; clear hhd; rintro e y7 ⟨rfl, hw⟩
                subst hw
                have HBD := Lib.hid hbd
                refine hK.out _ _ (hS.out _ hbd) (fun hHeld => ?_)
                clear hK K
                (try simp only [Act.put, List.setIfInBounds_toArray, List.set_cons_zero, List.set_cons_succ, List.getElem_toArray, List.getElem_cons_zero, List.getElem_cons_succ])
                refine wpAnyH_take (i := 8) (v := ?_) rfl (by kernel_rfl) (by kernel_rfl) (by kernel_rfl) (fun _ _ _ h => h) (Or.inl ⟨by rfl, ?y8⟩) (by assumption) ?_
                case y8 => intro w hSw; (try dsimp only at hSw); go_simp; (try with_reducible rfl)
                (try simp only [Act.put, List.setIfInBounds_toArray, List.set_cons_zero, List.set_cons_succ, List.getElem_toArray, List.getElem_cons_zero, List.getElem_cons_succ])
                refine wpAnyH_done (by kernel_rfl) ?_ _
                go_wp2_with fail
                go_roundw
                · first | exact ⟨k + 1, HLT.out, by go_num, HBR.out.trans (HBD.out.mono HBR.out.size)⟩ | exact ⟨k + 1, HLT.out, by go_num, HBR.out⟩
                · have := HLT.out; simp [RowKit.intOf]; omega
              · obtain rfl : k = db.length := by omega
                have d2 : decide ((db.length : Int) < (db.length : Int)) = false := decide_eq_false (by omega)
                have hq := same_self (c := wc) (c' := sc) (HW9.out.below hb) (HR9.out.below hb) hle
                have HZ := Lib.hid (HZ9.out.trans (hb.mono HZ9.out.size))
                clear f1 fv fu hb hL10 hk
                go_wp2_with fail
                refine hq.mono ?_; clear hq; rintro e w11 ⟨rfl, hb11⟩
                have HZ2 := Lib.hid (HZ.out.trans (hb11.mono HZ.out.size))
                clear hb11
                go_wp2_with fail
                refine (awake15 _).mono ?_; rintro e w12 ⟨rfl, hb12⟩
                have HEND := Lib.hid (HZ2.out.trans (hb12.mono HZ2.out.size))
                clear hb12
                go_wp2_with fail
                go_ret
                exact ⟨rfl, HEND.out⟩
    · go_enter Tryz.func4, Tryz.ntmps4
      go_wp2_with fail
      refine hfew.mono ?_; clear hfew; rintro e w1 ⟨rfl, hb1⟩
      have hmade := made_no m (by omega) a c l hn w1
      have HB1 := Lib.hid (hb0.trans (hb1.mono hb0.size))
      clear hb0 hb1
      go_wp2_with fail
      refine hmade.mono ?_; clear hmade; rintro e w2 ⟨xa, xn, xc, rfl, hb2⟩
      have HB2 := Lib.hid (HB1.out.trans ((hb2.trans ((below1 w2 (.cells #[.slice xa xn xc] 32)).mono hb2.size)).mono HB1.out.size))
      clear hb2
      go_wp2_with fail
      refine (awake15 _).mono ?_; rintro e w3 ⟨rfl, hb⟩
      have HB3 := Lib.hid (HB2.out.trans (hb.mono HB2.out.size))
      clear hb
      go_wp2_with fail
      go_ret
      exact ⟨rfl, HB3.out⟩
end Go.Proofs.YtbaeanpdjdcheaaGreat
