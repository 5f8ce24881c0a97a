/-
  PlanTells of layer 15. No conditions.
-/
import Derived.Test.YtbaeanpdjdcheaaGreatPl2
namespace Go.Proofs.YtbaeanpdjdcheaaGreat
open Go.RowKit
set_option linter.unusedSimpArgs false
set_option linter.unusedVariables false

set_option maxHeartbeats 8000000 in
set_option maxRecDepth 100000 in
theorem tells15 (m : Int) (a : Option Addr) (c : Nat) (l : List GA) (fa : Option Addr) (fc : Nat) (D : List Int) (ta : Option Addr) (tc : Nat) (T : List Bool) (w : World) (h : ActsG w a l) (hn : (l.length : Int) ≤ 9223372036854775807) (hr : Reads w fa D) (hT : ReadsB w ta T) :
    Calls Tryz.prog 3 #[.int .i64 m, .slice a l.length c, .agg #[.slice fa D.length fc, .slice ta T.length tc]] w fun e w' => e = .returned (.bool true) ∧ Below w.heap.size w w' := by
  have hb0 := below1 w (.cells #[.slice fa D.length fc, .slice ta T.length tc] 26)
  have hfew := few_c m a c l fa fc D ta tc T _ (h.below hb0) hn
  have H := Lib.hid (h.below hb0); have HR := Lib.hid hr; have HT := Lib.hid hT
  clear h hr hT
  cases hf : f15 m l D T with
  | false =>
    rw [hf] at hfew
    clear hf
    go_enter Tryz.func3, Tryz.ntmps3
    go_wp2_with fail
    refine hfew.mono ?_; clear hfew; rintro e w1 ⟨rfl, hb1⟩
    have hb1' := hb0.trans (hb1.mono hb0.size)
    have HB1 := Lib.hid hb1'
    clear hb0 hb1 hb1'
    go_wp2_with fail
    refine (awake15 _).mono ?_; rintro e w2 ⟨rfl, hb⟩
    have HEND := Lib.hid (HB1.out.trans (hb.mono HB1.out.size))
    clear hb
    go_wp2_with fail
    go_ret
    exact ⟨rfl, HEND.out⟩
  | true =>
    rw [hf] at hfew
    obtain ⟨hg, hm12, hD, hTl⟩ := f15_of hf
    clear hf
    by_cases hm1 : 1 ≤ m
    · obtain ⟨n, rfl⟩ := Int.eq_ofNat_of_zero_le (by omega : 0 ≤ m)
      have hn6 : D.length ≤ 1000000 := by omega
      go_enter Tryz.func3, Tryz.ntmps3
      go_wp2_with fail
      refine hfew.mono ?_; clear hfew; rintro e w1 ⟨rfl, hb1⟩
      have hmade := made_ok n (by omega) (by omega) a c l w1 (H.out.below hb1) hg
      have HB1 := Lib.hid hb1
      clear hb0 hb1 hg
      go_wp2_with fail
      refine hmade.mono ?_; clear hmade; rintro e w2 ⟨B, R, F, x, rfl, hG⟩
      obtain ⟨xa, xc, us, rfl, _⟩ := hG.x
      have hL := LawW.start HR.out HT.out HB1.out hG
      have HI := Lib.hid hG.s.r.1
      have hRl := HI.out.hi
      obtain ⟨bc, hbc⟩ : ∃ bc, bc = w.heap.size := ⟨_, rfl⟩
      obtain ⟨bx, hbx⟩ : ∃ bx, bx = w2.heap.size := ⟨_, rfl⟩
      clear hG HB1
      go_upto_region 8 with fail
      rw [← hbc, ← hbx] at hL
      rw [← hbc, ← hbx]
      clear hbc hbx
      generalize w2.alloc (.cells #[.slice xa R.length xc] 32) = w3 at *
      have HL := Lib.hid hL
      have cx := hL.cx; have c0 := hL.c0; have c1 := hL.c1
      have q8 := plan_o hL.g.s fa fc D hL.d hn6
      clear hL
      go_wp2_with fail
      refine q8.mono ?_; clear q8; rintro e w4 ⟨S, hS, u1, l1, s1, rfl, ho1, hO1, hs1, hb4⟩
      have hin := pl_inr HI.out hO1 s1
      have hle := ord_le HI.out hO1 s1
      rw [id_eq] at ho1
      obtain ⟨p, hp⟩ : ∃ p, p = (if s1 = true then [] else l1) := ⟨_, rfl⟩
      rw [← hp] at ho1 hin hle
      obtain ⟨sa, sc, rfl, hr1⟩ := inr_own ho1 hin
      have HP := Lib.hid hp
      have HO := Lib.hid (And.intro hS (And.intro hO1 hs1))
      have HIN := Lib.hid hin
      have hL4 := HL.out.below hb4
      have HL4 := Lib.hid hL4
      have HR1 := Lib.hid hr1
      clear cx c0 c1 HL ho1 hb4 hS hO1 hs1 hp hr1 hin
      have cx := hL4.cx; have c0 := hL4.c0; have c1 := hL4.c1
      have q9 := r15plan hL4.g.x HI.out fa fc D hL4.d hn6 HO.out.1
      clear hL4
      go_wp2_with fail
      refine q9.mono ?_; clear q9; rintro e w5 ⟨u2, l2, s2, rfl, ho2, hO2, hs2, hb5⟩
      obtain rfl := hO2.uniq HO.out.2.1
      obtain rfl := s_same hs2 HO.out.2.2
      rw [id_eq, ← HP.out] at ho2
      obtain ⟨sb, sd, rfl, hr2⟩ := inr_own ho2 HIN.out
      have hL5 := HL4.out.below hb5
      have HL5 := Lib.hid hL5
      have HR1b := Lib.hid (HR1.out.below hb5)
      have HR2 := Lib.hid hr2
      clear cx c0 c1 HL4 HR1 ho2 hb5 hO2 hs2 hr2
      have cx := hL5.cx; have c0 := hL5.c0; have c1 := hL5.c1
      have q10 := run_l hL5.g.s fa fc D hL5.d hn6 ta tc T hL5.t
      clear hL5
      obtain ⟨ee, hee⟩ : ∃ ee, ee = ecir s2 := ⟨_, rfl⟩
      have HE := Lib.hid hee
      rw [← hee]
      have de : (ee == ee) = true := by simp
      clear hee
      go_wp2_with fail
      refine q10.mono ?_; clear q10; rintro e w6 ⟨S3, hS3, v3, u3, l3, s3, rfl, ho3, ho4, hO3, hs3, hb6⟩
      obtain rfl := hS3.uniq HO.out.1
      obtain rfl := hO3.uniq HO.out.2.1
      obtain rfl := s_same hs3 HO.out.2.2
      rw [← HP.out] at ho3 ho4
      have hdin : ∀ z ∈ don R D (chv T) p, InR z := don_inr HIN.out
      have hdle : (don R D (chv T) p).length ≤ 20000 := Nat.le_trans don_len hle
      obtain ⟨d, hd⟩ : ∃ d, d = don R D (chv T) p := ⟨_, rfl⟩
      have HD := Lib.hid hd
      rw [← hd] at ho3 ho4 hdin hdle
      obtain ⟨va, vc, rfl, hv⟩ := inr_own ho3 hdin
      obtain ⟨ua, uc, rfl, hu⟩ := inr_own ho4 hdin
      have HDI := Lib.hid hdin
      rw [← HE.out]
      clear hd ho3 ho4 hS3 hO3 hs3 hdin cx c0 c1
      go_upto_region 11 with fail
      have hba := below1 w6 (.cells #[.slice va d.length vc, .slice ua d.length uc] 41)
      have hgot : Got (w6.alloc (.cells #[.slice va d.length vc, .slice ua d.length uc] 41)) w6.heap.size va ua vc uc d := ⟨by simp [go_sem], by simp [go_sem], hv.below hba, hu.below hba⟩
      have hb7 := hb6.trans (hba.mono hb6.size)
      have hL7 := HL5.out.below hb7
      have HR1c := Lib.hid (HR1b.out.below hb7)
      have HR2c := Lib.hid (HR2.out.below hb7)
      obtain ⟨ba, hbae⟩ : ∃ ba, ba = w6.heap.size := ⟨_, rfl⟩
      rw [← hbae] at hgot ⊢
      clear hbae hba hb6 hb7 HL5 HR1b HR2 hv hu
      generalize w6.alloc (.cells #[.slice va d.length vc, .slice ua d.length uc] 41) = w7 at *
      have HL7 := Lib.hid hL7
      have HGO := Lib.hid hgot
      have cx := hL7.cx; have c0 := hL7.c0; have c1 := hL7.c1
      have q11 := r15run hL7.g.x HI.out fa fc D hL7.d hn6 HO.out.1 ta tc T hL7.t
      clear hL7 hgot
      go_wp2_with fail
      refine q11.mono ?_; clear q11; rintro e w8 ⟨u5, l5, s5, rfl, ho5, hO5, hs5, hb8⟩
      obtain rfl := hO5.uniq HO.out.2.1
      obtain rfl := s_same hs5 HO.out.2.2
      rw [← HP.out, ← HD.out] at ho5
      obtain ⟨ya, yc, rfl, hy⟩ := inr_own ho5 HDI.out
      have hq := same_self (c := sc) (c' := sd) (HR1c.out.below hb8) (HR2c.out.below hb8) hle
      have hG8 := HGO.out.below hb8
      have HG8 := Lib.hid hG8
      have HY8 := Lib.hid hy
      have HB8 := Lib.hid (HL7.out.g.s.b.trans (hb8.mono HL7.out.g.s.b.size))
      rw [← HE.out]
      clear ho5 hO5 hs5 hb8 HL7 HGO HR1c HR2c hy cx c0 c1 hG8
      go_wp2_with fail
      refine hq.mono ?_; clear hq; rintro e w9 ⟨rfl, hb9⟩
      have hG9 := HG8.out.below hb9
      obtain ⟨g0, g1, gv, gu⟩ := hG9
      have hy9 := HY8.out.below hb9
      have HK9 := Lib.hid (And.intro (HG8.out.below hb9) hy9)
      have HB9 := Lib.hid (HB8.out.trans (hb9.mono HB8.out.size))
      have hq := same_self (c := vc) (c' := yc) gv hy9 hdle
      clear hb9 HG8 HY8 HB8 gv gu hy9 g1
      go_wp2_with fail
      refine hq.mono ?_; clear hq; rintro e w10 ⟨rfl, hb10⟩
      have hy10 := HK9.out.2.below hb10
      clear g0
      obtain ⟨g0, g1, gv, gu⟩ := HK9.out.1.below hb10
      have HB10 := Lib.hid (HB9.out.trans (hb10.mono HB9.out.size))
      have hq := same_self (c := uc) (c' := yc) gu hy10 hdle
      clear hb10 HK9 HB9 gv gu hy10 g0
      go_wp2_with fail
      refine hq.mono ?_; clear hq; rintro e w11 ⟨rfl, hb11⟩
      have HB11 := Lib.hid (HB10.out.trans (hb11.mono HB10.out.size))
      clear hb11 g1
      go_wp2_with fail
      refine (awake15 _).mono ?_; rintro e w12 ⟨rfl, hb12⟩
      have HEND := Lib.hid (HB11.out.trans (hb12.mono HB11.out.size))
      clear hb12
      go_wp2_with fail
      go_ret
      exact ⟨rfl, HEND.out⟩
    · go_enter Tryz.func3, Tryz.ntmps3
      go_wp2_with fail
      refine hfew.mono ?_; clear hfew; rintro e w1 ⟨rfl, hb1⟩
      have hmade := made_no m (by omega) a c l hn w1
      have HB1 := Lib.hid (hb0.trans (hb1.mono hb0.size))
      clear hb0 hb1
      go_wp2_with fail
      refine hmade.mono ?_; clear hmade; rintro e w2 ⟨xa, xn, xc, rfl, hb2⟩
      have HB2 := Lib.hid (HB1.out.trans ((hb2.trans ((below1 w2 (.cells #[.slice xa xn xc] 32)).mono hb2.size)).mono HB1.out.size))
      clear hb2
      go_wp2_with fail
      refine (awake15 _).mono ?_; rintro e w3 ⟨rfl, hb⟩
      have HB3 := Lib.hid (HB2.out.trans (hb.mono HB2.out.size))
      clear hb
      go_wp2_with fail
      go_ret
      exact ⟨rfl, HB3.out⟩
end Go.Proofs.YtbaeanpdjdcheaaGreat
