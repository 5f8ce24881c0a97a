/-
  PlanStops of layer 15. No conditions.
-/
import Derived.Test.YtbaeanpdjdcheaaGreatPl2
namespace Go.Proofs.YtbaeanpdjdcheaaGreat
open Go.RowKit
set_option linter.unusedSimpArgs false
set_option linter.unusedVariables false

set_option maxHeartbeats 8000000 in
set_option maxRecDepth 100000 in
theorem stops15 (m : Int) (a : Option Addr) (c : Nat) (l : List GA) (fa : Option Addr) (fc : Nat) (D : List Int) (ta : Option Addr) (tc : Nat) (T : List Bool) (w : World) (h : ActsG w a l) (hn : (l.length : Int) ≤ 9223372036854775807) (hr : Reads w fa D) (hT : ReadsB w ta T) :
    Calls Tryz.prog 5 #[.int .i64 m, .slice a l.length c, .agg #[.slice fa D.length fc, .slice ta T.length tc]] w fun e w' => e = .returned (.bool true) ∧ Below w.heap.size w w' := by
  have hb0 := below1 w (.cells #[.slice fa D.length fc, .slice ta T.length tc] 26)
  have hfew := few_c m a c l fa fc D ta tc T _ (h.below hb0) hn
  have H := Lib.hid (h.below hb0); have HR := Lib.hid hr; have HT := Lib.hid hT
  clear h hr hT
  cases hf : f15 m l D T with
  | false =>
    rw [hf] at hfew
    clear hf
    go_enter Tryz.func5, Tryz.ntmps5
    go_wp2_with fail
    refine hfew.mono ?_; clear hfew; rintro e w1 ⟨rfl, hb1⟩
    have hb1' := hb0.trans (hb1.mono hb0.size)
    have HB1 := Lib.hid hb1'
    clear hb0 hb1 hb1'
    go_wp2_with fail
    refine (awake15 _).mono ?_; rintro e w2 ⟨rfl, hb⟩
    have HEND := Lib.hid (HB1.out.trans (hb.mono HB1.out.size))
    clear hb
    go_wp2_with fail
    go_ret
    exact ⟨rfl, HEND.out⟩
  | true =>
    rw [hf] at hfew
    obtain ⟨hg, hm12, hD, hTl⟩ := f15_of hf
    clear hf
    by_cases hm1 : 1 ≤ m
    · obtain ⟨n, rfl⟩ := Int.eq_ofNat_of_zero_le (by omega : 0 ≤ m)
      have hn6 : D.length ≤ 1000000 := by omega
      go_enter Tryz.func5, Tryz.ntmps5
      go_wp2_with fail
      refine hfew.mono ?_; clear hfew; rintro e w1 ⟨rfl, hb1⟩
      have hmade := made_at n (by omega) (by omega) a c l w1 (H.out.below hb1) hg
      have HB1 := Lib.hid hb1
      clear hb0 hb1 hg
      go_wp2_with fail
      refine hmade.mono ?_; clear hmade; rintro e w2 ⟨B, F, x, rfl, hG⟩
      have hRl0 := gfold_len n l l.length
      generalize gfold n l l.length = R at *
      obtain rfl : n = R.length := hRl0.symm
      obtain ⟨xa, xc, us, rfl, _⟩ := hG.x
      have hL := LawW.start HR.out HT.out HB1.out hG
      have HI := Lib.hid hG.s.r.1
      have hRl := HI.out.hi
      obtain ⟨bc, hbc⟩ : ∃ bc, bc = w.heap.size := ⟨_, rfl⟩
      obtain ⟨bx, hbx⟩ : ∃ bx, bx = w2.heap.size := ⟨_, rfl⟩
      clear hG HB1
      go_upto_region 8 with fail
      rw [← hbc, ← hbx] at hL
      rw [← hbc, ← hbx]
      clear hbc hbx
      generalize w2.alloc (.cells #[.slice xa R.length xc] 32) = w3 at *
      have HL := Lib.hid hL
      have cx := hL.cx; have c0 := hL.c0; have c1 := hL.c1
      have q8 := run_l hL.g.s fa fc D hL.d hn6 ta tc T hL.t
      clear hL
      go_wp2_with fail
      refine q8.mono ?_; clear q8; rintro e w4 ⟨S, hS, v3, u3, l1, s1, rfl, ho3, ho4, hO1, hs1, hb4⟩
      have hin := pl_inr HI.out hO1 s1
      have hle := ord_le HI.out hO1 s1
      obtain ⟨p, hp⟩ : ∃ p, p = (if s1 = true then [] else l1) := ⟨_, rfl⟩
      rw [← hp] at ho3 ho4 hin hle
      have hdin : ∀ z ∈ don R D (chv T) p, InR z := don_inr hin
      have hdle : (don R D (chv T) p).length ≤ 20000 := Nat.le_trans don_len hle
      have HSD := Lib.hid (fun (q : s1 = false) (v : Nat) (hv : v < R.length) => show (decide (((v : Nat) : Int) ∈ D) || rdd R (don R D (chv T) p) (chv T) v R.length) = decide (((v : Nat) : Int) ∈ don R D (chv T) p) by
        subst q
        simp only [Bool.false_eq_true, if_false] at hp
        subst hp
        exact stops_eq hS hO1 HI.out (fun x hx => Classical.byContradiction fun r => hs1.no ⟨x, hx, r⟩) hv)
      obtain ⟨d, hd⟩ : ∃ d, d = don R D (chv T) p := ⟨_, rfl⟩
      rw [← hd] at ho3 ho4 hdin hdle HSD
      obtain ⟨va, vc, rfl, hv⟩ := inr_own ho3 hdin
      obtain ⟨ua, uc, rfl, hu⟩ := inr_own ho4 hdin
      clear hd ho3 ho4 hS hO1 hs1 hdin cx c0 c1 hp hin hle
      go_upto_region 9 with fail
      have hba := below1 w4 (.cells #[.slice va d.length vc, .slice ua d.length uc] 41)
      have hgot : Got (w4.alloc (.cells #[.slice va d.length vc, .slice ua d.length uc] 41)) w4.heap.size va ua vc uc d := ⟨by simp [go_sem], by simp [go_sem], hv.below hba, hu.below hba⟩
      have hL7 := HL.out.below (hb4.trans (hba.mono hb4.size))
      obtain ⟨ba, hbae⟩ : ∃ ba, ba = w4.heap.size := ⟨_, rfl⟩
      rw [← hbae] at hgot ⊢
      clear hbae hba hb4 HL hv hu
      generalize w4.alloc (.cells #[.slice va d.length vc, .slice ua d.length uc] 41) = w7 at *
      have HL7 := Lib.hid hL7
      have HGO := Lib.hid hgot
      have HB7 := Lib.hid hL7.g.s.b
      clear hL7 hgot
      cases s1 with
      | true =>
        have hec : ecir true = 26 := rfl
        rw [hec]
        have d0 : decide ((0 : Int) < (R.length : Int)) = true := decide_eq_true (by omega)
        clear HSD
        go_wp2_with fail
        go_loopw [12] (fun i wr => i = .int .i64 0 ∧ wr = w7) (fun i _ => 0)
        case atStart => exact ⟨rfl, rfl⟩
        case round =>
          obtain ⟨rfl, hw⟩ := hrel
          subst hw
          go_wp2_with fail
          refine (awake15 _).mono ?_; rintro e w12 ⟨rfl, hb12⟩
          have HEND := Lib.hid (HB7.out.trans (hb12.mono HB7.out.size))
          clear hb12
          go_wp2_with fail
          go_ret
          exact ⟨rfl, HEND.out⟩
      | false =>
        have hec : ecir false = 0 := rfl
        rw [hec]
        have HSE := Lib.hid (HSD.out rfl)
        clear HSD
        go_wp2_with fail
        go_loopw [12] (fun i wr => ∃ v : Nat, v ≤ R.length ∧ i = .int .i64 (v : Int) ∧ Below w7.heap.size w7 wr) (fun i _ => R.length - (RowKit.intOf i).toNat)
        case atStart => exact ⟨0, Nat.zero_le _, rfl, Below.refl _ _⟩
        case round =>
          obtain ⟨v, hv, rfl, hb⟩ := hrel
          have HBR := Lib.hid hb
          by_cases hlt : v < R.length
          · have hL8 := HL7.out.below hb
            have c0 := hL8.c0
            have hhas := has_any fa fc D ((v : Nat) : Int) wr hL8.d (by omega)
            have i0 : decide ((v : Int) < (R.length : Int)) = true := decide_eq_true (by omega)
            have hse := HSE.out v hlt
            have HSV := Lib.hid hse
            have HLT := Lib.hid hlt
            clear hb hL8 hse
            go_wp2_with fail
            refine hhas.mono ?_; clear hhas; rintro e w8 ⟨rfl, hw⟩
            subst hw
            go_wp2_with fail
            go_loopw [13, 14] (fun bv jv wy => ∃ j : Nat, j ≤ R.length ∧ jv = .int .i64 (j : Int) ∧ bv = .bool (decide (((v : Nat) : Int) ∈ D) || rdd R d (chv T) v j) ∧ Below wr.heap.size wr wy) (fun _ i _ => R.length - (RowKit.intOf i).toNat)
            case atStart => exact ⟨0, Nat.zero_le _, rfl, by simp [rdd], Below.refl _ _⟩
            case round =>
              obtain ⟨j, hj, rfl, rfl, hby⟩ := hrel
              have hbw := HBR.out.trans (hby.mono HBR.out.size)
              have HBY := Lib.hid hby
              by_cases hjl : j < R.length
              · have hL9 := HL7.out.below hbw
                obtain ⟨g0, g1, gv, gu⟩ := HGO.out.below hbw
                have e1 := hL9.c1
                have i1 : decide ((j : Int) < (R.length : Int)) = true := decide_eq_true (by omega)
                have hst := rdd_step R d (chv T) v j
                have hhg := has_o hL9.g.s ((v : Nat) : Int) ((j : Nat) : Int) (by unfold InR; omega)
                have hhd := fun wz (hz : Below wr.heap.size wr wz) => has_any va vc d ((j : Nat) : Int) wz (gv.below hz) (by omega)
                have hch := fun wz (hz : Below wr.heap.size wr wz) => r15ch (hL9.t.below hz) (c := tc) ((j : Nat) : Int)
                have HHD := Lib.hid hhd; have HCH := Lib.hid hch
                have HC := Lib.hid (And.intro g0 e1)
                have hlc := World.block_lt_of_cell? _ _ g0
                have hld := World.block_lt_of_cell? _ _ e1
                clear gv gu g0 g1 e1 hL9 hby hbw hhd hch
                cases hi : (decide (((v : Nat) : Int) ∈ D) || rdd R d (chv T) v j) with
                | true =>
                  have HST := Lib.hid (show (decide (((v : Nat) : Int) ∈ D) || rdd R d (chv T) v (j + 1)) = true by rw [hst, ← Bool.or_assoc, hi, Bool.true_or])
                  clear hst hi hhg
                  go_wp2_with fail
                  go_roundw
                  · exact ⟨j + 1, by omega, by go_num, by rw [HST.out], HBY.out⟩
                  · simp [RowKit.intOf]; omega
                | false =>
                  rw [Bool.or_eq_false_iff] at hi
                  cases hg : ghas R ((v : Nat) : Int) ((j : Nat) : Int) with
                  | false =>
                    have HST := Lib.hid (show (decide (((v : Nat) : Int) ∈ D) || rdd R d (chv T) v (j + 1)) = false by rw [hst, hi.1, hi.2, hg]; rfl)
                    rw [hg] at hhg
                    clear hst hi hg
                    go_wp2_with fail
                    refine hhg.mono ?_; clear hhg; rintro e w9 ⟨rfl, hb9⟩
                    have HB9 := Lib.hid (HBY.out.trans (hb9.mono HBY.out.size))
                    clear hb9
                    go_wp2_with fail
                    go_roundw
                    · exact ⟨j + 1, by omega, by go_num, by rw [HST.out], HB9.out⟩
                    · simp [RowKit.intOf]; omega
                  | true =>
                    rw [hg] at hhg
                    cases hm : decide (((j : Nat) : Int) ∈ d) with
                    | false =>
                      have HST := Lib.hid (show (decide (((v : Nat) : Int) ∈ D) || rdd R d (chv T) v (j + 1)) = false by rw [hst, hi.1, hi.2, hg, hm]; rfl)
                      rw [hm] at HHD
                      clear hst hi hg hm
                      go_wp2_with fail
                      refine hhg.mono ?_; clear hhg; rintro e w9 ⟨rfl, hb9⟩
                      have HB9 := Lib.hid (HBY.out.trans (hb9.mono HBY.out.size))
                      have g0 := (hb9.cell (p := ⟨ba, 0, none⟩) hlc).trans HC.out.1
                      have hq := HHD.out _ hb9
                      clear hb9
                      go_wp2_with fail
                      refine hq.mono ?_; clear hq; rintro e w10 ⟨rfl, hw⟩
                      subst hw
                      go_wp2_with fail
                      go_roundw
                      · exact ⟨j + 1, by omega, by go_num, by rw [HST.out], HB9.out⟩
                      · simp [RowKit.intOf]; omega
                    | true =>
                      have HST := Lib.hid (show (decide (((v : Nat) : Int) ∈ D) || rdd R d (chv T) v (j + 1)) = chv T ((j : Nat) : Int) by rw [hst, hi.1, hi.2, hg, hm]; simp)
                      rw [hm] at HHD
                      clear hst hi hg hm
                      generalize hcv : chv T ((j : Nat) : Int) = cz at *
                      clear hcv
                      go_wp2_with fail
                      refine hhg.mono ?_; clear hhg; rintro e w9 ⟨rfl, hb9⟩
                      have HB9 := Lib.hid (HBY.out.trans (hb9.mono HBY.out.size))
                      have g0 := (hb9.cell (p := ⟨ba, 0, none⟩) hlc).trans HC.out.1
                      have g1 := (hb9.cell (p := ⟨bc, 1, none⟩) hld).trans HC.out.2
                      have hq := HHD.out _ hb9
                      have hq2 := HCH.out _ hb9
                      clear hb9
                      go_wp2_with fail
                      refine hq.mono ?_; clear hq; rintro e w10 ⟨rfl, hw⟩
                      subst hw
                      go_wp2_with fail
                      refine hq2.mono ?_; clear hq2; rintro e w11 ⟨rfl, hw⟩
                      replace hw := hw.symm
                      subst hw
                      go_wp2_with fail
                      go_roundw
                      · exact ⟨j + 1, by omega, by go_num, by rw [HST.out], HB9.out⟩
                      · simp [RowKit.intOf]; omega
              · obtain rfl : j = R.length := by omega
                have i1 : decide ((R.length : Int) < (R.length : Int)) = false := decide_eq_false (by omega)
                rw [HSV.out]
                obtain ⟨g0, g1, gv, gu⟩ := HGO.out.below hbw
                have hq := has_any va vc d ((v : Nat) : Int) wr gv (by omega)
                generalize decide (((v : Nat) : Int) ∈ d) = b at *
                have db : (b != b) = false := by simp
                have HBW := Lib.hid hbw
                clear g1 gv gu hby hbw
                go_wp2_with fail
                refine hq.mono ?_; clear hq; rintro e w9 ⟨rfl, hw⟩
                subst hw
                go_wp2_with fail
                go_roundw
                · exact ⟨v + 1, HLT.out, by go_num, HBW.out⟩
                · have := HLT.out; simp [RowKit.intOf]; omega
          · obtain rfl : v = R.length := by omega
            have i0 : decide ((R.length : Int) < (R.length : Int)) = false := decide_eq_false (by omega)
            have HBZ := Lib.hid (HB7.out.trans (hb.mono HB7.out.size))
            clear hb hv
            go_wp2_with fail
            refine (awake15 _).mono ?_; rintro e w12 ⟨rfl, hb12⟩
            have HEND := Lib.hid (HBZ.out.trans (hb12.mono HBZ.out.size))
            clear hb12
            go_wp2_with fail
            go_ret
            exact ⟨rfl, HEND.out⟩
    · go_enter Tryz.func5, Tryz.ntmps5
      go_wp2_with fail
      refine hfew.mono ?_; clear hfew; rintro e w1 ⟨rfl, hb1⟩
      have hmade := made_no m (by omega) a c l hn w1
      have HB1 := Lib.hid (hb0.trans (hb1.mono hb0.size))
      clear hb0 hb1
      go_wp2_with fail
      refine hmade.mono ?_; clear hmade; rintro e w2 ⟨xa, xn, xc, rfl, hb2⟩
      have HB2 := Lib.hid (HB1.out.trans ((hb2.trans ((below1 w2 (.cells #[.slice xa xn xc] 32)).mono hb2.size)).mono HB1.out.size))
      clear hb2
      go_wp2_with fail
      refine (awake15 _).mono ?_; rintro e w3 ⟨rfl, hb⟩
      have HB3 := Lib.hid (HB2.out.trans (hb.mono HB2.out.size))
      clear hb
      go_wp2_with fail
      go_ret
      exact ⟨rfl, HB3.out⟩
end Go.Proofs.YtbaeanpdjdcheaaGreat
