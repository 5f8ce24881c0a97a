/-
  ReachSteps of layer 13. No conditions.
-/
import Derived.Test.YtpjnpmdpabnjkaaRchS
namespace Go.Proofs.Ytpjnpmdpabnjkaa
open Go.RowKit
set_option linter.unusedSimpArgs false
set_option linter.unusedVariables false

set_option maxHeartbeats 8000000 in
set_option maxRecDepth 100000 in
theorem steps13 (m : Int) (a : Option Addr) (c : Nat) (l : List GA) (fa : Option Addr) (fc : Nat) (L : List Int) (w : World) (h : ActsG w a l) (hn : (l.length : Int) ≤ 9223372036854775807) (hr : Reads w fa L) (hnL : (L.length : Int) ≤ 9223372036854775807) :
    Calls Try.prog 5 #[.int .i64 m, .slice a l.length c, .slice fa L.length fc] w fun e w' => e = .returned (.bool true) ∧ Below w.heap.size w w' := by
  have hfew := few_g a c l w h hn
  have H := Lib.hid h; have HR := Lib.hid hr
  clear h hr
  cases hf : gfew l with
  | false =>
    rw [hf] at hfew
    go_enter Try.func5, Try.ntmps5
    go_wp2_with fail
    refine hfew.mono ?_; rintro e w1 ⟨rfl, rfl⟩
    go_wp2_with fail
    refine (awake13 _).mono ?_; rintro e w2 ⟨rfl, hb⟩
    go_wp2_with fail
    go_ret
    exact ⟨rfl, hb⟩
  | true =>
    rw [hf] at hfew
    have HF := Lib.hid hf
    clear hf
    by_cases hm12 : m ≤ 12
    · have dm : decide (12 < m) = false := decide_eq_false (by omega)
      by_cases hL : L.length ≤ 60
      · have dL : decide (60 < (L.length : Int)) = false := decide_eq_false (by omega)
        by_cases hm1 : 1 ≤ m
        · obtain ⟨n, rfl⟩ := Int.eq_ofNat_of_zero_le (by omega : 0 ≤ m)
          have hmade := made_at n (by omega) (by omega) a c l w H.out HF.out
          go_enter Try.func5, Try.ntmps5
          go_wp2_with fail
          refine hfew.mono ?_; rintro e w1 ⟨rfl, rfl⟩
          go_wp2_with fail
          refine hmade.mono ?_; rintro e w2 ⟨B, F, x, rfl, hG⟩
          have hRl := gfold_len n l l.length
          generalize gfold n l l.length = R at *
          obtain rfl : n = R.length := hRl.symm
          have hx := hG.x
          obtain ⟨xa, xc, _, rfl, _⟩ := hx
          have hb3 := below1 w2 (.cells #[.slice xa R.length xc] 29)
          have hG3 := hG.s.below hb3
          have HI := Lib.hid hG3.r.1
          have hl := HI.out.hi
          have hn6 : L.length ≤ 1000000 := by omega
          clear hb3 hG hfew hmade hRl
          go_upto_region 8 with fail
          generalize w2.alloc (.cells #[.slice xa R.length xc] 29) = w3 at *
          have q8 := steps_o hG3 fa fc L (HR.out.below hG3.b) hn6
          have HG3 := Lib.hid hG3
          clear hG3
          go_wp2_with fail
          refine q8.mono ?_; clear q8; rintro e w4 ⟨u1, S, rfl, ho1, hS, hb⟩
          obtain ⟨sa, sc, rfl, hs⟩ := inr_own ho1 (isst_inr hS hl)
          rw [hS.len]
          have HG4 := Lib.hid (HG3.out.below hb)
          have q9 := reach_o HG4.out fa fc L (HR.out.below HG4.out.b) hn6
          have HS := Lib.hid hS; have HSA := Lib.hid hs
          clear ho1 hb hs hS HG3
          go_wp2_with fail
          refine q9.mono ?_; clear q9; rintro e w5 ⟨u2, S2, rfl, ho2, hS2, hb⟩
          obtain rfl := hS2.uniq HS.out
          obtain ⟨ua, uc, rfl, hu⟩ := inr_own ho2 (fnd_inr HS.out hl)
          have HG5 := Lib.hid (HG4.out.below hb); have HU5 := Lib.hid hu; have HS5 := Lib.hid (HSA.out.below hb)
          have hfl := fnd_le HS.out hl
          have dl : ((R.length : Int) == (R.length : Int)) = true := by simp
          clear ho2 hb hu hS2 HG4 HSA
          go_wp2_with fail
          go_loopw [12] (fun i wr => ∃ v : Nat, v ≤ R.length ∧ i = .int .i64 (v : Int) ∧ OneG w1 wr B R F ∧ Reads wr sa S2 ∧ Reads wr ua (fnd S2)) (fun i _ => R.length - (intOf i).toNat)
          case atStart => exact ⟨0, Nat.zero_le _, rfl, HG5.out, HS5.out, HU5.out⟩
          case round =>
            clear HG5 HU5 HS5
            obtain ⟨v, hv, rfl, hG, hSA, hU⟩ := hrel
            by_cases hlv : v < R.length
            · have dv : decide ((v : Int) < (R.length : Int)) = true := decide_eq_true (by omega)
              have i0 : (0 : Int) ≤ (v : Int) := by omega
              have i1 : (v : Int) < (R.length : Int) := by omega
              have hsl := HS.out.len
              obtain ⟨sb, so, rfl, hcz⟩ := hSA.2 v (by omega)
              have hlow := isst_low HS.out hlv
              have hin := steps_in HS.out hlv
              have hze := steps_zero HS.out hlv
              have HFN : Hid (∀ b, Best R S2 v (gR R v).length b → (0 < S2.getD v 0 → S2.getD v 0 = b + 1) ∧ (S2.getD v 0 < 0 → b < 0)) := fun b hb => hb.fin HS.out HI.out hlv
              have hb4 := (Below.refl wr.heap.size wr).drew
              have q7 := has_any ua uc (fnd S2) (v : Int) wr.drew (hU.below hb4) (by omega)
              have q24 := has_any fa fc L (v : Int) wr.drew (HR.out.below (hG.b.trans (hb4.mono hG.b.size))) (by omega)
              rw [hin] at q7
              rw [hze] at q24
              have hrd := reads_o (hG.below hb4) (v : Int)
              rw [greads_nat hlv] at hrd
              have hcl := HI.out.len v
              have HSA := Lib.hid (hSA.below hb4); have HU := Lib.hid (hU.below hb4)
              have hS : Hid (∀ W', Below wr.heap.size wr W' → W'.cell? ⟨sb, so + v, none⟩ = some (.int .i64 (S2.getD v 0))) := fun W' q => (q.cell (World.block_lt_of_cell? _ _ hcz)).trans hcz
              obtain ⟨z, hz⟩ : ∃ z, z = S2.getD v 0 := ⟨_, rfl⟩
              rw [← hz] at hlow hS q7 q24 HFN
              have HZ := Lib.hid hz
              clear hG hSA hU hcz hin hze hz
              have hzc : z = -1 ∨ z = 0 ∨ 0 < z := by omega
              have dm : decide (z < -1) = false := decide_eq_false (by omega)
              clear hlow
              rcases hzc with hz1 | hz1 | hz1
              · have dz : decide (0 ≤ z) = false := by exact decide_eq_false (by omega)
                have de : (z == 0) = false := by simp; omega
                have dg : decide (0 < z) = false := by exact decide_eq_false (by omega)
                have dt : decide (z < 0) = true := by exact decide_eq_true (by omega)
                rw [dz] at q7
                rw [de] at q24
                have HZ1 := Lib.hid hz1
                clear hz1
                go_wp2_with fail
                refine wp_region_held_drew (S := fun wz => wz.cell? ⟨sb, so + v, none⟩ = some (.int .i64 z)) (by kernel_rfl) (hS.out _ hb4) (fun hHeld => ?_)
                refine wpAnyH_take (i := 0) (v := ?_) rfl (by kernel_rfl) (by kernel_rfl) (by kernel_rfl) (fun _ _ _ h => h) (Or.inl ⟨by rfl, ?y0⟩) (by assumption) ?_
                case y0 => intro w hSw; (try dsimp only at hSw); go_simp; (try with_reducible rfl)
                (try simp only [Act.put, List.setIfInBounds_toArray, List.set_cons_zero, List.set_cons_succ, List.getElem_toArray, List.getElem_cons_zero, List.getElem_cons_succ])
                refine wpAnyH_take (i := 1) (v := ?_) rfl (by kernel_rfl) (by kernel_rfl) (by kernel_rfl) (fun _ _ _ h => h) (Or.inl ⟨by rfl, ?y1⟩) (by assumption) ?_
                case y1 => intro w hSw; (try dsimp only at hSw); go_simp; (try with_reducible rfl)
                (try simp only [Act.put, List.setIfInBounds_toArray, List.set_cons_zero, List.set_cons_succ, List.getElem_toArray, List.getElem_cons_zero, List.getElem_cons_succ])
                refine wpAnyH_take (i := 2) (v := ?_) rfl (by kernel_rfl) (by kernel_rfl) (by kernel_rfl) (fun _ _ _ h => h) (Or.inl ⟨by rfl, ?y2⟩) (by assumption) ?_
                case y2 => intro w hSw; (try dsimp only at hSw); go_simp; (try with_reducible rfl)
                (try simp only [Act.put, List.setIfInBounds_toArray, List.set_cons_zero, List.set_cons_succ, List.getElem_toArray, List.getElem_cons_zero, List.getElem_cons_succ])
                refine wpAnyH_take (i := 3) (v := ?_) rfl (by kernel_rfl) (by kernel_rfl) (by kernel_rfl) (fun _ _ _ h => h) (Or.inl ⟨by rfl, ?y3⟩) (by assumption) ?_
                case y3 => intro w hSw; (try dsimp only at hSw); go_simp; (try with_reducible rfl)
                (try simp only [Act.put, List.setIfInBounds_toArray, List.set_cons_zero, List.set_cons_succ, List.getElem_toArray, List.getElem_cons_zero, List.getElem_cons_succ])
                refine wpAnyH_take (i := 4) (v := ?_) rfl (by kernel_rfl) (by kernel_rfl) (by kernel_rfl) (fun _ _ _ h => h) (Or.inl ⟨by rfl, ?y4⟩) (by assumption) ?_
                case y4 => intro w hSw; (try dsimp only at hSw); go_simp; (try with_reducible rfl)
                (try simp only [Act.put, List.setIfInBounds_toArray, List.set_cons_zero, List.set_cons_succ, List.getElem_toArray, List.getElem_cons_zero, List.getElem_cons_succ])
                refine wpAnyH_take (i := 5) (v := ?_) rfl (by kernel_rfl) (by kernel_rfl) (by kernel_rfl) (fun _ _ _ h => h) (Or.inl ⟨by rfl, ?y5⟩) (by assumption) ?_
                case y5 => intro w hSw; (try dsimp only at hSw); go_simp; (try with_reducible rfl)
                (try simp only [Act.put, List.setIfInBounds_toArray, List.set_cons_zero, List.set_cons_succ, List.getElem_toArray, List.getElem_cons_zero, List.getElem_cons_succ])
                refine wpAnyH_take (i := 6) (v := ?_) rfl (by kernel_rfl) (by kernel_rfl) (by kernel_rfl) (fun _ _ _ h => h) (Or.inl ⟨by rfl, ?y6⟩) (by assumption) ?_
                case y6 => intro w hSw; (try dsimp only at hSw); go_simp; (try with_reducible rfl)
                (try simp only [Act.put, List.setIfInBounds_toArray, List.set_cons_zero, List.set_cons_succ, List.getElem_toArray, List.getElem_cons_zero, List.getElem_cons_succ])
                refine wpAnyH_ready (rs := [7]) (by kernel_rfl) (by simp) ?_
                refine AllReadyH.cons rfl (fun K hK => ?_) AllReadyH.nil
                go_simp
                refine q7.mono ?_; clear q7; rintro e y7 ⟨rfl, rfl⟩
                refine hK.out _ _ (hS.out _ hb4) (fun hHeld => ?_)
                clear hK K
                (try simp only [Act.put, List.setIfInBounds_toArray, List.set_cons_zero, List.set_cons_succ, List.getElem_toArray, List.getElem_cons_zero, List.getElem_cons_succ])
                refine wpAnyH_take (i := 8) (v := ?_) rfl (by kernel_rfl) (by kernel_rfl) (by kernel_rfl) (fun _ _ _ h => h) (Or.inl ⟨by rfl, ?y8⟩) (by assumption) ?_
                case y8 => intro w hSw; (try dsimp only at hSw); go_simp; (try with_reducible rfl)
                (try simp only [Act.put, List.setIfInBounds_toArray, List.set_cons_zero, List.set_cons_succ, List.getElem_toArray, List.getElem_cons_zero, List.getElem_cons_succ])
                refine wpAnyH_take (i := 9) (v := ?_) rfl (by kernel_rfl) (by kernel_rfl) (by kernel_rfl) (fun _ _ _ h => h) (Or.inl ⟨by rfl, ?y9⟩) (by assumption) ?_
                case y9 => intro w hSw; (try dsimp only at hSw); go_simp; (try with_reducible rfl)
                (try simp only [Act.put, List.setIfInBounds_toArray, List.set_cons_zero, List.set_cons_succ, List.getElem_toArray, List.getElem_cons_zero, List.getElem_cons_succ])
                refine wpAnyH_take (i := 10) (v := ?_) rfl (by kernel_rfl) (by kernel_rfl) (by kernel_rfl) (fun _ _ _ h => h) (Or.inl ⟨by rfl, ?y10⟩) (by assumption) ?_
                case y10 => intro w hSw; (try dsimp only at hSw); go_simp; (try with_reducible rfl)
                (try simp only [Act.put, List.setIfInBounds_toArray, List.set_cons_zero, List.set_cons_succ, List.getElem_toArray, List.getElem_cons_zero, List.getElem_cons_succ])
                refine wpAnyH_take (i := 11) (v := ?_) rfl (by kernel_rfl) (by kernel_rfl) (by kernel_rfl) (fun _ _ _ h => h) (Or.inl ⟨by rfl, ?y11⟩) (by assumption) ?_
                case y11 => intro w hSw; (try dsimp only at hSw); go_simp; (try with_reducible rfl)
                (try simp only [Act.put, List.setIfInBounds_toArray, List.set_cons_zero, List.set_cons_succ, List.getElem_toArray, List.getElem_cons_zero, List.getElem_cons_succ])
                refine wpAnyH_take (i := 12) (v := ?_) rfl (by kernel_rfl) (by kernel_rfl) (by kernel_rfl) (fun _ _ _ h => h) (Or.inl ⟨by rfl, ?y12⟩) (by assumption) ?_
                case y12 => intro w hSw; (try dsimp only at hSw); go_simp; (try with_reducible rfl)
                (try simp only [Act.put, List.setIfInBounds_toArray, List.set_cons_zero, List.set_cons_succ, List.getElem_toArray, List.getElem_cons_zero, List.getElem_cons_succ])
                refine wpAnyH_take (i := 13) (v := ?_) rfl (by kernel_rfl) (by kernel_rfl) (by kernel_rfl) (fun _ _ _ h => h) (Or.inl ⟨by rfl, ?y13⟩) (by assumption) ?_
                case y13 => intro w hSw; (try dsimp only at hSw); go_simp; (try with_reducible rfl)
                (try simp only [Act.put, List.setIfInBounds_toArray, List.set_cons_zero, List.set_cons_succ, List.getElem_toArray, List.getElem_cons_zero, List.getElem_cons_succ])
                refine wpAnyH_take (i := 14) (v := ?_) rfl (by kernel_rfl) (by kernel_rfl) (by kernel_rfl) (fun _ _ _ h => h) (Or.inl ⟨by rfl, ?y14⟩) (by assumption) ?_
                case y14 => intro w hSw; (try dsimp only at hSw); go_simp; (try with_reducible rfl)
                (try simp only [Act.put, List.setIfInBounds_toArray, List.set_cons_zero, List.set_cons_succ, List.getElem_toArray, List.getElem_cons_zero, List.getElem_cons_succ])
                refine wpAnyH_take (i := 15) (v := ?_) rfl (by kernel_rfl) (by kernel_rfl) (by kernel_rfl) (fun _ _ _ h => h) (Or.inl ⟨by rfl, ?y15⟩) (by assumption) ?_
                case y15 => intro w hSw; (try dsimp only at hSw); go_simp; (try with_reducible rfl)
                (try simp only [Act.put, List.setIfInBounds_toArray, List.set_cons_zero, List.set_cons_succ, List.getElem_toArray, List.getElem_cons_zero, List.getElem_cons_succ])
                refine wpAnyH_take (i := 16) (v := ?_) rfl (by kernel_rfl) (by kernel_rfl) (by kernel_rfl) (fun _ _ _ h => h) (Or.inl ⟨by rfl, ?y16⟩) (by assumption) ?_
                case y16 => intro w hSw; (try dsimp only at hSw); go_simp; (try with_reducible rfl)
                (try simp only [Act.put, List.setIfInBounds_toArray, List.set_cons_zero, List.set_cons_succ, List.getElem_toArray, List.getElem_cons_zero, List.getElem_cons_succ])
                refine wpAnyH_take (i := 17) (v := ?_) rfl (by kernel_rfl) (by kernel_rfl) (by kernel_rfl) (fun _ _ _ h => h) (Or.inl ⟨by rfl, ?y17⟩) (by assumption) ?_
                case y17 => intro w hSw; (try dsimp only at hSw); go_simp; (try with_reducible rfl)
                (try simp only [Act.put, List.setIfInBounds_toArray, List.set_cons_zero, List.set_cons_succ, List.getElem_toArray, List.getElem_cons_zero, List.getElem_cons_succ])
                refine wpAnyH_take (i := 18) (v := ?_) rfl (by kernel_rfl) (by kernel_rfl) (by kernel_rfl) (fun _ _ _ h => h) (Or.inl ⟨by rfl, ?y18⟩) (by assumption) ?_
                case y18 => intro w hSw; (try dsimp only at hSw); go_simp; (try with_reducible rfl)
                (try simp only [Act.put, List.setIfInBounds_toArray, List.set_cons_zero, List.set_cons_succ, List.getElem_toArray, List.getElem_cons_zero, List.getElem_cons_succ])
                refine wpAnyH_take (i := 19) (v := ?_) rfl (by kernel_rfl) (by kernel_rfl) (by kernel_rfl) (fun _ _ _ h => h) (Or.inl ⟨by rfl, ?y19⟩) (by assumption) ?_
                case y19 => intro w hSw; (try dsimp only at hSw); go_simp; (try with_reducible rfl)
                (try simp only [Act.put, List.setIfInBounds_toArray, List.set_cons_zero, List.set_cons_succ, List.getElem_toArray, List.getElem_cons_zero, List.getElem_cons_succ])
                refine wpAnyH_take (i := 20) (v := ?_) rfl (by kernel_rfl) (by kernel_rfl) (by kernel_rfl) (fun _ _ _ h => h) (Or.inl ⟨by rfl, ?y20⟩) (by assumption) ?_
                case y20 => intro w hSw; (try dsimp only at hSw); go_simp; (try with_reducible rfl)
                (try simp only [Act.put, List.setIfInBounds_toArray, List.set_cons_zero, List.set_cons_succ, List.getElem_toArray, List.getElem_cons_zero, List.getElem_cons_succ])
                refine wpAnyH_take (i := 21) (v := ?_) rfl (by kernel_rfl) (by kernel_rfl) (by kernel_rfl) (fun _ _ _ h => h) (Or.inl ⟨by rfl, ?y21⟩) (by assumption) ?_
                case y21 => intro w hSw; (try dsimp only at hSw); go_simp; (try with_reducible rfl)
                (try simp only [Act.put, List.setIfInBounds_toArray, List.set_cons_zero, List.set_cons_succ, List.getElem_toArray, List.getElem_cons_zero, List.getElem_cons_succ])
                refine wpAnyH_take (i := 22) (v := ?_) rfl (by kernel_rfl) (by kernel_rfl) (by kernel_rfl) (fun _ _ _ h => h) (Or.inl ⟨by rfl, ?y22⟩) (by assumption) ?_
                case y22 => intro w hSw; (try dsimp only at hSw); go_simp; (try with_reducible rfl)
                (try simp only [Act.put, List.setIfInBounds_toArray, List.set_cons_zero, List.set_cons_succ, List.getElem_toArray, List.getElem_cons_zero, List.getElem_cons_succ])
                refine wpAnyH_take (i := 23) (v := ?_) rfl (by kernel_rfl) (by kernel_rfl) (by kernel_rfl) (fun _ _ _ h => h) (Or.inl ⟨by rfl, ?y23⟩) (by assumption) ?_
                case y23 => intro w hSw; (try dsimp only at hSw); go_simp; (try with_reducible rfl)
                (try simp only [Act.put, List.setIfInBounds_toArray, List.set_cons_zero, List.set_cons_succ, List.getElem_toArray, List.getElem_cons_zero, List.getElem_cons_succ])
                refine wpAnyH_ready (rs := [24]) (by kernel_rfl) (by simp) ?_
                refine AllReadyH.cons rfl (fun K hK => ?_) AllReadyH.nil
                go_simp
                refine q24.mono ?_; clear q24; rintro e y24 ⟨rfl, rfl⟩
                refine hK.out _ _ (hS.out _ hb4) (fun hHeld => ?_)
                clear hK K
                (try simp only [Act.put, List.setIfInBounds_toArray, List.set_cons_zero, List.set_cons_succ, List.getElem_toArray, List.getElem_cons_zero, List.getElem_cons_succ])
                refine wpAnyH_take (i := 25) (v := ?_) rfl (by kernel_rfl) (by kernel_rfl) (by kernel_rfl) (fun _ _ _ h => h) (Or.inl ⟨by rfl, ?y25⟩) (by assumption) ?_
                case y25 => intro w hSw; (try dsimp only at hSw); go_simp; (try with_reducible rfl)
                (try simp only [Act.put, List.setIfInBounds_toArray, List.set_cons_zero, List.set_cons_succ, List.getElem_toArray, List.getElem_cons_zero, List.getElem_cons_succ])
                refine wpAnyH_take (i := 26) (v := ?_) rfl (by kernel_rfl) (by kernel_rfl) (by kernel_rfl) (fun _ _ _ h => h) (Or.inl ⟨by rfl, ?y26⟩) (by assumption) ?_
                case y26 => intro w hSw; (try dsimp only at hSw); go_simp; (try with_reducible rfl)
                (try simp only [Act.put, List.setIfInBounds_toArray, List.set_cons_zero, List.set_cons_succ, List.getElem_toArray, List.getElem_cons_zero, List.getElem_cons_succ])
                refine wpAnyH_done (by kernel_rfl) ?_ _
                go_wp2_with fail
                refine hrd.mono ?_; clear hrd; rintro e y3 ⟨u3, rfl, ho, hG3, hb⟩
                obtain ⟨ra, rc, rfl, hr⟩ := inr_own ho (inr_row HI.out v)
                have HG3 := Lib.hid hG3; have HS3 := Lib.hid (HSA.out.below hb); have HU3 := Lib.hid (HU.out.below hb); have HR3 := Lib.hid hr
                have hcz3 := (hb.cell (World.block_lt_of_cell? _ _ (hS.out _ hb4))).trans (hS.out _ hb4)
                clear ho hG3 hb hr HSA HU
                obtain ⟨ln, hln⟩ : ∃ ln, ln = (gR R v).length := ⟨_, rfl⟩
                rw [← hln] at hcl ⊢
                have HLN := Lib.hid hln
                clear hln
                go_wp2_with fail
                go_loopw [13, 15] (fun b i wr => ∃ (k : Nat) (bz : Int), k ≤ ln ∧ i = .int .i64 (k : Int) ∧ b = .int .i64 bz ∧ Best R S2 v k bz ∧ wr = y3) (fun _ i _ => ln - (intOf i).toNat)
                case atStart => exact ⟨0, -1, Nat.zero_le _, rfl, rfl, Best.begin R S2 v, rfl⟩
                case round =>
                  obtain ⟨k, bz, hk, rfl, rfl, hB, rfl⟩ := hrel
                  have hbb := hB.bound HS.out HI.out
                  have HB := Lib.hid hB
                  clear hB
                  by_cases hlk : k < ln
                  · have j0 : (0 : Int) ≤ (k : Int) := by omega
                    have j1 : (k : Int) < (ln : Int) := by omega
                    have hlk2 : k < (gR R v).length := by rw [← HLN.out]; exact hlk
                    obtain ⟨rb, ro, hra, hcy⟩ := HR3.out.2 k hlk2
                    obtain ⟨hyq, hyl⟩ := gY_is HI.out hlk2
                    rw [hyq] at hcy
                    obtain ⟨sb2, so2, hsa, hcs⟩ := HS3.out.2 (gY R v k) (by rw [HS.out.len]; exact hyl)
                    cases hsa
                    subst hra
                    have hl2 := isst_low HS.out hyl
                    have HSK := Lib.hid (HB.out.skip HS.out HI.out hlk2)
                    have HTK := Lib.hid (HB.out.take hlk2)
                    have y0 : (0 : Int) ≤ ((gY R v k : Nat) : Int) := by omega
                    have y1 : ((gY R v k : Nat) : Int) < (R.length : Int) := by omega
                    have y2 : decide (((gY R v k : Nat) : Int) < 0) = false := decide_eq_false (by omega)
                    have y4 : decide ((R.length : Int) ≤ ((gY R v k : Nat) : Int)) = false := decide_eq_false (by omega)
                    generalize gY R v k = y at *
                    obtain ⟨q, hq⟩ : ∃ q, q = S2.getD y 0 := ⟨_, rfl⟩
                    rw [← hq] at hl2 hcs HSK HTK
                    clear hq hyq hlk2 hyl
                    by_cases hq0 : 0 ≤ q
                    · have dq : decide (0 ≤ q) = true := decide_eq_true hq0
                      by_cases hb0 : bz < 0
                      · have db : decide (bz < 0) = true := decide_eq_true hb0
                        have HN := Lib.hid (HTK.out (by unfold lower; rw [dq, db]; rfl))
                        clear hbb
                        go_wp2_with fail
                        go_roundw
                        · exact ⟨k + 1, q, by omega, by go_num, rfl, HN.out, by first | rfl | trivial⟩
                        · simp [intOf]; omega
                      · have db : decide (bz < 0) = false := decide_eq_false hb0
                        by_cases hqb : q < bz
                        · have dqb : decide (q < bz) = true := decide_eq_true hqb
                          have HN := Lib.hid (HTK.out (by unfold lower; rw [dq, db, dqb]; rfl))
                          clear hbb
                          go_wp2_with fail
                          go_roundw
                          · exact ⟨k + 1, q, by omega, by go_num, rfl, HN.out, by first | rfl | trivial⟩
                          · simp [intOf]; omega
                        · have dqb : decide (q < bz) = false := decide_eq_false hqb
                          have HN := Lib.hid (HSK.out (by unfold lower; rw [dq, db, dqb]; rfl))
                          clear hbb
                          go_wp2_with fail
                          go_roundw
                          · exact ⟨k + 1, bz, by omega, by go_num, rfl, HN.out, by first | rfl | trivial⟩
                          · simp [intOf]; omega
                    · have dq : decide (0 ≤ q) = false := decide_eq_false hq0
                      have HN := Lib.hid (HSK.out (by unfold lower; rw [dq]; rfl))
                      clear hbb
                      go_wp2_with fail
                      go_roundw
                      · exact ⟨k + 1, bz, by omega, by go_num, rfl, HN.out, by first | rfl | trivial⟩
                      · simp [intOf]; omega
                  · obtain rfl : k = ln := by omega
                    have hd0 : decide ((k : Int) < (k : Int)) = false := decide_eq_false (by omega)
                    have hfin := HFN.out bz (by have := HB.out; rw [HLN.out] at this; exact this)
                    have e1 : wrap64 (bz + 1) = bz + 1 := by unfold wrap64; omega
                    have e2 : IntKind.i64.wrap (bz + 1) = bz + 1 := by simp [IntKind.wrap, IntKind.signed, IntKind.bits]; omega
                    have dq : decide (0 ≤ bz) = false := decide_eq_false (by have := hfin.2 (by have := HZ1.out; omega); omega)
                    clear hfin hbb
                    go_wp2_with fail
                    go_roundw
                    · exact ⟨v + 1, by omega, by go_num, HG3.out, HS3.out, HU3.out⟩
                    · simp [intOf]; omega
              · have dz : decide (0 ≤ z) = true := by exact decide_eq_true (by omega)
                have de : (z == 0) = true := by simp; omega
                have dg : decide (0 < z) = false := by exact decide_eq_false (by omega)
                have dt : decide (z < 0) = false := by exact decide_eq_false (by omega)
                rw [dz] at q7
                rw [de] at q24
                have HZ1 := Lib.hid hz1
                clear hz1
                go_wp2_with fail
                refine wp_region_held_drew (S := fun wz => wz.cell? ⟨sb, so + v, none⟩ = some (.int .i64 z)) (by kernel_rfl) (hS.out _ hb4) (fun hHeld => ?_)
                refine wpAnyH_take (i := 0) (v := ?_) rfl (by kernel_rfl) (by kernel_rfl) (by kernel_rfl) (fun _ _ _ h => h) (Or.inl ⟨by rfl, ?y0⟩) (by assumption) ?_
                case y0 => intro w hSw; (try dsimp only at hSw); go_simp; (try with_reducible rfl)
                (try simp only [Act.put, List.setIfInBounds_toArray, List.set_cons_zero, List.set_cons_succ, List.getElem_toArray, List.getElem_cons_zero, List.getElem_cons_succ])
                refine wpAnyH_take (i := 1) (v := ?_) rfl (by kernel_rfl) (by kernel_rfl) (by kernel_rfl) (fun _ _ _ h => h) (Or.inl ⟨by rfl, ?y1⟩) (by assumption) ?_
                case y1 => intro w hSw; (try dsimp only at hSw); go_simp; (try with_reducible rfl)
                (try simp only [Act.put, List.setIfInBounds_toArray, List.set_cons_zero, List.set_cons_succ, List.getElem_toArray, List.getElem_cons_zero, List.getElem_cons_succ])
                refine wpAnyH_take (i := 2) (v := ?_) rfl (by kernel_rfl) (by kernel_rfl) (by kernel_rfl) (fun _ _ _ h => h) (Or.inl ⟨by rfl, ?y2⟩) (by assumption) ?_
                case y2 => intro w hSw; (try dsimp only at hSw); go_simp; (try with_reducible rfl)
                (try simp only [Act.put, List.setIfInBounds_toArray, List.set_cons_zero, List.set_cons_succ, List.getElem_toArray, List.getElem_cons_zero, List.getElem_cons_succ])
                refine wpAnyH_take (i := 3) (v := ?_) rfl (by kernel_rfl) (by kernel_rfl) (by kernel_rfl) (fun _ _ _ h => h) (Or.inl ⟨by rfl, ?y3⟩) (by assumption) ?_
                case y3 => intro w hSw; (try dsimp only at hSw); go_simp; (try with_reducible rfl)
                (try simp only [Act.put, List.setIfInBounds_toArray, List.set_cons_zero, List.set_cons_succ, List.getElem_toArray, List.getElem_cons_zero, List.getElem_cons_succ])
                refine wpAnyH_take (i := 4) (v := ?_) rfl (by kernel_rfl) (by kernel_rfl) (by kernel_rfl) (fun _ _ _ h => h) (Or.inl ⟨by rfl, ?y4⟩) (by assumption) ?_
                case y4 => intro w hSw; (try dsimp only at hSw); go_simp; (try with_reducible rfl)
                (try simp only [Act.put, List.setIfInBounds_toArray, List.set_cons_zero, List.set_cons_succ, List.getElem_toArray, List.getElem_cons_zero, List.getElem_cons_succ])
                refine wpAnyH_take (i := 5) (v := ?_) rfl (by kernel_rfl) (by kernel_rfl) (by kernel_rfl) (fun _ _ _ h => h) (Or.inl ⟨by rfl, ?y5⟩) (by assumption) ?_
                case y5 => intro w hSw; (try dsimp only at hSw); go_simp; (try with_reducible rfl)
                (try simp only [Act.put, List.setIfInBounds_toArray, List.set_cons_zero, List.set_cons_succ, List.getElem_toArray, List.getElem_cons_zero, List.getElem_cons_succ])
                refine wpAnyH_take (i := 6) (v := ?_) rfl (by kernel_rfl) (by kernel_rfl) (by kernel_rfl) (fun _ _ _ h => h) (Or.inl ⟨by rfl, ?y6⟩) (by assumption) ?_
                case y6 => intro w hSw; (try dsimp only at hSw); go_simp; (try with_reducible rfl)
                (try simp only [Act.put, List.setIfInBounds_toArray, List.set_cons_zero, List.set_cons_succ, List.getElem_toArray, List.getElem_cons_zero, List.getElem_cons_succ])
                refine wpAnyH_ready (rs := [7]) (by kernel_rfl) (by simp) ?_
                refine AllReadyH.cons rfl (fun K hK => ?_) AllReadyH.nil
                go_simp
                refine q7.mono ?_; clear q7; rintro e y7 ⟨rfl, rfl⟩
                refine hK.out _ _ (hS.out _ hb4) (fun hHeld => ?_)
                clear hK K
                (try simp only [Act.put, List.setIfInBounds_toArray, List.set_cons_zero, List.set_cons_succ, List.getElem_toArray, List.getElem_cons_zero, List.getElem_cons_succ])
                refine wpAnyH_take (i := 8) (v := ?_) rfl (by kernel_rfl) (by kernel_rfl) (by kernel_rfl) (fun _ _ _ h => h) (Or.inl ⟨by rfl, ?y8⟩) (by assumption) ?_
                case y8 => intro w hSw; (try dsimp only at hSw); go_simp; (try with_reducible rfl)
                (try simp only [Act.put, List.setIfInBounds_toArray, List.set_cons_zero, List.set_cons_succ, List.getElem_toArray, List.getElem_cons_zero, List.getElem_cons_succ])
                refine wpAnyH_take (i := 9) (v := ?_) rfl (by kernel_rfl) (by kernel_rfl) (by kernel_rfl) (fun _ _ _ h => h) (Or.inl ⟨by rfl, ?y9⟩) (by assumption) ?_
                case y9 => intro w hSw; (try dsimp only at hSw); go_simp; (try with_reducible rfl)
                (try simp only [Act.put, List.setIfInBounds_toArray, List.set_cons_zero, List.set_cons_succ, List.getElem_toArray, List.getElem_cons_zero, List.getElem_cons_succ])
                refine wpAnyH_take (i := 10) (v := ?_) rfl (by kernel_rfl) (by kernel_rfl) (by kernel_rfl) (fun _ _ _ h => h) (Or.inl ⟨by rfl, ?y10⟩) (by assumption) ?_
                case y10 => intro w hSw; (try dsimp only at hSw); go_simp; (try with_reducible rfl)
                (try simp only [Act.put, List.setIfInBounds_toArray, List.set_cons_zero, List.set_cons_succ, List.getElem_toArray, List.getElem_cons_zero, List.getElem_cons_succ])
                refine wpAnyH_take (i := 11) (v := ?_) rfl (by kernel_rfl) (by kernel_rfl) (by kernel_rfl) (fun _ _ _ h => h) (Or.inl ⟨by rfl, ?y11⟩) (by assumption) ?_
                case y11 => intro w hSw; (try dsimp only at hSw); go_simp; (try with_reducible rfl)
                (try simp only [Act.put, List.setIfInBounds_toArray, List.set_cons_zero, List.set_cons_succ, List.getElem_toArray, List.getElem_cons_zero, List.getElem_cons_succ])
                refine wpAnyH_take (i := 12) (v := ?_) rfl (by kernel_rfl) (by kernel_rfl) (by kernel_rfl) (fun _ _ _ h => h) (Or.inl ⟨by rfl, ?y12⟩) (by assumption) ?_
                case y12 => intro w hSw; (try dsimp only at hSw); go_simp; (try with_reducible rfl)
                (try simp only [Act.put, List.setIfInBounds_toArray, List.set_cons_zero, List.set_cons_succ, List.getElem_toArray, List.getElem_cons_zero, List.getElem_cons_succ])
                refine wpAnyH_take (i := 13) (v := ?_) rfl (by kernel_rfl) (by kernel_rfl) (by kernel_rfl) (fun _ _ _ h => h) (Or.inl ⟨by rfl, ?y13⟩) (by assumption) ?_
                case y13 => intro w hSw; (try dsimp only at hSw); go_simp; (try with_reducible rfl)
                (try simp only [Act.put, List.setIfInBounds_toArray, List.set_cons_zero, List.set_cons_succ, List.getElem_toArray, List.getElem_cons_zero, List.getElem_cons_succ])
                refine wpAnyH_take (i := 14) (v := ?_) rfl (by kernel_rfl) (by kernel_rfl) (by kernel_rfl) (fun _ _ _ h => h) (Or.inl ⟨by rfl, ?y14⟩) (by assumption) ?_
                case y14 => intro w hSw; (try dsimp only at hSw); go_simp; (try with_reducible rfl)
                (try simp only [Act.put, List.setIfInBounds_toArray, List.set_cons_zero, List.set_cons_succ, List.getElem_toArray, List.getElem_cons_zero, List.getElem_cons_succ])
                refine wpAnyH_take (i := 15) (v := ?_) rfl (by kernel_rfl) (by kernel_rfl) (by kernel_rfl) (fun _ _ _ h => h) (Or.inl ⟨by rfl, ?y15⟩) (by assumption) ?_
                case y15 => intro w hSw; (try dsimp only at hSw); go_simp; (try with_reducible rfl)
                (try simp only [Act.put, List.setIfInBounds_toArray, List.set_cons_zero, List.set_cons_succ, List.getElem_toArray, List.getElem_cons_zero, List.getElem_cons_succ])
                refine wpAnyH_take (i := 16) (v := ?_) rfl (by kernel_rfl) (by kernel_rfl) (by kernel_rfl) (fun _ _ _ h => h) (Or.inl ⟨by rfl, ?y16⟩) (by assumption) ?_
                case y16 => intro w hSw; (try dsimp only at hSw); go_simp; (try with_reducible rfl)
                (try simp only [Act.put, List.setIfInBounds_toArray, List.set_cons_zero, List.set_cons_succ, List.getElem_toArray, List.getElem_cons_zero, List.getElem_cons_succ])
                refine wpAnyH_take (i := 17) (v := ?_) rfl (by kernel_rfl) (by kernel_rfl) (by kernel_rfl) (fun _ _ _ h => h) (Or.inl ⟨by rfl, ?y17⟩) (by assumption) ?_
                case y17 => intro w hSw; (try dsimp only at hSw); go_simp; (try with_reducible rfl)
                (try simp only [Act.put, List.setIfInBounds_toArray, List.set_cons_zero, List.set_cons_succ, List.getElem_toArray, List.getElem_cons_zero, List.getElem_cons_succ])
                refine wpAnyH_take (i := 18) (v := ?_) rfl (by kernel_rfl) (by kernel_rfl) (by kernel_rfl) (fun _ _ _ h => h) (Or.inl ⟨by rfl, ?y18⟩) (by assumption) ?_
                case y18 => intro w hSw; (try dsimp only at hSw); go_simp; (try with_reducible rfl)
                (try simp only [Act.put, List.setIfInBounds_toArray, List.set_cons_zero, List.set_cons_succ, List.getElem_toArray, List.getElem_cons_zero, List.getElem_cons_succ])
                refine wpAnyH_take (i := 19) (v := ?_) rfl (by kernel_rfl) (by kernel_rfl) (by kernel_rfl) (fun _ _ _ h => h) (Or.inl ⟨by rfl, ?y19⟩) (by assumption) ?_
                case y19 => intro w hSw; (try dsimp only at hSw); go_simp; (try with_reducible rfl)
                (try simp only [Act.put, List.setIfInBounds_toArray, List.set_cons_zero, List.set_cons_succ, List.getElem_toArray, List.getElem_cons_zero, List.getElem_cons_succ])
                refine wpAnyH_take (i := 20) (v := ?_) rfl (by kernel_rfl) (by kernel_rfl) (by kernel_rfl) (fun _ _ _ h => h) (Or.inl ⟨by rfl, ?y20⟩) (by assumption) ?_
                case y20 => intro w hSw; (try dsimp only at hSw); go_simp; (try with_reducible rfl)
                (try simp only [Act.put, List.setIfInBounds_toArray, List.set_cons_zero, List.set_cons_succ, List.getElem_toArray, List.getElem_cons_zero, List.getElem_cons_succ])
                refine wpAnyH_take (i := 21) (v := ?_) rfl (by kernel_rfl) (by kernel_rfl) (by kernel_rfl) (fun _ _ _ h => h) (Or.inl ⟨by rfl, ?y21⟩) (by assumption) ?_
                case y21 => intro w hSw; (try dsimp only at hSw); go_simp; (try with_reducible rfl)
                (try simp only [Act.put, List.setIfInBounds_toArray, List.set_cons_zero, List.set_cons_succ, List.getElem_toArray, List.getElem_cons_zero, List.getElem_cons_succ])
                refine wpAnyH_take (i := 22) (v := ?_) rfl (by kernel_rfl) (by kernel_rfl) (by kernel_rfl) (fun _ _ _ h => h) (Or.inl ⟨by rfl, ?y22⟩) (by assumption) ?_
                case y22 => intro w hSw; (try dsimp only at hSw); go_simp; (try with_reducible rfl)
                (try simp only [Act.put, List.setIfInBounds_toArray, List.set_cons_zero, List.set_cons_succ, List.getElem_toArray, List.getElem_cons_zero, List.getElem_cons_succ])
                refine wpAnyH_take (i := 23) (v := ?_) rfl (by kernel_rfl) (by kernel_rfl) (by kernel_rfl) (fun _ _ _ h => h) (Or.inl ⟨by rfl, ?y23⟩) (by assumption) ?_
                case y23 => intro w hSw; (try dsimp only at hSw); go_simp; (try with_reducible rfl)
                (try simp only [Act.put, List.setIfInBounds_toArray, List.set_cons_zero, List.set_cons_succ, List.getElem_toArray, List.getElem_cons_zero, List.getElem_cons_succ])
                refine wpAnyH_ready (rs := [24]) (by kernel_rfl) (by simp) ?_
                refine AllReadyH.cons rfl (fun K hK => ?_) AllReadyH.nil
                go_simp
                refine q24.mono ?_; clear q24; rintro e y24 ⟨rfl, rfl⟩
                refine hK.out _ _ (hS.out _ hb4) (fun hHeld => ?_)
                clear hK K
                (try simp only [Act.put, List.setIfInBounds_toArray, List.set_cons_zero, List.set_cons_succ, List.getElem_toArray, List.getElem_cons_zero, List.getElem_cons_succ])
                refine wpAnyH_take (i := 25) (v := ?_) rfl (by kernel_rfl) (by kernel_rfl) (by kernel_rfl) (fun _ _ _ h => h) (Or.inl ⟨by rfl, ?y25⟩) (by assumption) ?_
                case y25 => intro w hSw; (try dsimp only at hSw); go_simp; (try with_reducible rfl)
                (try simp only [Act.put, List.setIfInBounds_toArray, List.set_cons_zero, List.set_cons_succ, List.getElem_toArray, List.getElem_cons_zero, List.getElem_cons_succ])
                refine wpAnyH_take (i := 26) (v := ?_) rfl (by kernel_rfl) (by kernel_rfl) (by kernel_rfl) (fun _ _ _ h => h) (Or.inl ⟨by rfl, ?y26⟩) (by assumption) ?_
                case y26 => intro w hSw; (try dsimp only at hSw); go_simp; (try with_reducible rfl)
                (try simp only [Act.put, List.setIfInBounds_toArray, List.set_cons_zero, List.set_cons_succ, List.getElem_toArray, List.getElem_cons_zero, List.getElem_cons_succ])
                refine wpAnyH_done (by kernel_rfl) ?_ _
                go_wp2_with fail
                refine hrd.mono ?_; clear hrd; rintro e y3 ⟨u3, rfl, ho, hG3, hb⟩
                obtain ⟨ra, rc, rfl, hr⟩ := inr_own ho (inr_row HI.out v)
                have HG3 := Lib.hid hG3; have HS3 := Lib.hid (HSA.out.below hb); have HU3 := Lib.hid (HU.out.below hb); have HR3 := Lib.hid hr
                have hcz3 := (hb.cell (World.block_lt_of_cell? _ _ (hS.out _ hb4))).trans (hS.out _ hb4)
                clear ho hG3 hb hr HSA HU
                obtain ⟨ln, hln⟩ : ∃ ln, ln = (gR R v).length := ⟨_, rfl⟩
                rw [← hln] at hcl ⊢
                have HLN := Lib.hid hln
                clear hln
                go_wp2_with fail
                go_loopw [13, 15] (fun b i wr => ∃ (k : Nat) (bz : Int), k ≤ ln ∧ i = .int .i64 (k : Int) ∧ b = .int .i64 bz ∧ Best R S2 v k bz ∧ wr = y3) (fun _ i _ => ln - (intOf i).toNat)
                case atStart => exact ⟨0, -1, Nat.zero_le _, rfl, rfl, Best.begin R S2 v, rfl⟩
                case round =>
                  obtain ⟨k, bz, hk, rfl, rfl, hB, rfl⟩ := hrel
                  have hbb := hB.bound HS.out HI.out
                  have HB := Lib.hid hB
                  clear hB
                  by_cases hlk : k < ln
                  · have j0 : (0 : Int) ≤ (k : Int) := by omega
                    have j1 : (k : Int) < (ln : Int) := by omega
                    have hlk2 : k < (gR R v).length := by rw [← HLN.out]; exact hlk
                    obtain ⟨rb, ro, hra, hcy⟩ := HR3.out.2 k hlk2
                    obtain ⟨hyq, hyl⟩ := gY_is HI.out hlk2
                    rw [hyq] at hcy
                    obtain ⟨sb2, so2, hsa, hcs⟩ := HS3.out.2 (gY R v k) (by rw [HS.out.len]; exact hyl)
                    cases hsa
                    subst hra
                    have hl2 := isst_low HS.out hyl
                    have HSK := Lib.hid (HB.out.skip HS.out HI.out hlk2)
                    have HTK := Lib.hid (HB.out.take hlk2)
                    have y0 : (0 : Int) ≤ ((gY R v k : Nat) : Int) := by omega
                    have y1 : ((gY R v k : Nat) : Int) < (R.length : Int) := by omega
                    have y2 : decide (((gY R v k : Nat) : Int) < 0) = false := decide_eq_false (by omega)
                    have y4 : decide ((R.length : Int) ≤ ((gY R v k : Nat) : Int)) = false := decide_eq_false (by omega)
                    generalize gY R v k = y at *
                    obtain ⟨q, hq⟩ : ∃ q, q = S2.getD y 0 := ⟨_, rfl⟩
                    rw [← hq] at hl2 hcs HSK HTK
                    clear hq hyq hlk2 hyl
                    by_cases hq0 : 0 ≤ q
                    · have dq : decide (0 ≤ q) = true := decide_eq_true hq0
                      by_cases hb0 : bz < 0
                      · have db : decide (bz < 0) = true := decide_eq_true hb0
                        have HN := Lib.hid (HTK.out (by unfold lower; rw [dq, db]; rfl))
                        clear hbb
                        go_wp2_with fail
                        go_roundw
                        · exact ⟨k + 1, q, by omega, by go_num, rfl, HN.out, by first | rfl | trivial⟩
                        · simp [intOf]; omega
                      · have db : decide (bz < 0) = false := decide_eq_false hb0
                        by_cases hqb : q < bz
                        · have dqb : decide (q < bz) = true := decide_eq_true hqb
                          have HN := Lib.hid (HTK.out (by unfold lower; rw [dq, db, dqb]; rfl))
                          clear hbb
                          go_wp2_with fail
                          go_roundw
                          · exact ⟨k + 1, q, by omega, by go_num, rfl, HN.out, by first | rfl | trivial⟩
                          · simp [intOf]; omega
                        · have dqb : decide (q < bz) = false := decide_eq_false hqb
                          have HN := Lib.hid (HSK.out (by unfold lower; rw [dq, db, dqb]; rfl))
                          clear hbb
                          go_wp2_with fail
                          go_roundw
                          · exact ⟨k + 1, bz, by omega, by go_num, rfl, HN.out, by first | rfl | trivial⟩
                          · simp [intOf]; omega
                    · have dq : decide (0 ≤ q) = false := decide_eq_false hq0
                      have HN := Lib.hid (HSK.out (by unfold lower; rw [dq]; rfl))
                      clear hbb
                      go_wp2_with fail
                      go_roundw
                      · exact ⟨k + 1, bz, by omega, by go_num, rfl, HN.out, by first | rfl | trivial⟩
                      · simp [intOf]; omega
                  · obtain rfl : k = ln := by omega
                    have hd0 : decide ((k : Int) < (k : Int)) = false := decide_eq_false (by omega)
                    have hfin := HFN.out bz (by have := HB.out; rw [HLN.out] at this; exact this)
                    have e1 : wrap64 (bz + 1) = bz + 1 := by unfold wrap64; omega
                    have e2 : IntKind.i64.wrap (bz + 1) = bz + 1 := by simp [IntKind.wrap, IntKind.signed, IntKind.bits]; omega
                    clear hfin hbb
                    go_wp2_with fail
                    go_roundw
                    · exact ⟨v + 1, by omega, by go_num, HG3.out, HS3.out, HU3.out⟩
                    · simp [intOf]; omega
              · have dz : decide (0 ≤ z) = true := by exact decide_eq_true (by omega)
                have de : (z == 0) = false := by simp; omega
                have dg : decide (0 < z) = true := by exact decide_eq_true (by omega)
                have dt : decide (z < 0) = false := by exact decide_eq_false (by omega)
                rw [dz] at q7
                rw [de] at q24
                have HZ1 := Lib.hid hz1
                clear hz1
                go_wp2_with fail
                refine wp_region_held_drew (S := fun wz => wz.cell? ⟨sb, so + v, none⟩ = some (.int .i64 z)) (by kernel_rfl) (hS.out _ hb4) (fun hHeld => ?_)
                refine wpAnyH_take (i := 0) (v := ?_) rfl (by kernel_rfl) (by kernel_rfl) (by kernel_rfl) (fun _ _ _ h => h) (Or.inl ⟨by rfl, ?y0⟩) (by assumption) ?_
                case y0 => intro w hSw; (try dsimp only at hSw); go_simp; (try with_reducible rfl)
                (try simp only [Act.put, List.setIfInBounds_toArray, List.set_cons_zero, List.set_cons_succ, List.getElem_toArray, List.getElem_cons_zero, List.getElem_cons_succ])
                refine wpAnyH_take (i := 1) (v := ?_) rfl (by kernel_rfl) (by kernel_rfl) (by kernel_rfl) (fun _ _ _ h => h) (Or.inl ⟨by rfl, ?y1⟩) (by assumption) ?_
                case y1 => intro w hSw; (try dsimp only at hSw); go_simp; (try with_reducible rfl)
                (try simp only [Act.put, List.setIfInBounds_toArray, List.set_cons_zero, List.set_cons_succ, List.getElem_toArray, List.getElem_cons_zero, List.getElem_cons_succ])
                refine wpAnyH_take (i := 2) (v := ?_) rfl (by kernel_rfl) (by kernel_rfl) (by kernel_rfl) (fun _ _ _ h => h) (Or.inl ⟨by rfl, ?y2⟩) (by assumption) ?_
                case y2 => intro w hSw; (try dsimp only at hSw); go_simp; (try with_reducible rfl)
                (try simp only [Act.put, List.setIfInBounds_toArray, List.set_cons_zero, List.set_cons_succ, List.getElem_toArray, List.getElem_cons_zero, List.getElem_cons_succ])
                refine wpAnyH_take (i := 3) (v := ?_) rfl (by kernel_rfl) (by kernel_rfl) (by kernel_rfl) (fun _ _ _ h => h) (Or.inl ⟨by rfl, ?y3⟩) (by assumption) ?_
                case y3 => intro w hSw; (try dsimp only at hSw); go_simp; (try with_reducible rfl)
                (try simp only [Act.put, List.setIfInBounds_toArray, List.set_cons_zero, List.set_cons_succ, List.getElem_toArray, List.getElem_cons_zero, List.getElem_cons_succ])
                refine wpAnyH_take (i := 4) (v := ?_) rfl (by kernel_rfl) (by kernel_rfl) (by kernel_rfl) (fun _ _ _ h => h) (Or.inl ⟨by rfl, ?y4⟩) (by assumption) ?_
                case y4 => intro w hSw; (try dsimp only at hSw); go_simp; (try with_reducible rfl)
                (try simp only [Act.put, List.setIfInBounds_toArray, List.set_cons_zero, List.set_cons_succ, List.getElem_toArray, List.getElem_cons_zero, List.getElem_cons_succ])
                refine wpAnyH_take (i := 5) (v := ?_) rfl (by kernel_rfl) (by kernel_rfl) (by kernel_rfl) (fun _ _ _ h => h) (Or.inl ⟨by rfl, ?y5⟩) (by assumption) ?_
                case y5 => intro w hSw; (try dsimp only at hSw); go_simp; (try with_reducible rfl)
                (try simp only [Act.put, List.setIfInBounds_toArray, List.set_cons_zero, List.set_cons_succ, List.getElem_toArray, List.getElem_cons_zero, List.getElem_cons_succ])
                refine wpAnyH_take (i := 6) (v := ?_) rfl (by kernel_rfl) (by kernel_rfl) (by kernel_rfl) (fun _ _ _ h => h) (Or.inl ⟨by rfl, ?y6⟩) (by assumption) ?_
                case y6 => intro w hSw; (try dsimp only at hSw); go_simp; (try with_reducible rfl)
                (try simp only [Act.put, List.setIfInBounds_toArray, List.set_cons_zero, List.set_cons_succ, List.getElem_toArray, List.getElem_cons_zero, List.getElem_cons_succ])
                refine wpAnyH_ready (rs := [7]) (by kernel_rfl) (by simp) ?_
                refine AllReadyH.cons rfl (fun K hK => ?_) AllReadyH.nil
                go_simp
                refine q7.mono ?_; clear q7; rintro e y7 ⟨rfl, rfl⟩
                refine hK.out _ _ (hS.out _ hb4) (fun hHeld => ?_)
                clear hK K
                (try simp only [Act.put, List.setIfInBounds_toArray, List.set_cons_zero, List.set_cons_succ, List.getElem_toArray, List.getElem_cons_zero, List.getElem_cons_succ])
                refine wpAnyH_take (i := 8) (v := ?_) rfl (by kernel_rfl) (by kernel_rfl) (by kernel_rfl) (fun _ _ _ h => h) (Or.inl ⟨by rfl, ?y8⟩) (by assumption) ?_
                case y8 => intro w hSw; (try dsimp only at hSw); go_simp; (try with_reducible rfl)
                (try simp only [Act.put, List.setIfInBounds_toArray, List.set_cons_zero, List.set_cons_succ, List.getElem_toArray, List.getElem_cons_zero, List.getElem_cons_succ])
                refine wpAnyH_take (i := 9) (v := ?_) rfl (by kernel_rfl) (by kernel_rfl) (by kernel_rfl) (fun _ _ _ h => h) (Or.inl ⟨by rfl, ?y9⟩) (by assumption) ?_
                case y9 => intro w hSw; (try dsimp only at hSw); go_simp; (try with_reducible rfl)
                (try simp only [Act.put, List.setIfInBounds_toArray, List.set_cons_zero, List.set_cons_succ, List.getElem_toArray, List.getElem_cons_zero, List.getElem_cons_succ])
                refine wpAnyH_take (i := 10) (v := ?_) rfl (by kernel_rfl) (by kernel_rfl) (by kernel_rfl) (fun _ _ _ h => h) (Or.inl ⟨by rfl, ?y10⟩) (by assumption) ?_
                case y10 => intro w hSw; (try dsimp only at hSw); go_simp; (try with_reducible rfl)
                (try simp only [Act.put, List.setIfInBounds_toArray, List.set_cons_zero, List.set_cons_succ, List.getElem_toArray, List.getElem_cons_zero, List.getElem_cons_succ])
                refine wpAnyH_take (i := 11) (v := ?_) rfl (by kernel_rfl) (by kernel_rfl) (by kernel_rfl) (fun _ _ _ h => h) (Or.inl ⟨by rfl, ?y11⟩) (by assumption) ?_
                case y11 => intro w hSw; (try dsimp only at hSw); go_simp; (try with_reducible rfl)
                (try simp only [Act.put, List.setIfInBounds_toArray, List.set_cons_zero, List.set_cons_succ, List.getElem_toArray, List.getElem_cons_zero, List.getElem_cons_succ])
                refine wpAnyH_take (i := 12) (v := ?_) rfl (by kernel_rfl) (by kernel_rfl) (by kernel_rfl) (fun _ _ _ h => h) (Or.inl ⟨by rfl, ?y12⟩) (by assumption) ?_
                case y12 => intro w hSw; (try dsimp only at hSw); go_simp; (try with_reducible rfl)
                (try simp only [Act.put, List.setIfInBounds_toArray, List.set_cons_zero, List.set_cons_succ, List.getElem_toArray, List.getElem_cons_zero, List.getElem_cons_succ])
                refine wpAnyH_take (i := 13) (v := ?_) rfl (by kernel_rfl) (by kernel_rfl) (by kernel_rfl) (fun _ _ _ h => h) (Or.inl ⟨by rfl, ?y13⟩) (by assumption) ?_
                case y13 => intro w hSw; (try dsimp only at hSw); go_simp; (try with_reducible rfl)
                (try simp only [Act.put, List.setIfInBounds_toArray, List.set_cons_zero, List.set_cons_succ, List.getElem_toArray, List.getElem_cons_zero, List.getElem_cons_succ])
                refine wpAnyH_take (i := 14) (v := ?_) rfl (by kernel_rfl) (by kernel_rfl) (by kernel_rfl) (fun _ _ _ h => h) (Or.inl ⟨by rfl, ?y14⟩) (by assumption) ?_
                case y14 => intro w hSw; (try dsimp only at hSw); go_simp; (try with_reducible rfl)
                (try simp only [Act.put, List.setIfInBounds_toArray, List.set_cons_zero, List.set_cons_succ, List.getElem_toArray, List.getElem_cons_zero, List.getElem_cons_succ])
                refine wpAnyH_take (i := 15) (v := ?_) rfl (by kernel_rfl) (by kernel_rfl) (by kernel_rfl) (fun _ _ _ h => h) (Or.inl ⟨by rfl, ?y15⟩) (by assumption) ?_
                case y15 => intro w hSw; (try dsimp only at hSw); go_simp; (try with_reducible rfl)
                (try simp only [Act.put, List.setIfInBounds_toArray, List.set_cons_zero, List.set_cons_succ, List.getElem_toArray, List.getElem_cons_zero, List.getElem_cons_succ])
                refine wpAnyH_take (i := 16) (v := ?_) rfl (by kernel_rfl) (by kernel_rfl) (by kernel_rfl) (fun _ _ _ h => h) (Or.inl ⟨by rfl, ?y16⟩) (by assumption) ?_
                case y16 => intro w hSw; (try dsimp only at hSw); go_simp; (try with_reducible rfl)
                (try simp only [Act.put, List.setIfInBounds_toArray, List.set_cons_zero, List.set_cons_succ, List.getElem_toArray, List.getElem_cons_zero, List.getElem_cons_succ])
                refine wpAnyH_take (i := 17) (v := ?_) rfl (by kernel_rfl) (by kernel_rfl) (by kernel_rfl) (fun _ _ _ h => h) (Or.inl ⟨by rfl, ?y17⟩) (by assumption) ?_
                case y17 => intro w hSw; (try dsimp only at hSw); go_simp; (try with_reducible rfl)
                (try simp only [Act.put, List.setIfInBounds_toArray, List.set_cons_zero, List.set_cons_succ, List.getElem_toArray, List.getElem_cons_zero, List.getElem_cons_succ])
                refine wpAnyH_take (i := 18) (v := ?_) rfl (by kernel_rfl) (by kernel_rfl) (by kernel_rfl) (fun _ _ _ h => h) (Or.inl ⟨by rfl, ?y18⟩) (by assumption) ?_
                case y18 => intro w hSw; (try dsimp only at hSw); go_simp; (try with_reducible rfl)
                (try simp only [Act.put, List.setIfInBounds_toArray, List.set_cons_zero, List.set_cons_succ, List.getElem_toArray, List.getElem_cons_zero, List.getElem_cons_succ])
                refine wpAnyH_take (i := 19) (v := ?_) rfl (by kernel_rfl) (by kernel_rfl) (by kernel_rfl) (fun _ _ _ h => h) (Or.inl ⟨by rfl, ?y19⟩) (by assumption) ?_
                case y19 => intro w hSw; (try dsimp only at hSw); go_simp; (try with_reducible rfl)
                (try simp only [Act.put, List.setIfInBounds_toArray, List.set_cons_zero, List.set_cons_succ, List.getElem_toArray, List.getElem_cons_zero, List.getElem_cons_succ])
                refine wpAnyH_take (i := 20) (v := ?_) rfl (by kernel_rfl) (by kernel_rfl) (by kernel_rfl) (fun _ _ _ h => h) (Or.inl ⟨by rfl, ?y20⟩) (by assumption) ?_
                case y20 => intro w hSw; (try dsimp only at hSw); go_simp; (try with_reducible rfl)
                (try simp only [Act.put, List.setIfInBounds_toArray, List.set_cons_zero, List.set_cons_succ, List.getElem_toArray, List.getElem_cons_zero, List.getElem_cons_succ])
                refine wpAnyH_take (i := 21) (v := ?_) rfl (by kernel_rfl) (by kernel_rfl) (by kernel_rfl) (fun _ _ _ h => h) (Or.inl ⟨by rfl, ?y21⟩) (by assumption) ?_
                case y21 => intro w hSw; (try dsimp only at hSw); go_simp; (try with_reducible rfl)
                (try simp only [Act.put, List.setIfInBounds_toArray, List.set_cons_zero, List.set_cons_succ, List.getElem_toArray, List.getElem_cons_zero, List.getElem_cons_succ])
                refine wpAnyH_take (i := 22) (v := ?_) rfl (by kernel_rfl) (by kernel_rfl) (by kernel_rfl) (fun _ _ _ h => h) (Or.inl ⟨by rfl, ?y22⟩) (by assumption) ?_
                case y22 => intro w hSw; (try dsimp only at hSw); go_simp; (try with_reducible rfl)
                (try simp only [Act.put, List.setIfInBounds_toArray, List.set_cons_zero, List.set_cons_succ, List.getElem_toArray, List.getElem_cons_zero, List.getElem_cons_succ])
                refine wpAnyH_take (i := 23) (v := ?_) rfl (by kernel_rfl) (by kernel_rfl) (by kernel_rfl) (fun _ _ _ h => h) (Or.inl ⟨by rfl, ?y23⟩) (by assumption) ?_
                case y23 => intro w hSw; (try dsimp only at hSw); go_simp; (try with_reducible rfl)
                (try simp only [Act.put, List.setIfInBounds_toArray, List.set_cons_zero, List.set_cons_succ, List.getElem_toArray, List.getElem_cons_zero, List.getElem_cons_succ])
                refine wpAnyH_ready (rs := [24]) (by kernel_rfl) (by simp) ?_
                refine AllReadyH.cons rfl (fun K hK => ?_) AllReadyH.nil
                go_simp
                refine q24.mono ?_; clear q24; rintro e y24 ⟨rfl, rfl⟩
                refine hK.out _ _ (hS.out _ hb4) (fun hHeld => ?_)
                clear hK K
                (try simp only [Act.put, List.setIfInBounds_toArray, List.set_cons_zero, List.set_cons_succ, List.getElem_toArray, List.getElem_cons_zero, List.getElem_cons_succ])
                refine wpAnyH_take (i := 25) (v := ?_) rfl (by kernel_rfl) (by kernel_rfl) (by kernel_rfl) (fun _ _ _ h => h) (Or.inl ⟨by rfl, ?y25⟩) (by assumption) ?_
                case y25 => intro w hSw; (try dsimp only at hSw); go_simp; (try with_reducible rfl)
                (try simp only [Act.put, List.setIfInBounds_toArray, List.set_cons_zero, List.set_cons_succ, List.getElem_toArray, List.getElem_cons_zero, List.getElem_cons_succ])
                refine wpAnyH_take (i := 26) (v := ?_) rfl (by kernel_rfl) (by kernel_rfl) (by kernel_rfl) (fun _ _ _ h => h) (Or.inl ⟨by rfl, ?y26⟩) (by assumption) ?_
                case y26 => intro w hSw; (try dsimp only at hSw); go_simp; (try with_reducible rfl)
                (try simp only [Act.put, List.setIfInBounds_toArray, List.set_cons_zero, List.set_cons_succ, List.getElem_toArray, List.getElem_cons_zero, List.getElem_cons_succ])
                refine wpAnyH_done (by kernel_rfl) ?_ _
                go_wp2_with fail
                refine hrd.mono ?_; clear hrd; rintro e y3 ⟨u3, rfl, ho, hG3, hb⟩
                obtain ⟨ra, rc, rfl, hr⟩ := inr_own ho (inr_row HI.out v)
                have HG3 := Lib.hid hG3; have HS3 := Lib.hid (HSA.out.below hb); have HU3 := Lib.hid (HU.out.below hb); have HR3 := Lib.hid hr
                have hcz3 := (hb.cell (World.block_lt_of_cell? _ _ (hS.out _ hb4))).trans (hS.out _ hb4)
                clear ho hG3 hb hr HSA HU
                obtain ⟨ln, hln⟩ : ∃ ln, ln = (gR R v).length := ⟨_, rfl⟩
                rw [← hln] at hcl ⊢
                have HLN := Lib.hid hln
                clear hln
                go_wp2_with fail
                go_loopw [13, 15] (fun b i wr => ∃ (k : Nat) (bz : Int), k ≤ ln ∧ i = .int .i64 (k : Int) ∧ b = .int .i64 bz ∧ Best R S2 v k bz ∧ wr = y3) (fun _ i _ => ln - (intOf i).toNat)
                case atStart => exact ⟨0, -1, Nat.zero_le _, rfl, rfl, Best.begin R S2 v, rfl⟩
                case round =>
                  obtain ⟨k, bz, hk, rfl, rfl, hB, rfl⟩ := hrel
                  have hbb := hB.bound HS.out HI.out
                  have HB := Lib.hid hB
                  clear hB
                  by_cases hlk : k < ln
                  · have j0 : (0 : Int) ≤ (k : Int) := by omega
                    have j1 : (k : Int) < (ln : Int) := by omega
                    have hlk2 : k < (gR R v).length := by rw [← HLN.out]; exact hlk
                    obtain ⟨rb, ro, hra, hcy⟩ := HR3.out.2 k hlk2
                    obtain ⟨hyq, hyl⟩ := gY_is HI.out hlk2
                    rw [hyq] at hcy
                    obtain ⟨sb2, so2, hsa, hcs⟩ := HS3.out.2 (gY R v k) (by rw [HS.out.len]; exact hyl)
                    cases hsa
                    subst hra
                    have hl2 := isst_low HS.out hyl
                    have HSK := Lib.hid (HB.out.skip HS.out HI.out hlk2)
                    have HTK := Lib.hid (HB.out.take hlk2)
                    have y0 : (0 : Int) ≤ ((gY R v k : Nat) : Int) := by omega
                    have y1 : ((gY R v k : Nat) : Int) < (R.length : Int) := by omega
                    have y2 : decide (((gY R v k : Nat) : Int) < 0) = false := decide_eq_false (by omega)
                    have y4 : decide ((R.length : Int) ≤ ((gY R v k : Nat) : Int)) = false := decide_eq_false (by omega)
                    generalize gY R v k = y at *
                    obtain ⟨q, hq⟩ : ∃ q, q = S2.getD y 0 := ⟨_, rfl⟩
                    rw [← hq] at hl2 hcs HSK HTK
                    clear hq hyq hlk2 hyl
                    by_cases hq0 : 0 ≤ q
                    · have dq : decide (0 ≤ q) = true := decide_eq_true hq0
                      by_cases hb0 : bz < 0
                      · have db : decide (bz < 0) = true := decide_eq_true hb0
                        have HN := Lib.hid (HTK.out (by unfold lower; rw [dq, db]; rfl))
                        clear hbb
                        go_wp2_with fail
                        go_roundw
                        · exact ⟨k + 1, q, by omega, by go_num, rfl, HN.out, by first | rfl | trivial⟩
                        · simp [intOf]; omega
                      · have db : decide (bz < 0) = false := decide_eq_false hb0
                        by_cases hqb : q < bz
                        · have dqb : decide (q < bz) = true := decide_eq_true hqb
                          have HN := Lib.hid (HTK.out (by unfold lower; rw [dq, db, dqb]; rfl))
                          clear hbb
                          go_wp2_with fail
                          go_roundw
                          · exact ⟨k + 1, q, by omega, by go_num, rfl, HN.out, by first | rfl | trivial⟩
                          · simp [intOf]; omega
                        · have dqb : decide (q < bz) = false := decide_eq_false hqb
                          have HN := Lib.hid (HSK.out (by unfold lower; rw [dq, db, dqb]; rfl))
                          clear hbb
                          go_wp2_with fail
                          go_roundw
                          · exact ⟨k + 1, bz, by omega, by go_num, rfl, HN.out, by first | rfl | trivial⟩
                          · simp [intOf]; omega
                    · have dq : decide (0 ≤ q) = false := decide_eq_false hq0
                      have HN := Lib.hid (HSK.out (by unfold lower; rw [dq]; rfl))
                      clear hbb
                      go_wp2_with fail
                      go_roundw
                      · exact ⟨k + 1, bz, by omega, by go_num, rfl, HN.out, by first | rfl | trivial⟩
                      · simp [intOf]; omega
                  · obtain rfl : k = ln := by omega
                    have hd0 : decide ((k : Int) < (k : Int)) = false := decide_eq_false (by omega)
                    have hfin := HFN.out bz (by have := HB.out; rw [HLN.out] at this; exact this)
                    have e1 : wrap64 (bz + 1) = bz + 1 := by unfold wrap64; omega
                    have e2 : IntKind.i64.wrap (bz + 1) = bz + 1 := by simp [IntKind.wrap, IntKind.signed, IntKind.bits]; omega
                    obtain rfl : z = bz + 1 := hfin.1 HZ1.out
                    clear hfin hbb
                    go_wp2_with fail
                    go_roundw
                    · exact ⟨v + 1, by omega, by go_num, HG3.out, HS3.out, HU3.out⟩
                    · simp [intOf]; omega
            · obtain rfl : v = R.length := by omega
              have dv : decide ((R.length : Int) < (R.length : Int)) = false := decide_eq_false (by omega)
              have HG4 := Lib.hid hG
              clear hG hU hSA
              go_wp2_with fail
              refine (awake13 _).mono ?_; rintro e w9 ⟨rfl, hb⟩
              have HE := Lib.hid (HG4.out.b.trans (hb.mono HG4.out.b.size))
              clear hb
              go_wp2_with fail
              go_ret
              exact ⟨rfl, HE.out⟩
        · have hmade := made_no m (by omega) a c l hn w
          go_enter Try.func5, Try.ntmps5
          go_wp2_with fail
          refine hfew.mono ?_; rintro e w1 ⟨rfl, rfl⟩
          go_wp2_with fail
          refine hmade.mono ?_; rintro e w2 ⟨xa, xn, xc, rfl, hb2⟩
          have HB2 := Lib.hid (hb2.trans ((below1 w2 (.cells #[.slice xa xn xc] 29)).mono hb2.size))
          clear hb2
          go_wp2_with fail
          refine (awake13 _).mono ?_; rintro e w3 ⟨rfl, hb⟩
          have HB3 := Lib.hid (HB2.out.trans (hb.mono HB2.out.size))
          clear hb
          go_wp2_with fail
          go_ret
          exact ⟨rfl, HB3.out⟩
      · have dL : decide (60 < (L.length : Int)) = true := decide_eq_true (by omega)
        go_enter Try.func5, Try.ntmps5
        go_wp2_with fail
        refine hfew.mono ?_; rintro e w1 ⟨rfl, rfl⟩
        go_wp2_with fail
        refine (awake13 _).mono ?_; rintro e w2 ⟨rfl, hb⟩
        go_wp2_with fail
        go_ret
        exact ⟨rfl, hb⟩
    · have dm : decide (12 < m) = true := decide_eq_true (by omega)
      go_enter Try.func5, Try.ntmps5
      go_wp2_with fail
      refine hfew.mono ?_; rintro e w1 ⟨rfl, rfl⟩
      go_wp2_with fail
      refine (awake13 _).mono ?_; rintro e w2 ⟨rfl, hb⟩
      go_wp2_with fail
      go_ret
      exact ⟨rfl, hb⟩
end Go.Proofs.Ytpjnpmdpabnjkaa
