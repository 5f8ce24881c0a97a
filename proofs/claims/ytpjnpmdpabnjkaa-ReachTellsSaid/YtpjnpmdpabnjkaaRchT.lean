/-
  ReachTells of layer 13. No conditions.
-/
import Derived.Test.YtpjnpmdpabnjkaaRchL
namespace Go.Proofs.Ytpjnpmdpabnjkaa
open Go.RowKit
set_option linter.unusedSimpArgs false
set_option linter.unusedVariables false

set_option maxHeartbeats 8000000 in
set_option maxRecDepth 100000 in
theorem tells13 (m : Int) (a : Option Addr) (c : Nat) (l : List GA) (fa : Option Addr) (fc : Nat) (L : List Int) (w : World) (h : ActsG w a l) (hn : (l.length : Int) ≤ 9223372036854775807) (hr : Reads w fa L) (hnL : (L.length : Int) ≤ 9223372036854775807) :
    Calls Try.prog 3 #[.int .i64 m, .slice a l.length c, .slice fa L.length fc] w fun e w' => e = .returned (.bool true) ∧ Below w.heap.size w w' := by
  have hfew := few_g a c l w h hn
  have H := Lib.hid h; have HR := Lib.hid hr
  clear h hr
  cases hf : gfew l with
  | false =>
    rw [hf] at hfew
    go_enter Try.func3, Try.ntmps3
    go_wp2_with fail
    refine hfew.mono ?_; rintro e w1 ⟨rfl, rfl⟩
    go_wp2_with fail
    refine (awake13 _).mono ?_; rintro e w2 ⟨rfl, hb⟩
    go_wp2_with fail
    go_ret
    exact ⟨rfl, hb⟩
  | true =>
    rw [hf] at hfew
    have HF := Lib.hid hf
    clear hf
    by_cases hm12 : m ≤ 12
    · have dm : decide (12 < m) = false := decide_eq_false (by omega)
      by_cases hL : L.length ≤ 60
      · have dL : decide (60 < (L.length : Int)) = false := decide_eq_false (by omega)
        by_cases hm1 : 1 ≤ m
        · obtain ⟨n, rfl⟩ := Int.eq_ofNat_of_zero_le (by omega : 0 ≤ m)
          have hmade := made_ok n (by omega) (by omega) a c l w H.out HF.out
          go_enter Try.func3, Try.ntmps3
          go_wp2_with fail
          refine hfew.mono ?_; rintro e w1 ⟨rfl, rfl⟩
          go_wp2_with fail
          refine hmade.mono ?_; rintro e w2 ⟨B, R, F, x, rfl, hG⟩
          have hx := hG.x
          obtain ⟨xa, xc, _, rfl, _⟩ := hx
          have hb3 := below1 w2 (.cells #[.slice xa R.length xc] 29)
          have hG3 := hG.below hb3
          have hbx : (w2.alloc (.cells #[.slice xa R.length xc] 29)).cell? ⟨w2.heap.size, 0, none⟩ = some (.slice xa R.length xc) := by simp
          have HI := Lib.hid hG3.s.r.1
          have hl := HI.out.hi
          obtain ⟨bx, hbxe⟩ : ∃ bx, bx = w2.heap.size := ⟨_, rfl⟩
          clear hb3 hG hfew hmade
          go_wp2_with fail
          rw [← hbxe] at hbx ⊢
          clear hbxe
          generalize w2.alloc (.cells #[.slice xa R.length xc] 29) = w3 at *
          have hS : Hid (∀ W', Below w3.heap.size w3 W' → W'.cell? ⟨bx, 0, none⟩ = some (.slice xa R.length xc)) := fun W' q => (q.cell (p := ⟨bx, 0, none⟩) (World.block_lt_of_cell? _ _ hbx)).trans hbx
          have HG := Lib.hid hG3
          have HR3 : Hid (∀ W', Below w3.heap.size w3 W' → Reads W' fa L) := fun W' q => (HR.out.below HG.out.s.b).below q
          have hb4 := (Below.refl w3.heap.size w3).drew
          have hn6 : L.length ≤ 1000000 := by omega
          have q2 := reach_o (HG.out.below hb4).s fa fc L (HR3.out _ hb4) hn6
          clear hG3
          refine wp_region_held_drew (S := fun wz => wz.cell? ⟨bx, 0, none⟩ = some (.slice xa R.length xc)) (by kernel_rfl) (hS.out _ hb4) (fun hHeld => ?_)
          refine wpAnyH_take (i := 0) (v := ?_) rfl (by kernel_rfl) (by kernel_rfl) (by kernel_rfl) (fun _ _ _ h => h) (Or.inl ⟨by rfl, ?y0⟩) (by assumption) ?_
          case y0 => intro w hSw; (try dsimp only at hSw); go_simp; (try with_reducible rfl)
          (try simp only [Act.put, List.setIfInBounds_toArray, List.set_cons_zero, List.set_cons_succ, List.getElem_toArray, List.getElem_cons_zero, List.getElem_cons_succ])
          refine wpAnyH_take (i := 1) (v := ?_) rfl (by kernel_rfl) (by kernel_rfl) (by kernel_rfl) (fun _ _ _ h => h) (Or.inl ⟨by rfl, ?y1⟩) (by assumption) ?_
          case y1 => intro w hSw; (try dsimp only at hSw); go_simp; (try with_reducible rfl)
          (try simp only [Act.put, List.setIfInBounds_toArray, List.set_cons_zero, List.set_cons_succ, List.getElem_toArray, List.getElem_cons_zero, List.getElem_cons_succ])
          refine wpAnyH_take (i := 3) (v := ?_) rfl (by kernel_rfl) (by kernel_rfl) (by kernel_rfl) (fun _ _ _ h => h) (Or.inl ⟨by rfl, ?y3⟩) (by assumption) ?_
          case y3 => intro w hSw; (try dsimp only at hSw); go_simp; (try with_reducible rfl)
          (try simp only [Act.put, List.setIfInBounds_toArray, List.set_cons_zero, List.set_cons_succ, List.getElem_toArray, List.getElem_cons_zero, List.getElem_cons_succ])
          refine wpAnyH_take (i := 4) (v := ?_) rfl (by kernel_rfl) (by kernel_rfl) (by kernel_rfl) (fun _ _ _ h => h) (Or.inl ⟨by rfl, ?y4⟩) (by assumption) ?_
          case y4 => intro w hSw; (try dsimp only at hSw); go_simp; (try with_reducible rfl)
          (try simp only [Act.put, List.setIfInBounds_toArray, List.set_cons_zero, List.set_cons_succ, List.getElem_toArray, List.getElem_cons_zero, List.getElem_cons_succ])
          refine wpAnyH_ready (rs := [2]) (by kernel_rfl) (by simp) ?_
          refine AllReadyH.cons rfl (fun K hK => ?_) AllReadyH.nil
          go_simp
          refine q2.mono ?_; clear q2; rintro e y2 ⟨u1, S1, rfl, ho1, hS1, hq⟩
          obtain ⟨sa, sc, rfl, hr1⟩ := inr_own ho1 (fnd_inr hS1 hl)
          have hb5 := hb4.trans (hq.mono hb4.size)
          have q5 := r13reach (HG.out.below hb5).x HI.out fa fc L (HR3.out _ hb5) hn6
          have HS1 := Lib.hid hS1
          clear ho1 hq hS1
          refine hK.out _ _ (hS.out _ hb5) (fun hHeld => ?_)
          clear hK K
          (try simp only [Act.put, List.setIfInBounds_toArray, List.set_cons_zero, List.set_cons_succ, List.getElem_toArray, List.getElem_cons_zero, List.getElem_cons_succ])
          refine wpAnyH_ready (rs := [5]) (by kernel_rfl) (by simp) ?_
          refine AllReadyH.cons rfl (fun K hK => ?_) AllReadyH.nil
          go_simp
          refine q5.mono ?_; clear q5; rintro e y5 ⟨u2, I2, rfl, ho2, hIl, hI2, hq⟩
          rw [← fnd_lst HS1.out hIl hI2] at ho2
          obtain ⟨sb, sd, rfl, hr2⟩ := inr_own ho2 (fnd_inr HS1.out hl)
          have hb6 := hb5.trans (hq.mono hb5.size)
          have q6 := same_reads (c := sc) (c' := sd) (hr1.below hq) hr2 (fnd_le HS1.out hl)
          clear ho2 hq hr1 hr2 hIl hI2 HS1
          refine hK.out _ _ (hS.out _ hb6) (fun hHeld => ?_)
          clear hK K
          (try simp only [Act.put, List.setIfInBounds_toArray, List.set_cons_zero, List.set_cons_succ, List.getElem_toArray, List.getElem_cons_zero, List.getElem_cons_succ])
          refine wpAnyH_ready (rs := [6]) (by kernel_rfl) (by simp) ?_
          refine AllReadyH.cons rfl (fun K hK => ?_) AllReadyH.nil
          go_simp
          refine q6.mono ?_; clear q6; rintro e y6 ⟨rfl, hq⟩
          have hb7 := hb6.trans (hq.mono hb6.size)
          have q10 := needs_o (HG.out.below hb7).s fa fc L (HR3.out _ hb7) hn6
          clear hq
          refine hK.out _ _ (hS.out _ hb7) (fun hHeld => ?_)
          clear hK K
          (try simp only [Act.put, List.setIfInBounds_toArray, List.set_cons_zero, List.set_cons_succ, List.getElem_toArray, List.getElem_cons_zero, List.getElem_cons_succ])
          refine wpAnyH_take (i := 7) (v := ?_) rfl (by kernel_rfl) (by kernel_rfl) (by kernel_rfl) (fun _ _ _ h => h) (Or.inl ⟨by rfl, ?y7⟩) (by assumption) ?_
          case y7 => intro w hSw; (try dsimp only at hSw); go_simp; (try with_reducible rfl)
          (try simp only [Act.put, List.setIfInBounds_toArray, List.set_cons_zero, List.set_cons_succ, List.getElem_toArray, List.getElem_cons_zero, List.getElem_cons_succ])
          refine wpAnyH_take (i := 8) (v := ?_) rfl (by kernel_rfl) (by kernel_rfl) (by kernel_rfl) (fun _ _ _ h => h) (Or.inl ⟨by rfl, ?y8⟩) (by assumption) ?_
          case y8 => intro w hSw; (try dsimp only at hSw); go_simp; (try with_reducible rfl)
          (try simp only [Act.put, List.setIfInBounds_toArray, List.set_cons_zero, List.set_cons_succ, List.getElem_toArray, List.getElem_cons_zero, List.getElem_cons_succ])
          refine wpAnyH_take (i := 9) (v := ?_) rfl (by kernel_rfl) (by kernel_rfl) (by kernel_rfl) (fun _ _ _ h => h) (Or.inl ⟨by rfl, ?y9⟩) (by assumption) ?_
          case y9 => intro w hSw; (try dsimp only at hSw); go_simp; (try with_reducible rfl)
          (try simp only [Act.put, List.setIfInBounds_toArray, List.set_cons_zero, List.set_cons_succ, List.getElem_toArray, List.getElem_cons_zero, List.getElem_cons_succ])
          refine wpAnyH_take (i := 11) (v := ?_) rfl (by kernel_rfl) (by kernel_rfl) (by kernel_rfl) (fun _ _ _ h => h) (Or.inl ⟨by rfl, ?y11⟩) (by assumption) ?_
          case y11 => intro w hSw; (try dsimp only at hSw); go_simp; (try with_reducible rfl)
          (try simp only [Act.put, List.setIfInBounds_toArray, List.set_cons_zero, List.set_cons_succ, List.getElem_toArray, List.getElem_cons_zero, List.getElem_cons_succ])
          refine wpAnyH_take (i := 12) (v := ?_) rfl (by kernel_rfl) (by kernel_rfl) (by kernel_rfl) (fun _ _ _ h => h) (Or.inl ⟨by rfl, ?y12⟩) (by assumption) ?_
          case y12 => intro w hSw; (try dsimp only at hSw); go_simp; (try with_reducible rfl)
          (try simp only [Act.put, List.setIfInBounds_toArray, List.set_cons_zero, List.set_cons_succ, List.getElem_toArray, List.getElem_cons_zero, List.getElem_cons_succ])
          refine wpAnyH_ready (rs := [10]) (by kernel_rfl) (by simp) ?_
          refine AllReadyH.cons rfl (fun K hK => ?_) AllReadyH.nil
          go_simp
          refine q10.mono ?_; clear q10; rintro e y10 ⟨u1, S1, rfl, ho1, hS1, hq⟩
          obtain ⟨sa, sc, rfl, hr1⟩ := inr_own ho1 (fnd_inr hS1 hl)
          have hb8 := hb7.trans (hq.mono hb7.size)
          have q13 := r13needs (HG.out.below hb8).x HI.out fa fc L (HR3.out _ hb8) hn6
          have HS1 := Lib.hid hS1
          clear ho1 hq hS1
          refine hK.out _ _ (hS.out _ hb8) (fun hHeld => ?_)
          clear hK K
          (try simp only [Act.put, List.setIfInBounds_toArray, List.set_cons_zero, List.set_cons_succ, List.getElem_toArray, List.getElem_cons_zero, List.getElem_cons_succ])
          refine wpAnyH_ready (rs := [13]) (by kernel_rfl) (by simp) ?_
          refine AllReadyH.cons rfl (fun K hK => ?_) AllReadyH.nil
          go_simp
          refine q13.mono ?_; clear q13; rintro e y13 ⟨u2, I2, rfl, ho2, hIl, hI2, hq⟩
          rw [← fnd_lst HS1.out hIl hI2] at ho2
          obtain ⟨sb, sd, rfl, hr2⟩ := inr_own ho2 (fnd_inr HS1.out hl)
          have hb9 := hb8.trans (hq.mono hb8.size)
          have q14 := same_reads (c := sc) (c' := sd) (hr1.below hq) hr2 (fnd_le HS1.out hl)
          clear ho2 hq hr1 hr2 hIl hI2 HS1
          refine hK.out _ _ (hS.out _ hb9) (fun hHeld => ?_)
          clear hK K
          (try simp only [Act.put, List.setIfInBounds_toArray, List.set_cons_zero, List.set_cons_succ, List.getElem_toArray, List.getElem_cons_zero, List.getElem_cons_succ])
          refine wpAnyH_ready (rs := [14]) (by kernel_rfl) (by simp) ?_
          refine AllReadyH.cons rfl (fun K hK => ?_) AllReadyH.nil
          go_simp
          refine q14.mono ?_; clear q14; rintro e y14 ⟨rfl, hq⟩
          have hb10 := hb9.trans (hq.mono hb9.size)
          have q19 := steps_o (HG.out.below hb10).s fa fc L (HR3.out _ hb10) hn6
          clear hq
          refine hK.out _ _ (hS.out _ hb10) (fun hHeld => ?_)
          clear hK K
          (try simp only [Act.put, List.setIfInBounds_toArray, List.set_cons_zero, List.set_cons_succ, List.getElem_toArray, List.getElem_cons_zero, List.getElem_cons_succ])
          refine wpAnyH_take (i := 15) (v := ?_) rfl (by kernel_rfl) (by kernel_rfl) (by kernel_rfl) (fun _ _ _ h => h) (Or.inl ⟨by rfl, ?y15⟩) (by assumption) ?_
          case y15 => intro w hSw; (try dsimp only at hSw); go_simp; (try with_reducible rfl)
          (try simp only [Act.put, List.setIfInBounds_toArray, List.set_cons_zero, List.set_cons_succ, List.getElem_toArray, List.getElem_cons_zero, List.getElem_cons_succ])
          refine wpAnyH_take (i := 16) (v := ?_) rfl (by kernel_rfl) (by kernel_rfl) (by kernel_rfl) (fun _ _ _ h => h) (Or.inl ⟨by rfl, ?y16⟩) (by assumption) ?_
          case y16 => intro w hSw; (try dsimp only at hSw); go_simp; (try with_reducible rfl)
          (try simp only [Act.put, List.setIfInBounds_toArray, List.set_cons_zero, List.set_cons_succ, List.getElem_toArray, List.getElem_cons_zero, List.getElem_cons_succ])
          refine wpAnyH_take (i := 17) (v := ?_) rfl (by kernel_rfl) (by kernel_rfl) (by kernel_rfl) (fun _ _ _ h => h) (Or.inl ⟨by rfl, ?y17⟩) (by assumption) ?_
          case y17 => intro w hSw; (try dsimp only at hSw); go_simp; (try with_reducible rfl)
          (try simp only [Act.put, List.setIfInBounds_toArray, List.set_cons_zero, List.set_cons_succ, List.getElem_toArray, List.getElem_cons_zero, List.getElem_cons_succ])
          refine wpAnyH_take (i := 18) (v := ?_) rfl (by kernel_rfl) (by kernel_rfl) (by kernel_rfl) (fun _ _ _ h => h) (Or.inl ⟨by rfl, ?y18⟩) (by assumption) ?_
          case y18 => intro w hSw; (try dsimp only at hSw); go_simp; (try with_reducible rfl)
          (try simp only [Act.put, List.setIfInBounds_toArray, List.set_cons_zero, List.set_cons_succ, List.getElem_toArray, List.getElem_cons_zero, List.getElem_cons_succ])
          refine wpAnyH_take (i := 20) (v := ?_) rfl (by kernel_rfl) (by kernel_rfl) (by kernel_rfl) (fun _ _ _ h => h) (Or.inl ⟨by rfl, ?y20⟩) (by assumption) ?_
          case y20 => intro w hSw; (try dsimp only at hSw); go_simp; (try with_reducible rfl)
          (try simp only [Act.put, List.setIfInBounds_toArray, List.set_cons_zero, List.set_cons_succ, List.getElem_toArray, List.getElem_cons_zero, List.getElem_cons_succ])
          refine wpAnyH_take (i := 21) (v := ?_) rfl (by kernel_rfl) (by kernel_rfl) (by kernel_rfl) (fun _ _ _ h => h) (Or.inl ⟨by rfl, ?y21⟩) (by assumption) ?_
          case y21 => intro w hSw; (try dsimp only at hSw); go_simp; (try with_reducible rfl)
          (try simp only [Act.put, List.setIfInBounds_toArray, List.set_cons_zero, List.set_cons_succ, List.getElem_toArray, List.getElem_cons_zero, List.getElem_cons_succ])
          refine wpAnyH_ready (rs := [19]) (by kernel_rfl) (by simp) ?_
          refine AllReadyH.cons rfl (fun K hK => ?_) AllReadyH.nil
          go_simp
          refine q19.mono ?_; clear q19; rintro e y19 ⟨u1, S1, rfl, ho1, hS1, hq⟩
          obtain ⟨sa, sc, rfl, hr1⟩ := inr_own ho1 (isst_inr hS1 hl)
          have hb11 := hb10.trans (hq.mono hb10.size)
          have q22 := r13steps (HG.out.below hb11).x HI.out fa fc L (HR3.out _ hb11) hn6
          have HS1 := Lib.hid hS1
          clear ho1 hq hS1
          refine hK.out _ _ (hS.out _ hb11) (fun hHeld => ?_)
          clear hK K
          (try simp only [Act.put, List.setIfInBounds_toArray, List.set_cons_zero, List.set_cons_succ, List.getElem_toArray, List.getElem_cons_zero, List.getElem_cons_succ])
          refine wpAnyH_ready (rs := [22]) (by kernel_rfl) (by simp) ?_
          refine AllReadyH.cons rfl (fun K hK => ?_) AllReadyH.nil
          go_simp
          refine q22.mono ?_; clear q22; rintro e y22 ⟨u2, S2, rfl, ho2, hS2, hq⟩
          obtain rfl := hS2.uniq HS1.out
          obtain ⟨sb, sd, rfl, hr2⟩ := inr_own ho2 (isst_inr HS1.out hl)
          have hb12 := hb11.trans (hq.mono hb11.size)
          have q23 := same_reads (c := sc) (c' := sd) (hr1.below hq) hr2 (by rw [HS1.out.len]; exact hl)
          clear ho2 hq hr1 hr2 hS2 HS1
          refine hK.out _ _ (hS.out _ hb12) (fun hHeld => ?_)
          clear hK K
          (try simp only [Act.put, List.setIfInBounds_toArray, List.set_cons_zero, List.set_cons_succ, List.getElem_toArray, List.getElem_cons_zero, List.getElem_cons_succ])
          refine wpAnyH_ready (rs := [23]) (by kernel_rfl) (by simp) ?_
          refine AllReadyH.cons rfl (fun K hK => ?_) AllReadyH.nil
          go_simp
          refine q23.mono ?_; clear q23; rintro e y23 ⟨rfl, hq⟩
          have hb13 := hb12.trans (hq.mono hb12.size)
          have q26 := awake13 y23
          clear hq
          refine hK.out _ _ (hS.out _ hb13) (fun hHeld => ?_)
          clear hK K
          (try simp only [Act.put, List.setIfInBounds_toArray, List.set_cons_zero, List.set_cons_succ, List.getElem_toArray, List.getElem_cons_zero, List.getElem_cons_succ])
          refine wpAnyH_take (i := 24) (v := ?_) rfl (by kernel_rfl) (by kernel_rfl) (by kernel_rfl) (fun _ _ _ h => h) (Or.inl ⟨by rfl, ?y24⟩) (by assumption) ?_
          case y24 => intro w hSw; (try dsimp only at hSw); go_simp; (try with_reducible rfl)
          (try simp only [Act.put, List.setIfInBounds_toArray, List.set_cons_zero, List.set_cons_succ, List.getElem_toArray, List.getElem_cons_zero, List.getElem_cons_succ])
          refine wpAnyH_take (i := 25) (v := ?_) rfl (by kernel_rfl) (by kernel_rfl) (by kernel_rfl) (fun _ _ _ h => h) (Or.inl ⟨by rfl, ?y25⟩) (by assumption) ?_
          case y25 => intro w hSw; (try dsimp only at hSw); go_simp; (try with_reducible rfl)
          (try simp only [Act.put, List.setIfInBounds_toArray, List.set_cons_zero, List.set_cons_succ, List.getElem_toArray, List.getElem_cons_zero, List.getElem_cons_succ])
          refine wpAnyH_ready (rs := [26]) (by kernel_rfl) (by simp) ?_
          refine AllReadyH.cons rfl (fun K hK => ?_) AllReadyH.nil
          go_simp
          refine q26.mono ?_; clear q26; rintro e y26 ⟨rfl, hq⟩
          have hb14 := hb13.trans (hq.mono hb13.size)
          have HEND := Lib.hid (HG.out.s.b.trans (hb14.mono HG.out.s.b.size))
          clear hq
          refine hK.out _ _ (hS.out _ hb14) (fun hHeld => ?_)
          clear hK K
          (try simp only [Act.put, List.setIfInBounds_toArray, List.set_cons_zero, List.set_cons_succ, List.getElem_toArray, List.getElem_cons_zero, List.getElem_cons_succ])
          refine wpAnyH_take (i := 27) (v := ?_) rfl (by kernel_rfl) (by kernel_rfl) (by kernel_rfl) (fun _ _ _ h => h) (Or.inl ⟨by rfl, ?y27⟩) (by assumption) ?_
          case y27 => intro w hSw; (try dsimp only at hSw); go_simp; (try with_reducible rfl)
          (try simp only [Act.put, List.setIfInBounds_toArray, List.set_cons_zero, List.set_cons_succ, List.getElem_toArray, List.getElem_cons_zero, List.getElem_cons_succ])
          refine wpAnyH_take (i := 28) (v := ?_) rfl (by kernel_rfl) (by kernel_rfl) (by kernel_rfl) (fun _ _ _ h => h) (Or.inl ⟨by rfl, ?y28⟩) (by assumption) ?_
          case y28 => intro w hSw; (try dsimp only at hSw); go_simp; (try with_reducible rfl)
          (try simp only [Act.put, List.setIfInBounds_toArray, List.set_cons_zero, List.set_cons_succ, List.getElem_toArray, List.getElem_cons_zero, List.getElem_cons_succ])
          refine wpAnyH_done (by kernel_rfl) ?_ _
          go_wp2_with fail
          go_ret
          exact ⟨rfl, HEND.out⟩
        · have hmade := made_no m (by omega) a c l hn w
          go_enter Try.func3, Try.ntmps3
          go_wp2_with fail
          refine hfew.mono ?_; rintro e w1 ⟨rfl, rfl⟩
          go_wp2_with fail
          refine hmade.mono ?_; rintro e w2 ⟨xa, xn, xc, rfl, hb2⟩
          have HB2 := Lib.hid (hb2.trans ((below1 w2 (.cells #[.slice xa xn xc] 29)).mono hb2.size))
          clear hb2
          go_wp2_with fail
          refine (awake13 _).mono ?_; rintro e w3 ⟨rfl, hb⟩
          have HB3 := Lib.hid (HB2.out.trans (hb.mono HB2.out.size))
          clear hb
          go_wp2_with fail
          go_ret
          exact ⟨rfl, HB3.out⟩
      · have dL : decide (60 < (L.length : Int)) = true := decide_eq_true (by omega)
        go_enter Try.func3, Try.ntmps3
        go_wp2_with fail
        refine hfew.mono ?_; rintro e w1 ⟨rfl, rfl⟩
        go_wp2_with fail
        refine (awake13 _).mono ?_; rintro e w2 ⟨rfl, hb⟩
        go_wp2_with fail
        go_ret
        exact ⟨rfl, hb⟩
    · have dm : decide (12 < m) = true := decide_eq_true (by omega)
      go_enter Try.func3, Try.ntmps3
      go_wp2_with fail
      refine hfew.mono ?_; rintro e w1 ⟨rfl, rfl⟩
      go_wp2_with fail
      refine (awake13 _).mono ?_; rintro e w2 ⟨rfl, hb⟩
      go_wp2_with fail
      go_ret
      exact ⟨rfl, hb⟩
end Go.Proofs.Ytpjnpmdpabnjkaa
