/-
  OrderStands of layer 14. No conditions.
-/
import Derived.Test.YthaepdkeakmfaaaOrdA
import Derived.Test.YthaepdkeakmfaaaOrdQ
namespace Go.Proofs.Ythaepdkeakmfaaa
open Go.RowKit
set_option linter.unusedSimpArgs false
set_option linter.unusedVariables false

set_option maxHeartbeats 8000000 in
set_option maxRecDepth 100000 in
theorem stands14 (m : Int) (a : Option Addr) (c : Nat) (l : List GA) (fa : Option Addr) (fc : Nat) (L : List Int) (w : World) (h : ActsG w a l) (hn : (l.length : Int) ≤ 9223372036854775807) (hr : Reads w fa L) (hnL : (L.length : Int) ≤ 9223372036854775807) :
    Calls Try.prog 4 #[.int .i64 m, .slice a l.length c, .slice fa L.length fc] w fun e w' => e = .returned (.bool true) ∧ Below w.heap.size w w' := by
  have hfew := few_g a c l w h hn
  have H := Lib.hid h; have HR := Lib.hid hr
  clear h hr
  cases hf : gfew l with
  | false =>
    rw [hf] at hfew
    go_enter Try.func4, Try.ntmps4
    go_wp2_with fail
    refine hfew.mono ?_; rintro e w1 ⟨rfl, rfl⟩
    go_wp2_with fail
    refine (awake14 _).mono ?_; rintro e w2 ⟨rfl, hb⟩
    go_wp2_with fail
    go_ret
    exact ⟨rfl, hb⟩
  | true =>
    rw [hf] at hfew
    have HF := Lib.hid hf
    clear hf
    by_cases hm12 : m ≤ 12
    · have dm : decide (12 < m) = false := decide_eq_false (by omega)
      by_cases hL : L.length ≤ 60
      · have dL : decide (60 < (L.length : Int)) = false := decide_eq_false (by omega)
        by_cases hm1 : 1 ≤ m
        · obtain ⟨n, rfl⟩ := Int.eq_ofNat_of_zero_le (by omega : 0 ≤ m)
          have hmade := made_at n (by omega) (by omega) a c l w H.out HF.out
          go_enter Try.func4, Try.ntmps4
          go_wp2_with fail
          refine hfew.mono ?_; rintro e w1 ⟨rfl, rfl⟩
          go_wp2_with fail
          refine hmade.mono ?_; rintro e w2 ⟨B, F, x, rfl, hG⟩
          have hRl := gfold_len n l l.length
          generalize gfold n l l.length = R at *
          obtain rfl : n = R.length := hRl.symm
          obtain ⟨xa, xc, us, rfl, _⟩ := hG.x
          have hb3 := below1 w2 (.cells #[.slice xa R.length xc] 29)
          have hG3 := hG.below hb3
          have hbx : (w2.alloc (.cells #[.slice xa R.length xc] 29)).cell? ⟨w2.heap.size, 0, none⟩ = some (.slice xa R.length xc) := by simp
          have HI := Lib.hid hG3.s.r.1
          have hl := HI.out.hi
          obtain ⟨bx, hbxe⟩ : ∃ bx, bx = w2.heap.size := ⟨_, rfl⟩
          clear hb3 hG hfew hmade hRl
          go_upto_region 8 with fail
          rw [← hbxe] at hbx ⊢
          clear hbxe
          generalize w2.alloc (.cells #[.slice xa R.length xc] 29) = w3 at *
          have hS : Hid (∀ W', Below w3.heap.size w3 W' → W'.cell? ⟨bx, 0, none⟩ = some (.slice xa R.length xc)) := fun W' q => (q.cell (p := ⟨bx, 0, none⟩) (World.block_lt_of_cell? _ _ hbx)).trans hbx
          have HG := Lib.hid hG3
          have HR3 : Hid (∀ W', Below w3.heap.size w3 W' → Reads W' fa L) := fun W' q => (HR.out.below HG.out.s.b).below q
          have hn6 : L.length ≤ 1000000 := by omega
          have HAI : Hid (∀ z ∈ sel R.length L, InR z) := fun z hz => by have := (mem_sel.1 hz).1; unfold gnd at this; unfold InR; omega
          have q8 := order_o HG.out.s fa fc L (HR3.out _ (Below.refl _ _)) hn6
          clear hG3
          go_wp2_with fail
          refine q8.mono ?_; clear q8; rintro e w4 ⟨u1, l, s1, rfl, ho1, hO1, hs1, hb4⟩
          have q9 := waves_o (HG.out.below hb4).s fa fc L (HR3.out _ hb4) hn6
          have HB4 := Lib.hid hb4
          have HO1 := Lib.hid hO1
          have HK1 : StkP s1 R L l := hs1
          clear hb4 hO1 hs1
          cases s1 with
          | true =>
            rw [if_pos rfl] at ho1
            obtain ⟨aa, ac, rfl, _, _, _⟩ := Own.sl ho1 (fun z hz => by cases hz)
            rw [show ecir true = 26 from rfl]
            clear ho1
            go_wp2_with fail
            refine q9.mono ?_; clear q9; rintro e w5 ⟨u2, rs, s2, rfl, ho2, hO2, hs2, hb5⟩
            obtain rfl := std_same HO1.out hO2 HK1 hs2
            rw [if_pos rfl] at ho2
            obtain ⟨wa, wc, rfl⟩ := rows_form ho2
            rw [show ecir true = 26 from rfl]
            have HBE := Lib.hid (HB4.out.trans (hb5.mono HB4.out.size))
            clear ho2 hO2 hs2 hb5
            go_wp2_with fail
            refine (awake14 _).mono ?_; rintro e w10 ⟨rfl, hb10⟩
            have HEND := Lib.hid (HG.out.s.b.trans ((HBE.out.trans (hb10.mono HBE.out.size)).mono HG.out.s.b.size))
            clear hb10
            go_wp2_with fail
            go_ret
            exact ⟨rfl, HEND.out⟩
          | false =>
            rw [if_neg (by simp)] at ho1
            have hin := fun z hz => HAI.out z (HO1.out.step.sub z hz)
            obtain ⟨aa, ac, rfl, hcap, _, hrA⟩ := Own.sl ho1 hin
            rw [show ecir false = 0 from rfl]
            clear ho1 hin
            have HRA4 := Lib.hid hrA
            clear hrA
            go_wp2_with fail
            refine q9.mono ?_; clear q9; rintro e w5 ⟨u2, rs, s2, rfl, ho2, hO2, hs2, hb5⟩
            obtain rfl := std_same HO1.out hO2 HK1 hs2
            rw [if_neg (by simp)] at ho2
            obtain ⟨wa, wc, rfl⟩ := rows_form ho2
            rw [show ecir false = 0 from rfl]
            have hno : ¬ ∃ x ∈ sel R.length L, x ∉ l := HK1.no
            have HSA := Lib.hid (std_a HO1.out)
            have HSS : Hid (∀ z : Int, 0 ≤ z → z < (R.length : Int) → z ∈ L → z ∈ l) := fun z h1 h2 h3 => std_s hno h1 h2 h3
            have HSW := Lib.hid (std_w hO2 hno)
            have HSN := Lib.hid (std_n HO1.out hO2 hno)
            have hl20 := std_len HI.out HO1.out
            have hr20 : rs.length ≤ 20000 := by have := rows_le hO2.step; have := HSN.out; omega
            have HR20 := Lib.hid hr20
            have HRL : Hid (∀ k, k < rs.length → (rAt rs k).length ≤ 20000) := fun k hk => by
              have h1 := flat_len hk
              have h2 := flat_le rs (k + 1)
              have h3 := HSN.out
              omega
            have HRA := Lib.hid (HRA4.out.below hb5)
            have HRW := Lib.hid ho2
            have HB5 := Lib.hid (HB4.out.trans (hb5.mono HB4.out.size))
            clear ho2 hO2 hs2 hb5 hno HK1 HO1 HRA4 HB4
            go_wp2_with fail
            go_loopw [14] (fun i wr => ∃ k : Nat, k ≤ l.length ∧ i = .int .i64 (k : Int) ∧ Below w5.heap.size w5 wr) (fun i _ => l.length - (RowKit.intOf i).toNat)
            case atStart => exact ⟨0, Nat.zero_le _, rfl, Below.refl _ _⟩
            case round =>
              obtain ⟨k, hk, rfl, hby⟩ := hrel
              by_cases hlt : k < l.length
              · obtain ⟨x, hx, hxl, p1, p2, p3⟩ := HSA.out k hlt
                obtain ⟨ub, uo, rfl, hck⟩ := (HRA.out.below hby).2 k hlt
                rw [hx] at hck
                have hS : Hid (∀ W', Below wr.heap.size wr W' → W'.cell? ⟨ub, uo + k, none⟩ = some (.int .i64 ((x : Nat) : Int))) := fun W' q => (q.cell (World.block_lt_of_cell? _ _ hck)).trans hck
                have hb3 := HB5.out.trans (hby.mono HB5.out.size)
                have h5 := has_any fa fc L ((x : Nat) : Int) wr.drew (HR3.out _ hb3.drew) (by omega)
                rw [decide_eq_true p1] at h5
                have h15 := has_any (some ⟨ub, uo, none⟩) ac (l.take k) ((x : Nat) : Int) wr.drew (((reads_takeV (HRA.out.below hby) k).below (Below.refl _ _).drew)) (by rw [List.length_take]; omega)
                rw [decide_eq_false p2, List.length_take, Nat.min_eq_left (Nat.le_of_lt hlt)] at h15
                have i0 : (0 : Int) ≤ (k : Int) := by omega
                have i1 : (k : Int) < (l.length : Int) := by omega
                have i2 : (k : Int) ≤ (ac : Int) := by omega
                have d1 : decide ((k : Int) < (l.length : Int)) = true := decide_eq_true (by omega)
                have d1n : decide (k < l.length) = true := decide_eq_true (by omega)
                have HBY := Lib.hid hby
                have HLT := Lib.hid hlt
                have HP3 := Lib.hid p3
                have HX := Lib.hid hx
                clear hck hby hb3 p1 p2 p3 hx hlt hk
                go_wp2_with fail
                refine wp_region_held_drew (S := fun wz => wz.cell? ⟨ub, uo + k, none⟩ = some (.int .i64 ((x : Nat) : Int))) (by kernel_rfl) (hS.out _ (Below.refl _ _).drew) (fun hHeld => ?_)
                refine wpAnyH_take (i := 0) (v := ?_) rfl (by kernel_rfl) (by kernel_rfl) (by kernel_rfl) (fun _ _ _ h => h) (Or.inl ⟨by rfl, ?y0⟩) (by assumption) ?_
                case y0 => intro w hSw; (try dsimp only at hSw); go_simp; (try with_reducible rfl)
                (try simp only [Act.put, List.setIfInBounds_toArray, List.set_cons_zero, List.set_cons_succ, List.getElem_toArray, List.getElem_cons_zero, List.getElem_cons_succ])
                refine wpAnyH_take (i := 1) (v := ?_) rfl (by kernel_rfl) (by kernel_rfl) (by kernel_rfl) (fun _ _ _ h => h) (Or.inl ⟨by rfl, ?y1⟩) (by assumption) ?_
                case y1 => intro w hSw; (try dsimp only at hSw); go_simp; (try with_reducible rfl)
                (try simp only [Act.put, List.setIfInBounds_toArray, List.set_cons_zero, List.set_cons_succ, List.getElem_toArray, List.getElem_cons_zero, List.getElem_cons_succ])
                refine wpAnyH_take (i := 2) (v := ?_) rfl (by kernel_rfl) (by kernel_rfl) (by kernel_rfl) (fun _ _ _ h => h) (Or.inl ⟨by rfl, ?y2⟩) (by assumption) ?_
                case y2 => intro w hSw; (try dsimp only at hSw); go_simp; (try with_reducible rfl)
                (try simp only [Act.put, List.setIfInBounds_toArray, List.set_cons_zero, List.set_cons_succ, List.getElem_toArray, List.getElem_cons_zero, List.getElem_cons_succ])
                refine wpAnyH_take (i := 3) (v := ?_) rfl (by kernel_rfl) (by kernel_rfl) (by kernel_rfl) (fun _ _ _ h => h) (Or.inl ⟨by rfl, ?y3⟩) (by assumption) ?_
                case y3 => intro w hSw; (try dsimp only at hSw); go_simp; (try with_reducible rfl)
                (try simp only [Act.put, List.setIfInBounds_toArray, List.set_cons_zero, List.set_cons_succ, List.getElem_toArray, List.getElem_cons_zero, List.getElem_cons_succ])
                refine wpAnyH_take (i := 4) (v := ?_) rfl (by kernel_rfl) (by kernel_rfl) (by kernel_rfl) (fun _ _ _ h => h) (Or.inl ⟨by rfl, ?y4⟩) (by assumption) ?_
                case y4 => intro w hSw; (try dsimp only at hSw); go_simp; (try with_reducible rfl)
                (try simp only [Act.put, List.setIfInBounds_toArray, List.set_cons_zero, List.set_cons_succ, List.getElem_toArray, List.getElem_cons_zero, List.getElem_cons_succ])
                refine wpAnyH_ready (rs := [5]) (by kernel_rfl) (by simp) ?_
                refine AllReadyH.cons rfl (fun K hK => ?_) AllReadyH.nil
                go_simp
                refine h5.mono ?_; clear h5; rintro e y5 ⟨rfl, hy⟩
                replace hy := hy.symm
                subst hy
                refine hK.out _ _ (hS.out _ (Below.refl _ _).drew) (fun hHeld => ?_)
                clear hK K
                (try simp only [Act.put, List.setIfInBounds_toArray, List.set_cons_zero, List.set_cons_succ, List.getElem_toArray, List.getElem_cons_zero, List.getElem_cons_succ])
                refine wpAnyH_take (i := 6) (v := ?_) rfl (by kernel_rfl) (by kernel_rfl) (by kernel_rfl) (fun _ _ _ h => h) (Or.inl ⟨by rfl, ?y6⟩) (by assumption) ?_
                case y6 => intro w hSw; (try dsimp only at hSw); go_simp; (try with_reducible rfl)
                (try simp only [Act.put, List.setIfInBounds_toArray, List.set_cons_zero, List.set_cons_succ, List.getElem_toArray, List.getElem_cons_zero, List.getElem_cons_succ])
                refine wpAnyH_take (i := 7) (v := ?_) rfl (by kernel_rfl) (by kernel_rfl) (by kernel_rfl) (fun _ _ _ h => h) (Or.inl ⟨by rfl, ?y7⟩) (by assumption) ?_
                case y7 => intro w hSw; (try dsimp only at hSw); go_simp; (try with_reducible rfl)
                (try simp only [Act.put, List.setIfInBounds_toArray, List.set_cons_zero, List.set_cons_succ, List.getElem_toArray, List.getElem_cons_zero, List.getElem_cons_succ])
                refine wpAnyH_take (i := 8) (v := ?_) rfl (by kernel_rfl) (by kernel_rfl) (by kernel_rfl) (fun _ _ _ h => h) (Or.inl ⟨by rfl, ?y8⟩) (by assumption) ?_
                case y8 => intro w hSw; (try dsimp only at hSw); go_simp; (try with_reducible rfl)
                (try simp only [Act.put, List.setIfInBounds_toArray, List.set_cons_zero, List.set_cons_succ, List.getElem_toArray, List.getElem_cons_zero, List.getElem_cons_succ])
                refine wpAnyH_take (i := 9) (v := ?_) rfl (by kernel_rfl) (by kernel_rfl) (by kernel_rfl) (fun _ _ _ h => h) (Or.inl ⟨by rfl, ?y9⟩) (by assumption) ?_
                case y9 => intro w hSw; (try dsimp only at hSw); go_simp; (try with_reducible rfl)
                (try simp only [Act.put, List.setIfInBounds_toArray, List.set_cons_zero, List.set_cons_succ, List.getElem_toArray, List.getElem_cons_zero, List.getElem_cons_succ])
                refine wpAnyH_take (i := 10) (v := ?_) rfl (by kernel_rfl) (by kernel_rfl) (by kernel_rfl) (fun _ _ _ h => h) (Or.inl ⟨by rfl, ?y10⟩) (by assumption) ?_
                case y10 => intro w hSw; (try dsimp only at hSw); go_simp; (try with_reducible rfl)
                (try simp only [Act.put, List.setIfInBounds_toArray, List.set_cons_zero, List.set_cons_succ, List.getElem_toArray, List.getElem_cons_zero, List.getElem_cons_succ])
                refine wpAnyH_take (i := 11) (v := ?_) rfl (by kernel_rfl) (by kernel_rfl) (by kernel_rfl) (fun _ _ _ h => h) (Or.inl ⟨by rfl, ?y11⟩) (by assumption) ?_
                case y11 => intro w hSw; (try dsimp only at hSw); go_simp; (try with_reducible rfl)
                (try simp only [Act.put, List.setIfInBounds_toArray, List.set_cons_zero, List.set_cons_succ, List.getElem_toArray, List.getElem_cons_zero, List.getElem_cons_succ])
                refine wpAnyH_take (i := 12) (v := ?_) rfl (by kernel_rfl) (by kernel_rfl) (by kernel_rfl) (fun _ _ _ h => h) (Or.inl ⟨by rfl, ?y12⟩) (by assumption) ?_
                case y12 => intro w hSw; (try dsimp only at hSw); go_simp; (try with_reducible rfl)
                (try simp only [Act.put, List.setIfInBounds_toArray, List.set_cons_zero, List.set_cons_succ, List.getElem_toArray, List.getElem_cons_zero, List.getElem_cons_succ])
                refine wpAnyH_take (i := 13) (v := ?_) rfl (by kernel_rfl) (by kernel_rfl) (by kernel_rfl) (fun _ _ _ h => h) (Or.inl ⟨by rfl, ?y13⟩) (by assumption) ?_
                case y13 => intro w hSw; (try dsimp only at hSw); go_simp; (try with_reducible rfl)
                (try simp only [Act.put, List.setIfInBounds_toArray, List.set_cons_zero, List.set_cons_succ, List.getElem_toArray, List.getElem_cons_zero, List.getElem_cons_succ])
                refine wpAnyH_take (i := 14) (v := ?_) rfl (by kernel_rfl) (by kernel_rfl) (by kernel_rfl) (fun _ _ _ h => h) (Or.inl ⟨by rfl, ?y14⟩) (by assumption) ?_
                case y14 => intro w hSw; (try dsimp only at hSw); go_simp; (try with_reducible rfl)
                (try simp only [Act.put, List.setIfInBounds_toArray, List.set_cons_zero, List.set_cons_succ, List.getElem_toArray, List.getElem_cons_zero, List.getElem_cons_succ])
                refine wpAnyH_ready (rs := [15]) (by kernel_rfl) (by simp) ?_
                refine AllReadyH.cons rfl (fun K hK => ?_) AllReadyH.nil
                go_simp
                refine h15.mono ?_; clear h15; rintro e y5 ⟨rfl, hy⟩
                replace hy := hy.symm
                subst hy
                refine hK.out _ _ (hS.out _ (Below.refl _ _).drew) (fun hHeld => ?_)
                clear hK K
                (try simp only [Act.put, List.setIfInBounds_toArray, List.set_cons_zero, List.set_cons_succ, List.getElem_toArray, List.getElem_cons_zero, List.getElem_cons_succ])
                refine wpAnyH_take (i := 16) (v := ?_) rfl (by kernel_rfl) (by kernel_rfl) (by kernel_rfl) (fun _ _ _ h => h) (Or.inl ⟨by rfl, ?y16⟩) (by assumption) ?_
                case y16 => intro w hSw; (try dsimp only at hSw); go_simp; (try with_reducible rfl)
                (try simp only [Act.put, List.setIfInBounds_toArray, List.set_cons_zero, List.set_cons_succ, List.getElem_toArray, List.getElem_cons_zero, List.getElem_cons_succ])
                refine wpAnyH_done (by kernel_rfl) ?_ _
                clear i0 i1 i2 d1 d1n hS
                go_wp2_with fail
                go_loopw [15] (fun i wr => ∃ m : Nat, k ≤ m ∧ m ≤ l.length ∧ i = .int .i64 (m : Int) ∧ Below w5.heap.size w5 wr) (fun i _ => l.length - (RowKit.intOf i).toNat)
                case atStart => exact ⟨k, Nat.le_refl _, Nat.le_of_lt HLT.out, rfl, HBY.out.drew⟩
                case round => as_aux_lemma =>
                  clear HBY
                  obtain ⟨m, hkm, hm, rfl, hby⟩ := hrel
                  by_cases hlm : m < l.length
                  · obtain ⟨ub', uo', e0, hck⟩ := (HRA.out.below hby).2 k HLT.out
                    cases e0
                    obtain ⟨ub', uo', e0, hcm⟩ := (HRA.out.below hby).2 m hlm
                    cases e0
                    rw [HX.out] at hck
                    have hb3 := HB5.out.trans (hby.mono HB5.out.size)
                    have h9 := has_o ((HG.out.below hb3.drew).s) ((x : Nat) : Int) (l.getD m 0) (by unfold InR; omega)
                    rw [HP3.out m hkm hlm] at h9
                    have hlk := HLT.out
                    generalize l.getD m 0 = y at *
                    have i0 : (0 : Int) ≤ (k : Int) := by omega
                    have i1 : (k : Int) < (l.length : Int) := by omega
                    have j0 : (0 : Int) ≤ (m : Int) := by omega
                    have j1 : (m : Int) < (l.length : Int) := by omega
                    have d2 : decide ((m : Int) < (l.length : Int)) = true := decide_eq_true (by omega)
                    have d2n : decide (m < l.length) = true := decide_eq_true (by omega)
                    have hS : Hid (∀ W', Below wr.heap.size wr W' → W'.cell? ⟨ub, uo + k, none⟩ = some (.int .i64 ((x : Nat) : Int)) ∧ W'.cell? ⟨ub, uo + m, none⟩ = some (.int .i64 y)) := fun W' q => ⟨(q.cell (World.block_lt_of_cell? _ _ hck)).trans hck, (q.cell (World.block_lt_of_cell? _ _ hcm)).trans hcm⟩
                    have HBY := Lib.hid hby
                    have HLM := Lib.hid (And.intro hkm hlm)
                    clear hck hcm hby hb3 hlk hm hkm hlm
                    go_wp2_with fail
                    refine wp_region_held_drew (S := fun wz => wz.cell? ⟨ub, uo + k, none⟩ = some (.int .i64 ((x : Nat) : Int)) ∧ wz.cell? ⟨ub, uo + m, none⟩ = some (.int .i64 y)) (by kernel_rfl) (hS.out _ (Below.refl _ _).drew) (fun hHeld => ?_)
                    refine wpAnyH_take (i := 0) (v := ?_) rfl (by kernel_rfl) (by kernel_rfl) (by kernel_rfl) (fun _ _ _ h => h) (Or.inl ⟨by rfl, ?y0⟩) (by assumption) ?_
                    case y0 => intro w hSw; (try dsimp only at hSw); go_simp; (try with_reducible rfl)
                    (try simp only [Act.put, List.setIfInBounds_toArray, List.set_cons_zero, List.set_cons_succ, List.getElem_toArray, List.getElem_cons_zero, List.getElem_cons_succ])
                    refine wpAnyH_take (i := 1) (v := ?_) rfl (by kernel_rfl) (by kernel_rfl) (by kernel_rfl) (fun _ _ _ h => h) (Or.inl ⟨by rfl, ?y1⟩) (by assumption) ?_
                    case y1 => intro w hSw; (try dsimp only at hSw); go_simp; (try with_reducible rfl)
                    (try simp only [Act.put, List.setIfInBounds_toArray, List.set_cons_zero, List.set_cons_succ, List.getElem_toArray, List.getElem_cons_zero, List.getElem_cons_succ])
                    refine wpAnyH_take (i := 2) (v := ?_) rfl (by kernel_rfl) (by kernel_rfl) (by kernel_rfl) (fun _ _ _ h => h) (Or.inl ⟨by rfl, ?y2⟩) (by assumption) ?_
                    case y2 => intro w hSw; (try dsimp only at hSw); go_simp; (try with_reducible rfl)
                    (try simp only [Act.put, List.setIfInBounds_toArray, List.set_cons_zero, List.set_cons_succ, List.getElem_toArray, List.getElem_cons_zero, List.getElem_cons_succ])
                    refine wpAnyH_take (i := 3) (v := ?_) rfl (by kernel_rfl) (by kernel_rfl) (by kernel_rfl) (fun _ _ _ h => h) (Or.inl ⟨by rfl, ?y3⟩) (by assumption) ?_
                    case y3 => intro w hSw; (try dsimp only at hSw); go_simp; (try with_reducible rfl)
                    (try simp only [Act.put, List.setIfInBounds_toArray, List.set_cons_zero, List.set_cons_succ, List.getElem_toArray, List.getElem_cons_zero, List.getElem_cons_succ])
                    refine wpAnyH_take (i := 4) (v := ?_) rfl (by kernel_rfl) (by kernel_rfl) (by kernel_rfl) (fun _ _ _ h => h) (Or.inl ⟨by rfl, ?y4⟩) (by assumption) ?_
                    case y4 => intro w hSw; (try dsimp only at hSw); go_simp; (try with_reducible rfl)
                    (try simp only [Act.put, List.setIfInBounds_toArray, List.set_cons_zero, List.set_cons_succ, List.getElem_toArray, List.getElem_cons_zero, List.getElem_cons_succ])
                    refine wpAnyH_take (i := 5) (v := ?_) rfl (by kernel_rfl) (by kernel_rfl) (by kernel_rfl) (fun _ _ _ h => h) (Or.inl ⟨by rfl, ?y5⟩) (by assumption) ?_
                    case y5 => intro w hSw; (try dsimp only at hSw); go_simp; (try with_reducible rfl)
                    (try simp only [Act.put, List.setIfInBounds_toArray, List.set_cons_zero, List.set_cons_succ, List.getElem_toArray, List.getElem_cons_zero, List.getElem_cons_succ])
                    refine wpAnyH_take (i := 6) (v := ?_) rfl (by kernel_rfl) (by kernel_rfl) (by kernel_rfl) (fun _ _ _ h => h) (Or.inl ⟨by rfl, ?y6⟩) (by assumption) ?_
                    case y6 => intro w hSw; (try dsimp only at hSw); go_simp; (try with_reducible rfl)
                    (try simp only [Act.put, List.setIfInBounds_toArray, List.set_cons_zero, List.set_cons_succ, List.getElem_toArray, List.getElem_cons_zero, List.getElem_cons_succ])
                    refine wpAnyH_take (i := 7) (v := ?_) rfl (by kernel_rfl) (by kernel_rfl) (by kernel_rfl) (fun _ _ _ h => h) (Or.inl ⟨by rfl, ?y7⟩) (by assumption) ?_
                    case y7 => intro w hSw; (try dsimp only at hSw); go_simp; (try with_reducible rfl)
                    (try simp only [Act.put, List.setIfInBounds_toArray, List.set_cons_zero, List.set_cons_succ, List.getElem_toArray, List.getElem_cons_zero, List.getElem_cons_succ])
                    refine wpAnyH_take (i := 8) (v := ?_) rfl (by kernel_rfl) (by kernel_rfl) (by kernel_rfl) (fun _ _ _ h => h) (Or.inl ⟨by rfl, ?y8⟩) (by assumption) ?_
                    case y8 => intro w hSw; (try dsimp only at hSw); go_simp; (try with_reducible rfl)
                    (try simp only [Act.put, List.setIfInBounds_toArray, List.set_cons_zero, List.set_cons_succ, List.getElem_toArray, List.getElem_cons_zero, List.getElem_cons_succ])
                    refine wpAnyH_ready (rs := [9]) (by kernel_rfl) (by simp) ?_
                    refine AllReadyH.cons rfl (fun K hK => ?_) AllReadyH.nil
                    go_simp
                    refine h9.mono ?_; clear h9; rintro e y7 ⟨rfl, hb7⟩
                    have HB7 := Lib.hid hb7
                    clear hb7
                    refine hK.out _ _ (hS.out _ ((Below.refl _ _).drew.trans HB7.out)) (fun hHeld => ?_)
                    clear hK K
                    (try simp only [Act.put, List.setIfInBounds_toArray, List.set_cons_zero, List.set_cons_succ, List.getElem_toArray, List.getElem_cons_zero, List.getElem_cons_succ])
                    refine wpAnyH_done (by kernel_rfl) ?_ _
                    go_wp2_with fail
                    go_roundw
                    · exact ⟨m + 1, Nat.le_succ_of_le HLM.out.1, HLM.out.2, by go_num, (HBY.out.drew).trans (HB7.out.mono (by have := HBY.out.size; exact this))⟩
                    · have := HLM.out.2; simp [RowKit.intOf]; omega
                  · obtain rfl : m = l.length := by omega
                    have d2 : decide ((l.length : Int) < (l.length : Int)) = false := decide_eq_false (by omega)
                    have d2n : decide (l.length < l.length) = false := decide_eq_false (by omega)
                    have HBY := Lib.hid hby
                    have hlk := HLT.out
                    clear hby hkm hm hlm
                    go_wp2_with fail
                    go_roundw
                    · exact ⟨k + 1, HLT.out, by go_num, HBY.out⟩
                    · have := HLT.out; simp [RowKit.intOf]; omega
              · obtain rfl : k = l.length := by omega
                have d1 : decide ((l.length : Int) < (l.length : Int)) = false := decide_eq_false (by omega)
                have d1n : decide (l.length < l.length) = false := decide_eq_false (by omega)
                have HBY := Lib.hid hby
                clear hby hk hlt
                go_wp2_with fail
                clear d1 d1n
                go_loopw [16] (fun i wr => ∃ k : Nat, k ≤ L.length ∧ i = .int .i64 (k : Int) ∧ Below w5.heap.size w5 wr) (fun i _ => L.length - (RowKit.intOf i).toNat)
                case atStart => exact ⟨0, Nat.zero_le _, rfl, HBY.out⟩
                case round =>
                  clear HBY
                  obtain ⟨k, hk, rfl, hby⟩ := hrel
                  by_cases hlt : k < L.length
                  · have hb3 := HB5.out.trans (hby.mono HB5.out.size)
                    obtain ⟨fb, fo, rfl, hcz⟩ := (HR3.out _ hb3).2 k hlt
                    have hzl : L.getD k 0 ∈ L := by rw [getD_lt _ _ hlt]; exact List.getElem_mem hlt
                    have h13 := has_any aa ac l (L.getD k 0) wr (HRA.out.below hby) (by omega)
                    generalize L.getD k 0 = z at *
                    have i0 : (0 : Int) ≤ (k : Int) := by omega
                    have i1 : (k : Int) < (L.length : Int) := by omega
                    have d3 : decide ((k : Int) < (L.length : Int)) = true := decide_eq_true (by omega)
                    have d3n : decide (k < L.length) = true := decide_eq_true (by omega)
                    have HBY := Lib.hid hby
                    have HLT := Lib.hid hlt
                    clear hby hb3 hlt hk
                    by_cases hz1 : 0 ≤ z
                    · have dz : decide (0 ≤ z) = true := decide_eq_true hz1
                      by_cases hz2 : z < (R.length : Int)
                      · have dy : decide (z < (R.length : Int)) = true := decide_eq_true hz2
                        rw [decide_eq_true (HSS.out z hz1 hz2 hzl)] at h13
                        clear hzl hz1 hz2
                        go_wp2_with fail
                        refine h13.mono ?_; clear h13; rintro e y5 ⟨rfl, hy⟩
                        replace hy := hy.symm
                        subst hy
                        go_wp2_with fail
                        go_roundw
                        · exact ⟨k + 1, HLT.out, by go_num, HBY.out⟩
                        · have := HLT.out; simp [RowKit.intOf]; omega
                      · have dy : decide (z < (R.length : Int)) = false := decide_eq_false hz2
                        clear hzl hz1 hz2 h13
                        go_wp2_with fail
                        go_roundw
                        · exact ⟨k + 1, HLT.out, by go_num, HBY.out⟩
                        · have := HLT.out; simp [RowKit.intOf]; omega
                    · have dz : decide (0 ≤ z) = false := decide_eq_false hz1
                      clear hzl hz1 h13
                      go_wp2_with fail
                      go_roundw
                      · exact ⟨k + 1, HLT.out, by go_num, HBY.out⟩
                      · have := HLT.out; simp [RowKit.intOf]; omega
                  · obtain rfl : k = L.length := by omega
                    have d3 : decide ((L.length : Int) < (L.length : Int)) = false := decide_eq_false (by omega)
                    have d3n : decide (L.length < L.length) = false := decide_eq_false (by omega)
                    have HBY := Lib.hid hby
                    clear hby hk hlt
                    go_wp2_with fail
                    clear d3 d3n
                    go_loopw [17, 18] (fun nv i wr => ∃ q N : Nat, q ≤ rs.length ∧ i = .int .i64 (q : Int) ∧ nv = .int .i64 (N : Int) ∧ N = (rs.take q).flatten.length ∧ Below w5.heap.size w5 wr) (fun _ i _ => rs.length - (RowKit.intOf i).toNat)
                    case atStart => exact ⟨0, 0, Nat.zero_le _, rfl, rfl, by simp, HBY.out⟩
                    case round =>
                      clear HBY
                      obtain ⟨q, N0, hq, rfl, rfl, hN0, hby⟩ := hrel
                      by_cases hlq : q < rs.length
                      · obtain ⟨g, gc, e0⟩ := row_g (HRW.out.below hby) (by omega)
                        injection e0 with e1 _ e3
                        subst e1 e3
                        obtain ⟨nq, hnq⟩ : ∃ nq, nq = (rAt rs q).length := ⟨_, rfl⟩
                        have HNQ := Lib.hid hnq
                        have HQ := Lib.hid hlq
                        have hnq6 : nq ≤ 20000 := by rw [hnq]; exact HRL.out q hlq
                        have hNF : N0 + nq = (rs.take (q + 1)).flatten.length := by rw [flat_len hlq, hN0, hnq]
                        have hN6 : N0 + nq ≤ 20000 := by have := flat_le rs (q + 1); have := HSN.out; omega
                        have HNF := Lib.hid hNF
                        have d4 : decide ((q : Int) < (rs.length : Int)) = true := decide_eq_true (by omega)
                        have d4n : decide (q < rs.length) = true := decide_eq_true (by omega)
                        have HBY := Lib.hid hby
                        clear hby hq hlq hN0 hnq hNF
                        go_wp2_with fail
                        clear d4 d4n
                        go_loopw [17, 19] (fun nv i wr => ∃ k N : Nat, k ≤ nq ∧ i = .int .i64 (k : Int) ∧ nv = .int .i64 (N : Int) ∧ N = N0 + k ∧ Below w5.heap.size w5 wr) (fun _ i _ => nq - (RowKit.intOf i).toNat)
                        case atStart => exact ⟨0, N0, Nat.zero_le _, rfl, rfl, rfl, HBY.out⟩
                        case round =>
                          clear HBY
                          obtain ⟨k, N, hk, rfl, rfl, hN, hby⟩ := hrel
                          obtain ⟨a1, c1, hgq, hc1, r1⟩ := row_el (HRW.out.below hby) HQ.out
                          rw [← HNQ.out] at hgq
                          have hqq := HQ.out
                          have q0 : (0 : Int) ≤ (q : Int) := by omega
                          have q1 : (q : Int) < (rs.length : Int) := by omega
                          by_cases hlk : k < nq
                          · obtain ⟨x, hx, hxl, p1, p2, p3, p4⟩ := HSW.out q HQ.out k (by rw [← HNQ.out]; exact hlk)
                            have HX := Lib.hid hx
                            have HP1 := Lib.hid p1
                            have HP2 := Lib.hid p2
                            have HP3 := Lib.hid p3
                            have HP4 := Lib.hid p4
                            have HK := Lib.hid hlk
                            have HN := Lib.hid hN
                            have hN20 : N ≤ 20000 := by omega
                            have d5 : decide ((k : Int) < (nq : Int)) = true := decide_eq_true (by omega)
                            have d5n : decide (k < nq) = true := decide_eq_true (by omega)
                            have HBY := Lib.hid hby
                            clear hby hk hlk hN p1 p2 p3 p4 hx r1 hqq hc1
                            by_cases hq0 : q = 0
                            · as_aux_lemma =>
                              have dq1 : ((q : Int) == 0) = true := by simp [hq0]
                              have dq2 : (q == 0) = true := by simp [hq0]
                              have dq3 : decide (q = 0) = true := decide_eq_true hq0
                              have dq4 : decide ((0 : Int) < (q : Int)) = false := decide_eq_false (by omega)
                              have dq4n : decide (0 < q) = false := decide_eq_false (by omega)
                              clear hq0
                              go_wp2_with fail
                              clear d5 d5n
                              go_loopw [20, 21] (fun b i wr => b = .bool true ∧ i = .int .i64 0 ∧ Below w5.heap.size w5 wr) (fun _ _ _ => 0)
                              case atStart => exact ⟨rfl, rfl, HBY.out⟩
                              case round =>
                                clear HBY
                                obtain ⟨rfl, rfl, hby⟩ := hrel
                                have HBY := Lib.hid hby
                                clear hby dq1 dq2 dq3
                                go_upto_region 42 with fail
                                clear dq4 dq4n
                                obtain ⟨a1, c1, hgq, hc1, r1⟩ := row_el (HRW.out.below HBY.out) HQ.out
                                rw [← HNQ.out] at hgq
                                obtain ⟨b1, o1, rfl, hek⟩ := r1.2 k (by rw [← HNQ.out]; exact HK.out)
                                rw [HX.out] at hek
                                have h11 := has_any aa ac l ((x : Nat) : Int) wr.drew (HRA.out.below HBY.out.drew) (by omega)
                                rw [decide_eq_true HP1.out] at h11
                                have hkk := HK.out
                                have hqq := HQ.out
                                have q0 : (0 : Int) ≤ (q : Int) := by omega
                                have q1 : (q : Int) < (rs.length : Int) := by omega
                                have k0 : (0 : Int) ≤ (k : Int) := by omega
                                have k1 : (k : Int) < (nq : Int) := by omega
                                by_cases hk0 : k = 0
                                · as_aux_lemma =>
                                  have hS : Hid (∀ W', Below wr.heap.size wr W' → W'.cell? ⟨g, q, none⟩ = some (.slice (some ⟨b1, o1, none⟩) nq c1) ∧ W'.cell? ⟨b1, o1 + k, none⟩ = some (.int .i64 ((x : Nat) : Int))) := fun W' q => ⟨(q.cell (World.block_lt_of_cell? _ _ hgq)).trans hgq, (q.cell (World.block_lt_of_cell? _ _ hek)).trans hek⟩
                                  have dk : decide ((0 : Int) < (k : Int)) = false := decide_eq_false (by omega)
                                  have dkn : decide (0 < k) = false := decide_eq_false (by omega)
                                  clear hgq hek r1 hkk hqq hk0 hc1
                                  go_wp2_with fail
                                  refine wp_region_held_drew (S := fun wz => wz.cell? ⟨g, q, none⟩ = some (.slice (some ⟨b1, o1, none⟩) nq c1) ∧ wz.cell? ⟨b1, o1 + k, none⟩ = some (.int .i64 ((x : Nat) : Int))) (by kernel_rfl) (hS.out _ (Below.refl _ _).drew) (fun hHeld => ?_)
                                  refine wpAnyH_take (i := 0) (v := ?_) rfl (by kernel_rfl) (by kernel_rfl) (by kernel_rfl) (fun _ _ _ h => h) (Or.inl ⟨by rfl, ?y0⟩) (by assumption) ?_
                                  case y0 => intro w hSw; (try dsimp only at hSw); go_simp; (try with_reducible rfl)
                                  (try simp only [Act.put, List.setIfInBounds_toArray, List.set_cons_zero, List.set_cons_succ, List.getElem_toArray, List.getElem_cons_zero, List.getElem_cons_succ])
                                  refine wpAnyH_take (i := 1) (v := ?_) rfl (by kernel_rfl) (by kernel_rfl) (by kernel_rfl) (fun _ _ _ h => h) (Or.inl ⟨by rfl, ?y1⟩) (by assumption) ?_
                                  case y1 => intro w hSw; (try dsimp only at hSw); go_simp; (try with_reducible rfl)
                                  (try simp only [Act.put, List.setIfInBounds_toArray, List.set_cons_zero, List.set_cons_succ, List.getElem_toArray, List.getElem_cons_zero, List.getElem_cons_succ])
                                  refine wpAnyH_take (i := 2) (v := ?_) rfl (by kernel_rfl) (by kernel_rfl) (by kernel_rfl) (fun _ _ _ h => h) (Or.inl ⟨by rfl, ?y2⟩) (by assumption) ?_
                                  case y2 => intro w hSw; (try dsimp only at hSw); go_simp; (try with_reducible rfl)
                                  (try simp only [Act.put, List.setIfInBounds_toArray, List.set_cons_zero, List.set_cons_succ, List.getElem_toArray, List.getElem_cons_zero, List.getElem_cons_succ])
                                  refine wpAnyH_take (i := 3) (v := ?_) rfl (by kernel_rfl) (by kernel_rfl) (by kernel_rfl) (fun _ _ _ h => h) (Or.inl ⟨by rfl, ?y3⟩) (by assumption) ?_
                                  case y3 => intro w hSw; (try dsimp only at hSw); go_simp; (try with_reducible rfl)
                                  (try simp only [Act.put, List.setIfInBounds_toArray, List.set_cons_zero, List.set_cons_succ, List.getElem_toArray, List.getElem_cons_zero, List.getElem_cons_succ])
                                  refine wpAnyH_take (i := 4) (v := ?_) rfl (by kernel_rfl) (by kernel_rfl) (by kernel_rfl) (fun _ _ _ h => h) (Or.inl ⟨by rfl, ?y4⟩) (by assumption) ?_
                                  case y4 => intro w hSw; (try dsimp only at hSw); go_simp; (try with_reducible rfl)
                                  (try simp only [Act.put, List.setIfInBounds_toArray, List.set_cons_zero, List.set_cons_succ, List.getElem_toArray, List.getElem_cons_zero, List.getElem_cons_succ])
                                  refine wpAnyH_take (i := 5) (v := ?_) rfl (by kernel_rfl) (by kernel_rfl) (by kernel_rfl) (fun _ _ _ h => h) (Or.inl ⟨by rfl, ?y5⟩) (by assumption) ?_
                                  case y5 => intro w hSw; (try dsimp only at hSw); go_simp; (try with_reducible rfl)
                                  (try simp only [Act.put, List.setIfInBounds_toArray, List.set_cons_zero, List.set_cons_succ, List.getElem_toArray, List.getElem_cons_zero, List.getElem_cons_succ])
                                  refine wpAnyH_take (i := 6) (v := ?_) rfl (by kernel_rfl) (by kernel_rfl) (by kernel_rfl) (fun _ _ _ h => h) (Or.inl ⟨by rfl, ?y6⟩) (by assumption) ?_
                                  case y6 => intro w hSw; (try dsimp only at hSw); go_simp; (try with_reducible rfl)
                                  (try simp only [Act.put, List.setIfInBounds_toArray, List.set_cons_zero, List.set_cons_succ, List.getElem_toArray, List.getElem_cons_zero, List.getElem_cons_succ])
                                  refine wpAnyH_take (i := 7) (v := ?_) rfl (by kernel_rfl) (by kernel_rfl) (by kernel_rfl) (fun _ _ _ h => h) (Or.inl ⟨by rfl, ?y7⟩) (by assumption) ?_
                                  case y7 => intro w hSw; (try dsimp only at hSw); go_simp; (try with_reducible rfl)
                                  (try simp only [Act.put, List.setIfInBounds_toArray, List.set_cons_zero, List.set_cons_succ, List.getElem_toArray, List.getElem_cons_zero, List.getElem_cons_succ])
                                  refine wpAnyH_take (i := 8) (v := ?_) rfl (by kernel_rfl) (by kernel_rfl) (by kernel_rfl) (fun _ _ _ h => h) (Or.inl ⟨by rfl, ?y8⟩) (by assumption) ?_
                                  case y8 => intro w hSw; (try dsimp only at hSw); go_simp; (try with_reducible rfl)
                                  (try simp only [Act.put, List.setIfInBounds_toArray, List.set_cons_zero, List.set_cons_succ, List.getElem_toArray, List.getElem_cons_zero, List.getElem_cons_succ])
                                  refine wpAnyH_take (i := 9) (v := ?_) rfl (by kernel_rfl) (by kernel_rfl) (by kernel_rfl) (fun _ _ _ h => h) (Or.inl ⟨by rfl, ?y9⟩) (by assumption) ?_
                                  case y9 => intro w hSw; (try dsimp only at hSw); go_simp; (try with_reducible rfl)
                                  (try simp only [Act.put, List.setIfInBounds_toArray, List.set_cons_zero, List.set_cons_succ, List.getElem_toArray, List.getElem_cons_zero, List.getElem_cons_succ])
                                  refine wpAnyH_take (i := 10) (v := ?_) rfl (by kernel_rfl) (by kernel_rfl) (by kernel_rfl) (fun _ _ _ h => h) (Or.inl ⟨by rfl, ?y10⟩) (by assumption) ?_
                                  case y10 => intro w hSw; (try dsimp only at hSw); go_simp; (try with_reducible rfl)
                                  (try simp only [Act.put, List.setIfInBounds_toArray, List.set_cons_zero, List.set_cons_succ, List.getElem_toArray, List.getElem_cons_zero, List.getElem_cons_succ])
                                  refine wpAnyH_ready (rs := [11]) (by kernel_rfl) (by simp) ?_
                                  refine AllReadyH.cons rfl (fun K hK => ?_) AllReadyH.nil
                                  go_simp
                                  refine h11.mono ?_; clear h11; rintro e y5 ⟨rfl, hy⟩
                                  replace hy := hy.symm
                                  subst hy
                                  refine hK.out _ _ (hS.out _ (Below.refl _ _).drew) (fun hHeld => ?_)
                                  clear hK K
                                  (try simp only [Act.put, List.setIfInBounds_toArray, List.set_cons_zero, List.set_cons_succ, List.getElem_toArray, List.getElem_cons_zero, List.getElem_cons_succ])
                                  refine wpAnyH_take (i := 12) (v := ?_) rfl (by kernel_rfl) (by kernel_rfl) (by kernel_rfl) (fun _ _ _ h => h) (Or.inl ⟨by rfl, ?y12⟩) (by assumption) ?_
                                  case y12 => intro w hSw; (try dsimp only at hSw); go_simp; (try with_reducible rfl)
                                  (try simp only [Act.put, List.setIfInBounds_toArray, List.set_cons_zero, List.set_cons_succ, List.getElem_toArray, List.getElem_cons_zero, List.getElem_cons_succ])
                                  refine wpAnyH_take (i := 13) (v := ?_) rfl (by kernel_rfl) (by kernel_rfl) (by kernel_rfl) (fun _ _ _ h => h) (Or.inl ⟨by rfl, ?y13⟩) (by assumption) ?_
                                  case y13 => intro w hSw; (try dsimp only at hSw); go_simp; (try with_reducible rfl)
                                  (try simp only [Act.put, List.setIfInBounds_toArray, List.set_cons_zero, List.set_cons_succ, List.getElem_toArray, List.getElem_cons_zero, List.getElem_cons_succ])
                                  refine wpAnyH_take (i := 14) (v := ?_) rfl (by kernel_rfl) (by kernel_rfl) (by kernel_rfl) (fun _ _ _ h => h) (Or.inl ⟨by rfl, ?y14⟩) (by assumption) ?_
                                  case y14 => intro w hSw; (try dsimp only at hSw); go_simp; (try with_reducible rfl)
                                  (try simp only [Act.put, List.setIfInBounds_toArray, List.set_cons_zero, List.set_cons_succ, List.getElem_toArray, List.getElem_cons_zero, List.getElem_cons_succ])
                                  refine wpAnyH_take (i := 15) (v := ?_) rfl (by kernel_rfl) (by kernel_rfl) (by kernel_rfl) (fun _ _ _ h => h) (Or.inl ⟨by rfl, ?y15⟩) (by assumption) ?_
                                  case y15 => intro w hSw; (try dsimp only at hSw); go_simp; (try with_reducible rfl)
                                  (try simp only [Act.put, List.setIfInBounds_toArray, List.set_cons_zero, List.set_cons_succ, List.getElem_toArray, List.getElem_cons_zero, List.getElem_cons_succ])
                                  refine wpAnyH_take (i := 16) (v := ?_) rfl (by kernel_rfl) (by kernel_rfl) (by kernel_rfl) (fun _ _ _ h => h) (Or.inl ⟨by rfl, ?y16⟩) (by assumption) ?_
                                  case y16 => intro w hSw; (try dsimp only at hSw); go_simp; (try with_reducible rfl)
                                  (try simp only [Act.put, List.setIfInBounds_toArray, List.set_cons_zero, List.set_cons_succ, List.getElem_toArray, List.getElem_cons_zero, List.getElem_cons_succ])
                                  refine wpAnyH_take (i := 17) (v := ?_) rfl (by kernel_rfl) (by kernel_rfl) (by kernel_rfl) (fun _ _ _ h => h) (Or.inl ⟨by rfl, ?y17⟩) (by assumption) ?_
                                  case y17 => intro w hSw; (try dsimp only at hSw); go_simp; (try with_reducible rfl)
                                  (try simp only [Act.put, List.setIfInBounds_toArray, List.set_cons_zero, List.set_cons_succ, List.getElem_toArray, List.getElem_cons_zero, List.getElem_cons_succ])
                                  refine wpAnyH_take (i := 18) (v := undef) rfl (by kernel_rfl) (by kernel_rfl) (by kernel_rfl) (fun _ _ _ h => h) (Or.inr ⟨by rfl, rfl⟩) (by assumption) ?_
                                  (try simp only [Act.put, List.setIfInBounds_toArray, List.set_cons_zero, List.set_cons_succ, List.getElem_toArray, List.getElem_cons_zero, List.getElem_cons_succ])
                                  refine wpAnyH_take (i := 19) (v := undef) rfl (by kernel_rfl) (by kernel_rfl) (by kernel_rfl) (fun _ _ _ h => h) (Or.inr ⟨by rfl, rfl⟩) (by assumption) ?_
                                  (try simp only [Act.put, List.setIfInBounds_toArray, List.set_cons_zero, List.set_cons_succ, List.getElem_toArray, List.getElem_cons_zero, List.getElem_cons_succ])
                                  refine wpAnyH_take (i := 20) (v := undef) rfl (by kernel_rfl) (by kernel_rfl) (by kernel_rfl) (fun _ _ _ h => h) (Or.inr ⟨by rfl, rfl⟩) (by assumption) ?_
                                  (try simp only [Act.put, List.setIfInBounds_toArray, List.set_cons_zero, List.set_cons_succ, List.getElem_toArray, List.getElem_cons_zero, List.getElem_cons_succ])
                                  refine wpAnyH_take (i := 21) (v := undef) rfl (by kernel_rfl) (by kernel_rfl) (by kernel_rfl) (fun _ _ _ h => h) (Or.inr ⟨by rfl, rfl⟩) (by assumption) ?_
                                  (try simp only [Act.put, List.setIfInBounds_toArray, List.set_cons_zero, List.set_cons_succ, List.getElem_toArray, List.getElem_cons_zero, List.getElem_cons_succ])
                                  refine wpAnyH_take (i := 22) (v := undef) rfl (by kernel_rfl) (by kernel_rfl) (by kernel_rfl) (fun _ _ _ h => h) (Or.inr ⟨by rfl, rfl⟩) (by assumption) ?_
                                  (try simp only [Act.put, List.setIfInBounds_toArray, List.set_cons_zero, List.set_cons_succ, List.getElem_toArray, List.getElem_cons_zero, List.getElem_cons_succ])
                                  refine wpAnyH_take (i := 23) (v := undef) rfl (by kernel_rfl) (by kernel_rfl) (by kernel_rfl) (fun _ _ _ h => h) (Or.inr ⟨by rfl, rfl⟩) (by assumption) ?_
                                  (try simp only [Act.put, List.setIfInBounds_toArray, List.set_cons_zero, List.set_cons_succ, List.getElem_toArray, List.getElem_cons_zero, List.getElem_cons_succ])
                                  refine wpAnyH_take (i := 24) (v := undef) rfl (by kernel_rfl) (by kernel_rfl) (by kernel_rfl) (fun _ _ _ h => h) (Or.inr ⟨by rfl, rfl⟩) (by assumption) ?_
                                  (try simp only [Act.put, List.setIfInBounds_toArray, List.set_cons_zero, List.set_cons_succ, List.getElem_toArray, List.getElem_cons_zero, List.getElem_cons_succ])
                                  refine wpAnyH_take (i := 25) (v := undef) rfl (by kernel_rfl) (by kernel_rfl) (by kernel_rfl) (fun _ _ _ h => h) (Or.inr ⟨by rfl, rfl⟩) (by assumption) ?_
                                  (try simp only [Act.put, List.setIfInBounds_toArray, List.set_cons_zero, List.set_cons_succ, List.getElem_toArray, List.getElem_cons_zero, List.getElem_cons_succ])
                                  refine wpAnyH_take (i := 26) (v := undef) rfl (by kernel_rfl) (by kernel_rfl) (by kernel_rfl) (fun _ _ _ h => h) (Or.inr ⟨by rfl, rfl⟩) (by assumption) ?_
                                  (try simp only [Act.put, List.setIfInBounds_toArray, List.set_cons_zero, List.set_cons_succ, List.getElem_toArray, List.getElem_cons_zero, List.getElem_cons_succ])
                                  refine wpAnyH_take (i := 27) (v := undef) rfl (by kernel_rfl) (by kernel_rfl) (by kernel_rfl) (fun _ _ _ h => h) (Or.inr ⟨by rfl, rfl⟩) (by assumption) ?_
                                  (try simp only [Act.put, List.setIfInBounds_toArray, List.set_cons_zero, List.set_cons_succ, List.getElem_toArray, List.getElem_cons_zero, List.getElem_cons_succ])
                                  refine wpAnyH_take (i := 28) (v := undef) rfl (by kernel_rfl) (by kernel_rfl) (by kernel_rfl) (fun _ _ _ h => h) (Or.inr ⟨by rfl, rfl⟩) (by assumption) ?_
                                  (try simp only [Act.put, List.setIfInBounds_toArray, List.set_cons_zero, List.set_cons_succ, List.getElem_toArray, List.getElem_cons_zero, List.getElem_cons_succ])
                                  refine wpAnyH_take (i := 29) (v := undef) rfl (by kernel_rfl) (by kernel_rfl) (by kernel_rfl) (fun _ _ _ h => h) (Or.inr ⟨by rfl, rfl⟩) (by assumption) ?_
                                  (try simp only [Act.put, List.setIfInBounds_toArray, List.set_cons_zero, List.set_cons_succ, List.getElem_toArray, List.getElem_cons_zero, List.getElem_cons_succ])
                                  refine wpAnyH_take (i := 30) (v := undef) rfl (by kernel_rfl) (by kernel_rfl) (by kernel_rfl) (fun _ _ _ h => h) (Or.inr ⟨by rfl, rfl⟩) (by assumption) ?_
                                  (try simp only [Act.put, List.setIfInBounds_toArray, List.set_cons_zero, List.set_cons_succ, List.getElem_toArray, List.getElem_cons_zero, List.getElem_cons_succ])
                                  refine wpAnyH_take (i := 31) (v := undef) rfl (by kernel_rfl) (by kernel_rfl) (by kernel_rfl) (fun _ _ _ h => h) (Or.inr ⟨by rfl, rfl⟩) (by assumption) ?_
                                  (try simp only [Act.put, List.setIfInBounds_toArray, List.set_cons_zero, List.set_cons_succ, List.getElem_toArray, List.getElem_cons_zero, List.getElem_cons_succ])
                                  refine wpAnyH_take (i := 32) (v := undef) rfl (by kernel_rfl) (by kernel_rfl) (by kernel_rfl) (fun _ _ _ h => h) (Or.inr ⟨by rfl, rfl⟩) (by assumption) ?_
                                  (try simp only [Act.put, List.setIfInBounds_toArray, List.set_cons_zero, List.set_cons_succ, List.getElem_toArray, List.getElem_cons_zero, List.getElem_cons_succ])
                                  refine wpAnyH_take (i := 33) (v := undef) rfl (by kernel_rfl) (by kernel_rfl) (by kernel_rfl) (fun _ _ _ h => h) (Or.inr ⟨by rfl, rfl⟩) (by assumption) ?_
                                  (try simp only [Act.put, List.setIfInBounds_toArray, List.set_cons_zero, List.set_cons_succ, List.getElem_toArray, List.getElem_cons_zero, List.getElem_cons_succ])
                                  refine wpAnyH_take (i := 34) (v := ?_) rfl (by kernel_rfl) (by kernel_rfl) (by kernel_rfl) (fun _ _ _ h => h) (Or.inl ⟨by rfl, ?y34⟩) (by assumption) ?_
                                  case y34 => intro w hSw; (try dsimp only at hSw); go_simp; (try with_reducible rfl)
                                  (try simp only [Act.put, List.setIfInBounds_toArray, List.set_cons_zero, List.set_cons_succ, List.getElem_toArray, List.getElem_cons_zero, List.getElem_cons_succ])
                                  refine wpAnyH_take (i := 35) (v := ?_) rfl (by kernel_rfl) (by kernel_rfl) (by kernel_rfl) (fun _ _ _ h => h) (Or.inl ⟨by rfl, ?y35⟩) (by assumption) ?_
                                  case y35 => intro w hSw; (try dsimp only at hSw); go_simp; (try with_reducible rfl)
                                  (try simp only [Act.put, List.setIfInBounds_toArray, List.set_cons_zero, List.set_cons_succ, List.getElem_toArray, List.getElem_cons_zero, List.getElem_cons_succ])
                                  refine wpAnyH_done (by kernel_rfl) ?_ _
                                  clear q0 q1 k0 k1 dk dkn hS
                                  have HBY := Lib.hid HBY.out.drew
                                  go_wp2_with fail
                                  go_loopw [22] (fun i wr => ∃ j : Nat, q ≤ j ∧ j ≤ rs.length ∧ i = .int .i64 (j : Int) ∧ Below w5.heap.size w5 wr) (fun i _ => rs.length - (RowKit.intOf i).toNat)
                                  case atStart => exact ⟨q, Nat.le_refl _, Nat.le_of_lt HQ.out, rfl, HBY.out⟩
                                  case round => as_aux_lemma =>
                                    clear HBY
                                    obtain ⟨j, hqj, hj, rfl, hby⟩ := hrel
                                    by_cases hlj : j < rs.length
                                    · obtain ⟨nj, hnj⟩ : ∃ nj, nj = (rAt rs j).length := ⟨_, rfl⟩
                                      have HNJ := Lib.hid hnj
                                      have HJ := Lib.hid (And.intro hqj hlj)
                                      have hnj6 : nj ≤ 20000 := by rw [hnj]; exact HRL.out j hlj
                                      have d7 : decide ((j : Int) < (rs.length : Int)) = true := decide_eq_true (by omega)
                                      have d7n : decide (j < rs.length) = true := decide_eq_true (by omega)
                                      have HBY := Lib.hid hby
                                      clear hby hqj hj hlj hnj
                                      go_wp2_with fail
                                      clear d7 d7n
                                      go_loopw [23] (fun i wr => ∃ m : Nat, m ≤ nj ∧ i = .int .i64 (m : Int) ∧ Below w5.heap.size w5 wr) (fun i _ => nj - (RowKit.intOf i).toNat)
                                      case atStart => exact ⟨0, Nat.zero_le _, rfl, HBY.out⟩
                                      case round => as_aux_lemma =>
                                        clear HBY
                                        obtain ⟨m, hm, rfl, hby⟩ := hrel
                                        obtain ⟨a2, c2, hgj, hc2, r2⟩ := row_el (HRW.out.below hby) HJ.out.2
                                        rw [← HNJ.out] at hgj
                                        have hjq := HJ.out.2
                                        have j0 : (0 : Int) ≤ (j : Int) := by omega
                                        have j1 : (j : Int) < (rs.length : Int) := by omega
                                        by_cases hlm : m < nj
                                        · obtain ⟨a1, c1, hgq, hc1, r1⟩ := row_el (HRW.out.below hby) HQ.out
                                          rw [← HNQ.out] at hgq
                                          obtain ⟨b1, o1, rfl, hek⟩ := r1.2 k (by rw [← HNQ.out]; exact HK.out)
                                          obtain ⟨b2, o2, rfl, hem⟩ := r2.2 m (by rw [← HNJ.out]; exact hlm)
                                          rw [HX.out] at hek
                                          have hb3 := HB5.out.trans (hby.mono HB5.out.size)
                                          have h15 := has_o ((HG.out.below hb3.drew).s) ((x : Nat) : Int) ((rAt rs j).getD m 0) (by unfold InR; omega)
                                          rw [HP4.out j HJ.out.1 HJ.out.2 m (by rw [← HNJ.out]; exact hlm)] at h15
                                          generalize (rAt rs j).getD m 0 = y at *
                                          have hkk := HK.out
                                          have hqq := HQ.out
                                          have q0 : (0 : Int) ≤ (q : Int) := by omega
                                          have q1 : (q : Int) < (rs.length : Int) := by omega
                                          have k0 : (0 : Int) ≤ (k : Int) := by omega
                                          have k1 : (k : Int) < (nq : Int) := by omega
                                          have m0 : (0 : Int) ≤ (m : Int) := by omega
                                          have m1 : (m : Int) < (nj : Int) := by omega
                                          have d8 : decide ((m : Int) < (nj : Int)) = true := decide_eq_true (by omega)
                                          have d8n : decide (m < nj) = true := decide_eq_true (by omega)
                                          have hS : Hid (∀ W', Below wr.heap.size wr W' → W'.cell? ⟨g, q, none⟩ = some (.slice (some ⟨b1, o1, none⟩) nq c1) ∧ W'.cell? ⟨b1, o1 + k, none⟩ = some (.int .i64 ((x : Nat) : Int)) ∧ W'.cell? ⟨g, j, none⟩ = some (.slice (some ⟨b2, o2, none⟩) nj c2) ∧ W'.cell? ⟨b2, o2 + m, none⟩ = some (.int .i64 y)) := fun W' q => ⟨(q.cell (World.block_lt_of_cell? _ _ hgq)).trans hgq, (q.cell (World.block_lt_of_cell? _ _ hek)).trans hek, (q.cell (World.block_lt_of_cell? _ _ hgj)).trans hgj, (q.cell (World.block_lt_of_cell? _ _ hem)).trans hem⟩
                                          have HBY := Lib.hid hby
                                          have HM := Lib.hid hlm
                                          clear hgq hek hem hby hb3 hjq hm hlm r1 r2 hkk hqq hc1 hc2
                                          go_wp2_with fail
                                          refine wp_region_held_drew (S := fun wz => wz.cell? ⟨g, q, none⟩ = some (.slice (some ⟨b1, o1, none⟩) nq c1) ∧ wz.cell? ⟨b1, o1 + k, none⟩ = some (.int .i64 ((x : Nat) : Int)) ∧ wz.cell? ⟨g, j, none⟩ = some (.slice (some ⟨b2, o2, none⟩) nj c2) ∧ wz.cell? ⟨b2, o2 + m, none⟩ = some (.int .i64 y)) (by kernel_rfl) (hS.out _ (Below.refl _ _).drew) (fun hHeld => ?_)
                                          refine wpAnyH_take (i := 0) (v := ?_) rfl (by kernel_rfl) (by kernel_rfl) (by kernel_rfl) (fun _ _ _ h => h) (Or.inl ⟨by rfl, ?y0⟩) (by assumption) ?_
                                          case y0 => intro w hSw; (try dsimp only at hSw); go_simp; (try with_reducible rfl)
                                          (try simp only [Act.put, List.setIfInBounds_toArray, List.set_cons_zero, List.set_cons_succ, List.getElem_toArray, List.getElem_cons_zero, List.getElem_cons_succ])
                                          refine wpAnyH_take (i := 1) (v := ?_) rfl (by kernel_rfl) (by kernel_rfl) (by kernel_rfl) (fun _ _ _ h => h) (Or.inl ⟨by rfl, ?y1⟩) (by assumption) ?_
                                          case y1 => intro w hSw; (try dsimp only at hSw); go_simp; (try with_reducible rfl)
                                          (try simp only [Act.put, List.setIfInBounds_toArray, List.set_cons_zero, List.set_cons_succ, List.getElem_toArray, List.getElem_cons_zero, List.getElem_cons_succ])
                                          refine wpAnyH_take (i := 2) (v := ?_) rfl (by kernel_rfl) (by kernel_rfl) (by kernel_rfl) (fun _ _ _ h => h) (Or.inl ⟨by rfl, ?y2⟩) (by assumption) ?_
                                          case y2 => intro w hSw; (try dsimp only at hSw); go_simp; (try with_reducible rfl)
                                          (try simp only [Act.put, List.setIfInBounds_toArray, List.set_cons_zero, List.set_cons_succ, List.getElem_toArray, List.getElem_cons_zero, List.getElem_cons_succ])
                                          refine wpAnyH_take (i := 3) (v := ?_) rfl (by kernel_rfl) (by kernel_rfl) (by kernel_rfl) (fun _ _ _ h => h) (Or.inl ⟨by rfl, ?y3⟩) (by assumption) ?_
                                          case y3 => intro w hSw; (try dsimp only at hSw); go_simp; (try with_reducible rfl)
                                          (try simp only [Act.put, List.setIfInBounds_toArray, List.set_cons_zero, List.set_cons_succ, List.getElem_toArray, List.getElem_cons_zero, List.getElem_cons_succ])
                                          refine wpAnyH_take (i := 4) (v := ?_) rfl (by kernel_rfl) (by kernel_rfl) (by kernel_rfl) (fun _ _ _ h => h) (Or.inl ⟨by rfl, ?y4⟩) (by assumption) ?_
                                          case y4 => intro w hSw; (try dsimp only at hSw); go_simp; (try with_reducible rfl)
                                          (try simp only [Act.put, List.setIfInBounds_toArray, List.set_cons_zero, List.set_cons_succ, List.getElem_toArray, List.getElem_cons_zero, List.getElem_cons_succ])
                                          refine wpAnyH_take (i := 5) (v := ?_) rfl (by kernel_rfl) (by kernel_rfl) (by kernel_rfl) (fun _ _ _ h => h) (Or.inl ⟨by rfl, ?y5⟩) (by assumption) ?_
                                          case y5 => intro w hSw; (try dsimp only at hSw); go_simp; (try with_reducible rfl)
                                          (try simp only [Act.put, List.setIfInBounds_toArray, List.set_cons_zero, List.set_cons_succ, List.getElem_toArray, List.getElem_cons_zero, List.getElem_cons_succ])
                                          refine wpAnyH_take (i := 6) (v := ?_) rfl (by kernel_rfl) (by kernel_rfl) (by kernel_rfl) (fun _ _ _ h => h) (Or.inl ⟨by rfl, ?y6⟩) (by assumption) ?_
                                          case y6 => intro w hSw; (try dsimp only at hSw); go_simp; (try with_reducible rfl)
                                          (try simp only [Act.put, List.setIfInBounds_toArray, List.set_cons_zero, List.set_cons_succ, List.getElem_toArray, List.getElem_cons_zero, List.getElem_cons_succ])
                                          refine wpAnyH_take (i := 7) (v := ?_) rfl (by kernel_rfl) (by kernel_rfl) (by kernel_rfl) (fun _ _ _ h => h) (Or.inl ⟨by rfl, ?y7⟩) (by assumption) ?_
                                          case y7 => intro w hSw; (try dsimp only at hSw); go_simp; (try with_reducible rfl)
                                          (try simp only [Act.put, List.setIfInBounds_toArray, List.set_cons_zero, List.set_cons_succ, List.getElem_toArray, List.getElem_cons_zero, List.getElem_cons_succ])
                                          refine wpAnyH_take (i := 8) (v := ?_) rfl (by kernel_rfl) (by kernel_rfl) (by kernel_rfl) (fun _ _ _ h => h) (Or.inl ⟨by rfl, ?y8⟩) (by assumption) ?_
                                          case y8 => intro w hSw; (try dsimp only at hSw); go_simp; (try with_reducible rfl)
                                          (try simp only [Act.put, List.setIfInBounds_toArray, List.set_cons_zero, List.set_cons_succ, List.getElem_toArray, List.getElem_cons_zero, List.getElem_cons_succ])
                                          refine wpAnyH_take (i := 9) (v := ?_) rfl (by kernel_rfl) (by kernel_rfl) (by kernel_rfl) (fun _ _ _ h => h) (Or.inl ⟨by rfl, ?y9⟩) (by assumption) ?_
                                          case y9 => intro w hSw; (try dsimp only at hSw); go_simp; (try with_reducible rfl)
                                          (try simp only [Act.put, List.setIfInBounds_toArray, List.set_cons_zero, List.set_cons_succ, List.getElem_toArray, List.getElem_cons_zero, List.getElem_cons_succ])
                                          refine wpAnyH_take (i := 10) (v := ?_) rfl (by kernel_rfl) (by kernel_rfl) (by kernel_rfl) (fun _ _ _ h => h) (Or.inl ⟨by rfl, ?y10⟩) (by assumption) ?_
                                          case y10 => intro w hSw; (try dsimp only at hSw); go_simp; (try with_reducible rfl)
                                          (try simp only [Act.put, List.setIfInBounds_toArray, List.set_cons_zero, List.set_cons_succ, List.getElem_toArray, List.getElem_cons_zero, List.getElem_cons_succ])
                                          refine wpAnyH_take (i := 11) (v := ?_) rfl (by kernel_rfl) (by kernel_rfl) (by kernel_rfl) (fun _ _ _ h => h) (Or.inl ⟨by rfl, ?y11⟩) (by assumption) ?_
                                          case y11 => intro w hSw; (try dsimp only at hSw); go_simp; (try with_reducible rfl)
                                          (try simp only [Act.put, List.setIfInBounds_toArray, List.set_cons_zero, List.set_cons_succ, List.getElem_toArray, List.getElem_cons_zero, List.getElem_cons_succ])
                                          refine wpAnyH_take (i := 12) (v := ?_) rfl (by kernel_rfl) (by kernel_rfl) (by kernel_rfl) (fun _ _ _ h => h) (Or.inl ⟨by rfl, ?y12⟩) (by assumption) ?_
                                          case y12 => intro w hSw; (try dsimp only at hSw); go_simp; (try with_reducible rfl)
                                          (try simp only [Act.put, List.setIfInBounds_toArray, List.set_cons_zero, List.set_cons_succ, List.getElem_toArray, List.getElem_cons_zero, List.getElem_cons_succ])
                                          refine wpAnyH_take (i := 13) (v := ?_) rfl (by kernel_rfl) (by kernel_rfl) (by kernel_rfl) (fun _ _ _ h => h) (Or.inl ⟨by rfl, ?y13⟩) (by assumption) ?_
                                          case y13 => intro w hSw; (try dsimp only at hSw); go_simp; (try with_reducible rfl)
                                          (try simp only [Act.put, List.setIfInBounds_toArray, List.set_cons_zero, List.set_cons_succ, List.getElem_toArray, List.getElem_cons_zero, List.getElem_cons_succ])
                                          refine wpAnyH_take (i := 14) (v := ?_) rfl (by kernel_rfl) (by kernel_rfl) (by kernel_rfl) (fun _ _ _ h => h) (Or.inl ⟨by rfl, ?y14⟩) (by assumption) ?_
                                          case y14 => intro w hSw; (try dsimp only at hSw); go_simp; (try with_reducible rfl)
                                          (try simp only [Act.put, List.setIfInBounds_toArray, List.set_cons_zero, List.set_cons_succ, List.getElem_toArray, List.getElem_cons_zero, List.getElem_cons_succ])
                                          refine wpAnyH_ready (rs := [15]) (by kernel_rfl) (by simp) ?_
                                          refine AllReadyH.cons rfl (fun K hK => ?_) AllReadyH.nil
                                          go_simp
                                          refine h15.mono ?_; clear h15; rintro e y7 ⟨rfl, hb7⟩
                                          have HB7 := Lib.hid hb7
                                          clear hb7
                                          refine hK.out _ _ (hS.out _ ((Below.refl _ _).drew.trans HB7.out)) (fun hHeld => ?_)
                                          clear hK K
                                          (try simp only [Act.put, List.setIfInBounds_toArray, List.set_cons_zero, List.set_cons_succ, List.getElem_toArray, List.getElem_cons_zero, List.getElem_cons_succ])
                                          refine wpAnyH_done (by kernel_rfl) ?_ _
                                          go_wp2_with fail
                                          go_roundw
                                          · exact ⟨m + 1, HM.out, by go_num, (HBY.out.drew).trans (HB7.out.mono (by have := HBY.out.size; exact this))⟩
                                          · have := HM.out; simp [RowKit.intOf]; omega
                                        · obtain rfl : m = nj := by omega
                                          have d8 : decide ((m : Int) < (m : Int)) = false := decide_eq_false (by omega)
                                          have d8n : decide (m < m) = false := decide_eq_false (by omega)
                                          have HBY := Lib.hid hby
                                          have hjj := HJ.out.2
                                          clear hby hm hlm r2 hjq hc2
                                          go_wp2_with fail
                                          go_roundw
                                          · exact ⟨j + 1, Nat.le_succ_of_le HJ.out.1, HJ.out.2, by go_num, HBY.out⟩
                                          · have := HJ.out.2; simp [RowKit.intOf]; omega
                                    · obtain rfl : j = rs.length := by omega
                                      have d7 : decide ((rs.length : Int) < (rs.length : Int)) = false := decide_eq_false (by omega)
                                      have d7n : decide (rs.length < rs.length) = false := decide_eq_false (by omega)
                                      have HBY := Lib.hid hby
                                      have hkk := HK.out
                                      clear hby hqj hj hlj
                                      go_wp2_with fail
                                      go_roundw
                                      · exact ⟨k + 1, N + 1, HK.out, by go_num, by go_num, by have := HN.out; omega, HBY.out⟩
                                      · have := HK.out; simp [RowKit.intOf]; omega
                                · as_aux_lemma =>
                                  obtain ⟨j, hj⟩ : ∃ j, k = j + 1 := ⟨k - 1, by omega⟩
                                  obtain ⟨b', o', e0, hej⟩ := r1.2 j (by rw [← HNQ.out]; omega)
                                  cases e0
                                  have hp3 := HP3.out j hj
                                  generalize (rAt rs q).getD j 0 = y at *
                                  have hS : Hid (∀ W', Below wr.heap.size wr W' → W'.cell? ⟨g, q, none⟩ = some (.slice (some ⟨b1, o1, none⟩) nq c1) ∧ W'.cell? ⟨b1, o1 + k, none⟩ = some (.int .i64 ((x : Nat) : Int)) ∧ W'.cell? ⟨b1, o1 + j, none⟩ = some (.int .i64 y)) := fun W' q => ⟨(q.cell (World.block_lt_of_cell? _ _ hgq)).trans hgq, (q.cell (World.block_lt_of_cell? _ _ hek)).trans hek, (q.cell (World.block_lt_of_cell? _ _ hej)).trans hej⟩
                                  have dk : decide ((0 : Int) < (k : Int)) = true := decide_eq_true (by omega)
                                  have dkn : decide (0 < k) = true := decide_eq_true (by omega)
                                  have dy : decide (((x : Nat) : Int) ≤ y) = false := decide_eq_false (by omega)
                                  have hsub : IntKind.i64.wrap ((k : Int) - 1) = ((j : Nat) : Int) := by simp [IntKind.wrap, IntKind.signed, IntKind.bits]; omega
                                  have hsub2 : wrap64 ((k : Int) - 1) = ((j : Nat) : Int) := by unfold wrap64; omega
                                  have j0 : (0 : Int) ≤ ((j : Nat) : Int) := by omega
                                  have j1 : ((j : Nat) : Int) < (nq : Int) := by omega
                                  clear hgq hek hej r1 hkk hqq hk0 hj hp3 hc1
                                  go_wp2_with fail
                                  refine wp_region_held_drew (S := fun wz => wz.cell? ⟨g, q, none⟩ = some (.slice (some ⟨b1, o1, none⟩) nq c1) ∧ wz.cell? ⟨b1, o1 + k, none⟩ = some (.int .i64 ((x : Nat) : Int)) ∧ wz.cell? ⟨b1, o1 + j, none⟩ = some (.int .i64 y)) (by kernel_rfl) (hS.out _ (Below.refl _ _).drew) (fun hHeld => ?_)
                                  refine wpAnyH_take (i := 0) (v := ?_) rfl (by kernel_rfl) (by kernel_rfl) (by kernel_rfl) (fun _ _ _ h => h) (Or.inl ⟨by rfl, ?y0⟩) (by assumption) ?_
                                  case y0 => intro w hSw; (try dsimp only at hSw); go_simp; (try with_reducible rfl)
                                  (try simp only [Act.put, List.setIfInBounds_toArray, List.set_cons_zero, List.set_cons_succ, List.getElem_toArray, List.getElem_cons_zero, List.getElem_cons_succ])
                                  refine wpAnyH_take (i := 1) (v := ?_) rfl (by kernel_rfl) (by kernel_rfl) (by kernel_rfl) (fun _ _ _ h => h) (Or.inl ⟨by rfl, ?y1⟩) (by assumption) ?_
                                  case y1 => intro w hSw; (try dsimp only at hSw); go_simp; (try with_reducible rfl)
                                  (try simp only [Act.put, List.setIfInBounds_toArray, List.set_cons_zero, List.set_cons_succ, List.getElem_toArray, List.getElem_cons_zero, List.getElem_cons_succ])
                                  refine wpAnyH_take (i := 2) (v := ?_) rfl (by kernel_rfl) (by kernel_rfl) (by kernel_rfl) (fun _ _ _ h => h) (Or.inl ⟨by rfl, ?y2⟩) (by assumption) ?_
                                  case y2 => intro w hSw; (try dsimp only at hSw); go_simp; (try with_reducible rfl)
                                  (try simp only [Act.put, List.setIfInBounds_toArray, List.set_cons_zero, List.set_cons_succ, List.getElem_toArray, List.getElem_cons_zero, List.getElem_cons_succ])
                                  refine wpAnyH_take (i := 3) (v := ?_) rfl (by kernel_rfl) (by kernel_rfl) (by kernel_rfl) (fun _ _ _ h => h) (Or.inl ⟨by rfl, ?y3⟩) (by assumption) ?_
                                  case y3 => intro w hSw; (try dsimp only at hSw); go_simp; (try with_reducible rfl)
                                  (try simp only [Act.put, List.setIfInBounds_toArray, List.set_cons_zero, List.set_cons_succ, List.getElem_toArray, List.getElem_cons_zero, List.getElem_cons_succ])
                                  refine wpAnyH_take (i := 4) (v := ?_) rfl (by kernel_rfl) (by kernel_rfl) (by kernel_rfl) (fun _ _ _ h => h) (Or.inl ⟨by rfl, ?y4⟩) (by assumption) ?_
                                  case y4 => intro w hSw; (try dsimp only at hSw); go_simp; (try with_reducible rfl)
                                  (try simp only [Act.put, List.setIfInBounds_toArray, List.set_cons_zero, List.set_cons_succ, List.getElem_toArray, List.getElem_cons_zero, List.getElem_cons_succ])
                                  refine wpAnyH_take (i := 5) (v := ?_) rfl (by kernel_rfl) (by kernel_rfl) (by kernel_rfl) (fun _ _ _ h => h) (Or.inl ⟨by rfl, ?y5⟩) (by assumption) ?_
                                  case y5 => intro w hSw; (try dsimp only at hSw); go_simp; (try with_reducible rfl)
                                  (try simp only [Act.put, List.setIfInBounds_toArray, List.set_cons_zero, List.set_cons_succ, List.getElem_toArray, List.getElem_cons_zero, List.getElem_cons_succ])
                                  refine wpAnyH_take (i := 6) (v := ?_) rfl (by kernel_rfl) (by kernel_rfl) (by kernel_rfl) (fun _ _ _ h => h) (Or.inl ⟨by rfl, ?y6⟩) (by assumption) ?_
                                  case y6 => intro w hSw; (try dsimp only at hSw); go_simp; (try with_reducible rfl)
                                  (try simp only [Act.put, List.setIfInBounds_toArray, List.set_cons_zero, List.set_cons_succ, List.getElem_toArray, List.getElem_cons_zero, List.getElem_cons_succ])
                                  refine wpAnyH_take (i := 7) (v := ?_) rfl (by kernel_rfl) (by kernel_rfl) (by kernel_rfl) (fun _ _ _ h => h) (Or.inl ⟨by rfl, ?y7⟩) (by assumption) ?_
                                  case y7 => intro w hSw; (try dsimp only at hSw); go_simp; (try with_reducible rfl)
                                  (try simp only [Act.put, List.setIfInBounds_toArray, List.set_cons_zero, List.set_cons_succ, List.getElem_toArray, List.getElem_cons_zero, List.getElem_cons_succ])
                                  refine wpAnyH_take (i := 8) (v := ?_) rfl (by kernel_rfl) (by kernel_rfl) (by kernel_rfl) (fun _ _ _ h => h) (Or.inl ⟨by rfl, ?y8⟩) (by assumption) ?_
                                  case y8 => intro w hSw; (try dsimp only at hSw); go_simp; (try with_reducible rfl)
                                  (try simp only [Act.put, List.setIfInBounds_toArray, List.set_cons_zero, List.set_cons_succ, List.getElem_toArray, List.getElem_cons_zero, List.getElem_cons_succ])
                                  refine wpAnyH_take (i := 9) (v := ?_) rfl (by kernel_rfl) (by kernel_rfl) (by kernel_rfl) (fun _ _ _ h => h) (Or.inl ⟨by rfl, ?y9⟩) (by assumption) ?_
                                  case y9 => intro w hSw; (try dsimp only at hSw); go_simp; (try with_reducible rfl)
                                  (try simp only [Act.put, List.setIfInBounds_toArray, List.set_cons_zero, List.set_cons_succ, List.getElem_toArray, List.getElem_cons_zero, List.getElem_cons_succ])
                                  refine wpAnyH_take (i := 10) (v := ?_) rfl (by kernel_rfl) (by kernel_rfl) (by kernel_rfl) (fun _ _ _ h => h) (Or.inl ⟨by rfl, ?y10⟩) (by assumption) ?_
                                  case y10 => intro w hSw; (try dsimp only at hSw); go_simp; (try with_reducible rfl)
                                  (try simp only [Act.put, List.setIfInBounds_toArray, List.set_cons_zero, List.set_cons_succ, List.getElem_toArray, List.getElem_cons_zero, List.getElem_cons_succ])
                                  refine wpAnyH_ready (rs := [11]) (by kernel_rfl) (by simp) ?_
                                  refine AllReadyH.cons rfl (fun K hK => ?_) AllReadyH.nil
                                  go_simp
                                  refine h11.mono ?_; clear h11; rintro e y5 ⟨rfl, hy⟩
                                  replace hy := hy.symm
                                  subst hy
                                  refine hK.out _ _ (hS.out _ (Below.refl _ _).drew) (fun hHeld => ?_)
                                  clear hK K
                                  (try simp only [Act.put, List.setIfInBounds_toArray, List.set_cons_zero, List.set_cons_succ, List.getElem_toArray, List.getElem_cons_zero, List.getElem_cons_succ])
                                  refine wpAnyH_take (i := 12) (v := ?_) rfl (by kernel_rfl) (by kernel_rfl) (by kernel_rfl) (fun _ _ _ h => h) (Or.inl ⟨by rfl, ?y12⟩) (by assumption) ?_
                                  case y12 => intro w hSw; (try dsimp only at hSw); go_simp; (try with_reducible rfl)
                                  (try simp only [Act.put, List.setIfInBounds_toArray, List.set_cons_zero, List.set_cons_succ, List.getElem_toArray, List.getElem_cons_zero, List.getElem_cons_succ])
                                  refine wpAnyH_take (i := 13) (v := ?_) rfl (by kernel_rfl) (by kernel_rfl) (by kernel_rfl) (fun _ _ _ h => h) (Or.inl ⟨by rfl, ?y13⟩) (by assumption) ?_
                                  case y13 => intro w hSw; (try dsimp only at hSw); go_simp; (try with_reducible rfl)
                                  (try simp only [Act.put, List.setIfInBounds_toArray, List.set_cons_zero, List.set_cons_succ, List.getElem_toArray, List.getElem_cons_zero, List.getElem_cons_succ])
                                  refine wpAnyH_take (i := 14) (v := ?_) rfl (by kernel_rfl) (by kernel_rfl) (by kernel_rfl) (fun _ _ _ h => h) (Or.inl ⟨by rfl, ?y14⟩) (by assumption) ?_
                                  case y14 => intro w hSw; (try dsimp only at hSw); go_simp; (try with_reducible rfl)
                                  (try simp only [Act.put, List.setIfInBounds_toArray, List.set_cons_zero, List.set_cons_succ, List.getElem_toArray, List.getElem_cons_zero, List.getElem_cons_succ])
                                  refine wpAnyH_take (i := 15) (v := ?_) rfl (by kernel_rfl) (by kernel_rfl) (by kernel_rfl) (fun _ _ _ h => h) (Or.inl ⟨by rfl, ?y15⟩) (by assumption) ?_
                                  case y15 => intro w hSw; (try dsimp only at hSw); go_simp; (try with_reducible rfl)
                                  (try simp only [Act.put, List.setIfInBounds_toArray, List.set_cons_zero, List.set_cons_succ, List.getElem_toArray, List.getElem_cons_zero, List.getElem_cons_succ])
                                  refine wpAnyH_take (i := 16) (v := ?_) rfl (by kernel_rfl) (by kernel_rfl) (by kernel_rfl) (fun _ _ _ h => h) (Or.inl ⟨by rfl, ?y16⟩) (by assumption) ?_
                                  case y16 => intro w hSw; (try dsimp only at hSw); go_simp; (try with_reducible rfl)
                                  (try simp only [Act.put, List.setIfInBounds_toArray, List.set_cons_zero, List.set_cons_succ, List.getElem_toArray, List.getElem_cons_zero, List.getElem_cons_succ])
                                  refine wpAnyH_take (i := 17) (v := ?_) rfl (by kernel_rfl) (by kernel_rfl) (by kernel_rfl) (fun _ _ _ h => h) (Or.inl ⟨by rfl, ?y17⟩) (by assumption) ?_
                                  case y17 => intro w hSw; (try dsimp only at hSw); go_simp; (try with_reducible rfl)
                                  (try simp only [Act.put, List.setIfInBounds_toArray, List.set_cons_zero, List.set_cons_succ, List.getElem_toArray, List.getElem_cons_zero, List.getElem_cons_succ])
                                  refine wpAnyH_take (i := 18) (v := ?_) rfl (by kernel_rfl) (by kernel_rfl) (by kernel_rfl) (fun _ _ _ h => h) (Or.inl ⟨by rfl, ?y18⟩) (by assumption) ?_
                                  case y18 => intro w hSw; (try dsimp only at hSw); go_simp; (try with_reducible rfl)
                                  (try simp only [Act.put, List.setIfInBounds_toArray, List.set_cons_zero, List.set_cons_succ, List.getElem_toArray, List.getElem_cons_zero, List.getElem_cons_succ])
                                  refine wpAnyH_take (i := 19) (v := ?_) rfl (by kernel_rfl) (by kernel_rfl) (by kernel_rfl) (fun _ _ _ h => h) (Or.inl ⟨by rfl, ?y19⟩) (by assumption) ?_
                                  case y19 => intro w hSw; (try dsimp only at hSw); go_simp; (try with_reducible rfl)
                                  (try simp only [Act.put, List.setIfInBounds_toArray, List.set_cons_zero, List.set_cons_succ, List.getElem_toArray, List.getElem_cons_zero, List.getElem_cons_succ])
                                  refine wpAnyH_take (i := 20) (v := ?_) rfl (by kernel_rfl) (by kernel_rfl) (by kernel_rfl) (fun _ _ _ h => h) (Or.inl ⟨by rfl, ?y20⟩) (by assumption) ?_
                                  case y20 => intro w hSw; (try dsimp only at hSw); go_simp; (try with_reducible rfl)
                                  (try simp only [Act.put, List.setIfInBounds_toArray, List.set_cons_zero, List.set_cons_succ, List.getElem_toArray, List.getElem_cons_zero, List.getElem_cons_succ])
                                  refine wpAnyH_take (i := 21) (v := ?_) rfl (by kernel_rfl) (by kernel_rfl) (by kernel_rfl) (fun _ _ _ h => h) (Or.inl ⟨by rfl, ?y21⟩) (by assumption) ?_
                                  case y21 => intro w hSw; (try dsimp only at hSw); go_simp; (try with_reducible rfl)
                                  (try simp only [Act.put, List.setIfInBounds_toArray, List.set_cons_zero, List.set_cons_succ, List.getElem_toArray, List.getElem_cons_zero, List.getElem_cons_succ])
                                  refine wpAnyH_take (i := 22) (v := ?_) rfl (by kernel_rfl) (by kernel_rfl) (by kernel_rfl) (fun _ _ _ h => h) (Or.inl ⟨by rfl, ?y22⟩) (by assumption) ?_
                                  case y22 => intro w hSw; (try dsimp only at hSw); go_simp; (try with_reducible rfl)
                                  (try simp only [Act.put, List.setIfInBounds_toArray, List.set_cons_zero, List.set_cons_succ, List.getElem_toArray, List.getElem_cons_zero, List.getElem_cons_succ])
                                  refine wpAnyH_take (i := 23) (v := ?_) rfl (by kernel_rfl) (by kernel_rfl) (by kernel_rfl) (fun _ _ _ h => h) (Or.inl ⟨by rfl, ?y23⟩) (by assumption) ?_
                                  case y23 => intro w hSw; (try dsimp only at hSw); go_simp; (try with_reducible rfl)
                                  (try simp only [Act.put, List.setIfInBounds_toArray, List.set_cons_zero, List.set_cons_succ, List.getElem_toArray, List.getElem_cons_zero, List.getElem_cons_succ])
                                  refine wpAnyH_take (i := 24) (v := ?_) rfl (by kernel_rfl) (by kernel_rfl) (by kernel_rfl) (fun _ _ _ h => h) (Or.inl ⟨by rfl, ?y24⟩) (by assumption) ?_
                                  case y24 => intro w hSw; (try dsimp only at hSw); go_simp; (try with_reducible rfl)
                                  (try simp only [Act.put, List.setIfInBounds_toArray, List.set_cons_zero, List.set_cons_succ, List.getElem_toArray, List.getElem_cons_zero, List.getElem_cons_succ])
                                  refine wpAnyH_take (i := 25) (v := ?_) rfl (by kernel_rfl) (by kernel_rfl) (by kernel_rfl) (fun _ _ _ h => h) (Or.inl ⟨by rfl, ?y25⟩) (by assumption) ?_
                                  case y25 => intro w hSw; (try dsimp only at hSw); go_simp; (try with_reducible rfl)
                                  (try simp only [Act.put, List.setIfInBounds_toArray, List.set_cons_zero, List.set_cons_succ, List.getElem_toArray, List.getElem_cons_zero, List.getElem_cons_succ])
                                  refine wpAnyH_take (i := 26) (v := ?_) rfl (by kernel_rfl) (by kernel_rfl) (by kernel_rfl) (fun _ _ _ h => h) (Or.inl ⟨by rfl, ?y26⟩) (by assumption) ?_
                                  case y26 => intro w hSw; (try dsimp only at hSw); go_simp; (try with_reducible rfl)
                                  (try simp only [Act.put, List.setIfInBounds_toArray, List.set_cons_zero, List.set_cons_succ, List.getElem_toArray, List.getElem_cons_zero, List.getElem_cons_succ])
                                  refine wpAnyH_take (i := 27) (v := ?_) rfl (by kernel_rfl) (by kernel_rfl) (by kernel_rfl) (fun _ _ _ h => h) (Or.inl ⟨by rfl, ?y27⟩) (by assumption) ?_
                                  case y27 => intro w hSw; (try dsimp only at hSw); go_simp; (try with_reducible rfl)
                                  (try simp only [Act.put, List.setIfInBounds_toArray, List.set_cons_zero, List.set_cons_succ, List.getElem_toArray, List.getElem_cons_zero, List.getElem_cons_succ])
                                  refine wpAnyH_take (i := 28) (v := ?_) rfl (by kernel_rfl) (by kernel_rfl) (by kernel_rfl) (fun _ _ _ h => h) (Or.inl ⟨by rfl, ?y28⟩) (by assumption) ?_
                                  case y28 => intro w hSw; (try dsimp only at hSw); go_simp; (try with_reducible rfl)
                                  (try simp only [Act.put, List.setIfInBounds_toArray, List.set_cons_zero, List.set_cons_succ, List.getElem_toArray, List.getElem_cons_zero, List.getElem_cons_succ])
                                  refine wpAnyH_take (i := 29) (v := ?_) rfl (by kernel_rfl) (by kernel_rfl) (by kernel_rfl) (fun _ _ _ h => h) (Or.inl ⟨by rfl, ?y29⟩) (by assumption) ?_
                                  case y29 => intro w hSw; (try dsimp only at hSw); go_simp; (try with_reducible rfl)
                                  (try simp only [Act.put, List.setIfInBounds_toArray, List.set_cons_zero, List.set_cons_succ, List.getElem_toArray, List.getElem_cons_zero, List.getElem_cons_succ])
                                  refine wpAnyH_take (i := 30) (v := ?_) rfl (by kernel_rfl) (by kernel_rfl) (by kernel_rfl) (fun _ _ _ h => h) (Or.inl ⟨by rfl, ?y30⟩) (by assumption) ?_
                                  case y30 => intro w hSw; (try dsimp only at hSw); go_simp; (try with_reducible rfl)
                                  (try simp only [Act.put, List.setIfInBounds_toArray, List.set_cons_zero, List.set_cons_succ, List.getElem_toArray, List.getElem_cons_zero, List.getElem_cons_succ])
                                  refine wpAnyH_take (i := 31) (v := ?_) rfl (by kernel_rfl) (by kernel_rfl) (by kernel_rfl) (fun _ _ _ h => h) (Or.inl ⟨by rfl, ?y31⟩) (by assumption) ?_
                                  case y31 => intro w hSw; (try dsimp only at hSw); go_simp; (try with_reducible rfl)
                                  (try simp only [Act.put, List.setIfInBounds_toArray, List.set_cons_zero, List.set_cons_succ, List.getElem_toArray, List.getElem_cons_zero, List.getElem_cons_succ])
                                  refine wpAnyH_take (i := 32) (v := ?_) rfl (by kernel_rfl) (by kernel_rfl) (by kernel_rfl) (fun _ _ _ h => h) (Or.inl ⟨by rfl, ?y32⟩) (by assumption) ?_
                                  case y32 => intro w hSw; (try dsimp only at hSw); go_simp; (try with_reducible rfl)
                                  (try simp only [Act.put, List.setIfInBounds_toArray, List.set_cons_zero, List.set_cons_succ, List.getElem_toArray, List.getElem_cons_zero, List.getElem_cons_succ])
                                  refine wpAnyH_take (i := 33) (v := ?_) rfl (by kernel_rfl) (by kernel_rfl) (by kernel_rfl) (fun _ _ _ h => h) (Or.inl ⟨by rfl, ?y33⟩) (by assumption) ?_
                                  case y33 => intro w hSw; (try dsimp only at hSw); go_simp; (try with_reducible rfl)
                                  (try simp only [Act.put, List.setIfInBounds_toArray, List.set_cons_zero, List.set_cons_succ, List.getElem_toArray, List.getElem_cons_zero, List.getElem_cons_succ])
                                  refine wpAnyH_take (i := 34) (v := ?_) rfl (by kernel_rfl) (by kernel_rfl) (by kernel_rfl) (fun _ _ _ h => h) (Or.inl ⟨by rfl, ?y34⟩) (by assumption) ?_
                                  case y34 => intro w hSw; (try dsimp only at hSw); go_simp; (try with_reducible rfl)
                                  (try simp only [Act.put, List.setIfInBounds_toArray, List.set_cons_zero, List.set_cons_succ, List.getElem_toArray, List.getElem_cons_zero, List.getElem_cons_succ])
                                  refine wpAnyH_take (i := 35) (v := ?_) rfl (by kernel_rfl) (by kernel_rfl) (by kernel_rfl) (fun _ _ _ h => h) (Or.inl ⟨by rfl, ?y35⟩) (by assumption) ?_
                                  case y35 => intro w hSw; (try dsimp only at hSw); go_simp; (try with_reducible rfl)
                                  (try simp only [Act.put, List.setIfInBounds_toArray, List.set_cons_zero, List.set_cons_succ, List.getElem_toArray, List.getElem_cons_zero, List.getElem_cons_succ])
                                  refine wpAnyH_done (by kernel_rfl) ?_ _
                                  clear q0 q1 k0 k1 j0 j1 dk dkn dy hsub hsub2 hS
                                  have HBY := Lib.hid HBY.out.drew
                                  go_wp2_with fail
                                  go_loopw [22] (fun i wr => ∃ j : Nat, q ≤ j ∧ j ≤ rs.length ∧ i = .int .i64 (j : Int) ∧ Below w5.heap.size w5 wr) (fun i _ => rs.length - (RowKit.intOf i).toNat)
                                  case atStart => exact ⟨q, Nat.le_refl _, Nat.le_of_lt HQ.out, rfl, HBY.out⟩
                                  case round => as_aux_lemma =>
                                    clear HBY
                                    obtain ⟨j, hqj, hj, rfl, hby⟩ := hrel
                                    by_cases hlj : j < rs.length
                                    · obtain ⟨nj, hnj⟩ : ∃ nj, nj = (rAt rs j).length := ⟨_, rfl⟩
                                      have HNJ := Lib.hid hnj
                                      have HJ := Lib.hid (And.intro hqj hlj)
                                      have hnj6 : nj ≤ 20000 := by rw [hnj]; exact HRL.out j hlj
                                      have d7 : decide ((j : Int) < (rs.length : Int)) = true := decide_eq_true (by omega)
                                      have d7n : decide (j < rs.length) = true := decide_eq_true (by omega)
                                      have HBY := Lib.hid hby
                                      clear hby hqj hj hlj hnj
                                      go_wp2_with fail
                                      clear d7 d7n
                                      go_loopw [23] (fun i wr => ∃ m : Nat, m ≤ nj ∧ i = .int .i64 (m : Int) ∧ Below w5.heap.size w5 wr) (fun i _ => nj - (RowKit.intOf i).toNat)
                                      case atStart => exact ⟨0, Nat.zero_le _, rfl, HBY.out⟩
                                      case round => as_aux_lemma =>
                                        clear HBY
                                        obtain ⟨m, hm, rfl, hby⟩ := hrel
                                        obtain ⟨a2, c2, hgj, hc2, r2⟩ := row_el (HRW.out.below hby) HJ.out.2
                                        rw [← HNJ.out] at hgj
                                        have hjq := HJ.out.2
                                        have j0 : (0 : Int) ≤ (j : Int) := by omega
                                        have j1 : (j : Int) < (rs.length : Int) := by omega
                                        by_cases hlm : m < nj
                                        · obtain ⟨a1, c1, hgq, hc1, r1⟩ := row_el (HRW.out.below hby) HQ.out
                                          rw [← HNQ.out] at hgq
                                          obtain ⟨b1, o1, rfl, hek⟩ := r1.2 k (by rw [← HNQ.out]; exact HK.out)
                                          obtain ⟨b2, o2, rfl, hem⟩ := r2.2 m (by rw [← HNJ.out]; exact hlm)
                                          rw [HX.out] at hek
                                          have hb3 := HB5.out.trans (hby.mono HB5.out.size)
                                          have h15 := has_o ((HG.out.below hb3.drew).s) ((x : Nat) : Int) ((rAt rs j).getD m 0) (by unfold InR; omega)
                                          rw [HP4.out j HJ.out.1 HJ.out.2 m (by rw [← HNJ.out]; exact hlm)] at h15
                                          generalize (rAt rs j).getD m 0 = y at *
                                          have hkk := HK.out
                                          have hqq := HQ.out
                                          have q0 : (0 : Int) ≤ (q : Int) := by omega
                                          have q1 : (q : Int) < (rs.length : Int) := by omega
                                          have k0 : (0 : Int) ≤ (k : Int) := by omega
                                          have k1 : (k : Int) < (nq : Int) := by omega
                                          have m0 : (0 : Int) ≤ (m : Int) := by omega
                                          have m1 : (m : Int) < (nj : Int) := by omega
                                          have d8 : decide ((m : Int) < (nj : Int)) = true := decide_eq_true (by omega)
                                          have d8n : decide (m < nj) = true := decide_eq_true (by omega)
                                          have hS : Hid (∀ W', Below wr.heap.size wr W' → W'.cell? ⟨g, q, none⟩ = some (.slice (some ⟨b1, o1, none⟩) nq c1) ∧ W'.cell? ⟨b1, o1 + k, none⟩ = some (.int .i64 ((x : Nat) : Int)) ∧ W'.cell? ⟨g, j, none⟩ = some (.slice (some ⟨b2, o2, none⟩) nj c2) ∧ W'.cell? ⟨b2, o2 + m, none⟩ = some (.int .i64 y)) := fun W' q => ⟨(q.cell (World.block_lt_of_cell? _ _ hgq)).trans hgq, (q.cell (World.block_lt_of_cell? _ _ hek)).trans hek, (q.cell (World.block_lt_of_cell? _ _ hgj)).trans hgj, (q.cell (World.block_lt_of_cell? _ _ hem)).trans hem⟩
                                          have HBY := Lib.hid hby
                                          have HM := Lib.hid hlm
                                          clear hgq hek hem hby hb3 hjq hm hlm r1 r2 hkk hqq hc1 hc2
                                          go_wp2_with fail
                                          refine wp_region_held_drew (S := fun wz => wz.cell? ⟨g, q, none⟩ = some (.slice (some ⟨b1, o1, none⟩) nq c1) ∧ wz.cell? ⟨b1, o1 + k, none⟩ = some (.int .i64 ((x : Nat) : Int)) ∧ wz.cell? ⟨g, j, none⟩ = some (.slice (some ⟨b2, o2, none⟩) nj c2) ∧ wz.cell? ⟨b2, o2 + m, none⟩ = some (.int .i64 y)) (by kernel_rfl) (hS.out _ (Below.refl _ _).drew) (fun hHeld => ?_)
                                          refine wpAnyH_take (i := 0) (v := ?_) rfl (by kernel_rfl) (by kernel_rfl) (by kernel_rfl) (fun _ _ _ h => h) (Or.inl ⟨by rfl, ?y0⟩) (by assumption) ?_
                                          case y0 => intro w hSw; (try dsimp only at hSw); go_simp; (try with_reducible rfl)
                                          (try simp only [Act.put, List.setIfInBounds_toArray, List.set_cons_zero, List.set_cons_succ, List.getElem_toArray, List.getElem_cons_zero, List.getElem_cons_succ])
                                          refine wpAnyH_take (i := 1) (v := ?_) rfl (by kernel_rfl) (by kernel_rfl) (by kernel_rfl) (fun _ _ _ h => h) (Or.inl ⟨by rfl, ?y1⟩) (by assumption) ?_
                                          case y1 => intro w hSw; (try dsimp only at hSw); go_simp; (try with_reducible rfl)
                                          (try simp only [Act.put, List.setIfInBounds_toArray, List.set_cons_zero, List.set_cons_succ, List.getElem_toArray, List.getElem_cons_zero, List.getElem_cons_succ])
                                          refine wpAnyH_take (i := 2) (v := ?_) rfl (by kernel_rfl) (by kernel_rfl) (by kernel_rfl) (fun _ _ _ h => h) (Or.inl ⟨by rfl, ?y2⟩) (by assumption) ?_
                                          case y2 => intro w hSw; (try dsimp only at hSw); go_simp; (try with_reducible rfl)
                                          (try simp only [Act.put, List.setIfInBounds_toArray, List.set_cons_zero, List.set_cons_succ, List.getElem_toArray, List.getElem_cons_zero, List.getElem_cons_succ])
                                          refine wpAnyH_take (i := 3) (v := ?_) rfl (by kernel_rfl) (by kernel_rfl) (by kernel_rfl) (fun _ _ _ h => h) (Or.inl ⟨by rfl, ?y3⟩) (by assumption) ?_
                                          case y3 => intro w hSw; (try dsimp only at hSw); go_simp; (try with_reducible rfl)
                                          (try simp only [Act.put, List.setIfInBounds_toArray, List.set_cons_zero, List.set_cons_succ, List.getElem_toArray, List.getElem_cons_zero, List.getElem_cons_succ])
                                          refine wpAnyH_take (i := 4) (v := ?_) rfl (by kernel_rfl) (by kernel_rfl) (by kernel_rfl) (fun _ _ _ h => h) (Or.inl ⟨by rfl, ?y4⟩) (by assumption) ?_
                                          case y4 => intro w hSw; (try dsimp only at hSw); go_simp; (try with_reducible rfl)
                                          (try simp only [Act.put, List.setIfInBounds_toArray, List.set_cons_zero, List.set_cons_succ, List.getElem_toArray, List.getElem_cons_zero, List.getElem_cons_succ])
                                          refine wpAnyH_take (i := 5) (v := ?_) rfl (by kernel_rfl) (by kernel_rfl) (by kernel_rfl) (fun _ _ _ h => h) (Or.inl ⟨by rfl, ?y5⟩) (by assumption) ?_
                                          case y5 => intro w hSw; (try dsimp only at hSw); go_simp; (try with_reducible rfl)
                                          (try simp only [Act.put, List.setIfInBounds_toArray, List.set_cons_zero, List.set_cons_succ, List.getElem_toArray, List.getElem_cons_zero, List.getElem_cons_succ])
                                          refine wpAnyH_take (i := 6) (v := ?_) rfl (by kernel_rfl) (by kernel_rfl) (by kernel_rfl) (fun _ _ _ h => h) (Or.inl ⟨by rfl, ?y6⟩) (by assumption) ?_
                                          case y6 => intro w hSw; (try dsimp only at hSw); go_simp; (try with_reducible rfl)
                                          (try simp only [Act.put, List.setIfInBounds_toArray, List.set_cons_zero, List.set_cons_succ, List.getElem_toArray, List.getElem_cons_zero, List.getElem_cons_succ])
                                          refine wpAnyH_take (i := 7) (v := ?_) rfl (by kernel_rfl) (by kernel_rfl) (by kernel_rfl) (fun _ _ _ h => h) (Or.inl ⟨by rfl, ?y7⟩) (by assumption) ?_
                                          case y7 => intro w hSw; (try dsimp only at hSw); go_simp; (try with_reducible rfl)
                                          (try simp only [Act.put, List.setIfInBounds_toArray, List.set_cons_zero, List.set_cons_succ, List.getElem_toArray, List.getElem_cons_zero, List.getElem_cons_succ])
                                          refine wpAnyH_take (i := 8) (v := ?_) rfl (by kernel_rfl) (by kernel_rfl) (by kernel_rfl) (fun _ _ _ h => h) (Or.inl ⟨by rfl, ?y8⟩) (by assumption) ?_
                                          case y8 => intro w hSw; (try dsimp only at hSw); go_simp; (try with_reducible rfl)
                                          (try simp only [Act.put, List.setIfInBounds_toArray, List.set_cons_zero, List.set_cons_succ, List.getElem_toArray, List.getElem_cons_zero, List.getElem_cons_succ])
                                          refine wpAnyH_take (i := 9) (v := ?_) rfl (by kernel_rfl) (by kernel_rfl) (by kernel_rfl) (fun _ _ _ h => h) (Or.inl ⟨by rfl, ?y9⟩) (by assumption) ?_
                                          case y9 => intro w hSw; (try dsimp only at hSw); go_simp; (try with_reducible rfl)
                                          (try simp only [Act.put, List.setIfInBounds_toArray, List.set_cons_zero, List.set_cons_succ, List.getElem_toArray, List.getElem_cons_zero, List.getElem_cons_succ])
                                          refine wpAnyH_take (i := 10) (v := ?_) rfl (by kernel_rfl) (by kernel_rfl) (by kernel_rfl) (fun _ _ _ h => h) (Or.inl ⟨by rfl, ?y10⟩) (by assumption) ?_
                                          case y10 => intro w hSw; (try dsimp only at hSw); go_simp; (try with_reducible rfl)
                                          (try simp only [Act.put, List.setIfInBounds_toArray, List.set_cons_zero, List.set_cons_succ, List.getElem_toArray, List.getElem_cons_zero, List.getElem_cons_succ])
                                          refine wpAnyH_take (i := 11) (v := ?_) rfl (by kernel_rfl) (by kernel_rfl) (by kernel_rfl) (fun _ _ _ h => h) (Or.inl ⟨by rfl, ?y11⟩) (by assumption) ?_
                                          case y11 => intro w hSw; (try dsimp only at hSw); go_simp; (try with_reducible rfl)
                                          (try simp only [Act.put, List.setIfInBounds_toArray, List.set_cons_zero, List.set_cons_succ, List.getElem_toArray, List.getElem_cons_zero, List.getElem_cons_succ])
                                          refine wpAnyH_take (i := 12) (v := ?_) rfl (by kernel_rfl) (by kernel_rfl) (by kernel_rfl) (fun _ _ _ h => h) (Or.inl ⟨by rfl, ?y12⟩) (by assumption) ?_
                                          case y12 => intro w hSw; (try dsimp only at hSw); go_simp; (try with_reducible rfl)
                                          (try simp only [Act.put, List.setIfInBounds_toArray, List.set_cons_zero, List.set_cons_succ, List.getElem_toArray, List.getElem_cons_zero, List.getElem_cons_succ])
                                          refine wpAnyH_take (i := 13) (v := ?_) rfl (by kernel_rfl) (by kernel_rfl) (by kernel_rfl) (fun _ _ _ h => h) (Or.inl ⟨by rfl, ?y13⟩) (by assumption) ?_
                                          case y13 => intro w hSw; (try dsimp only at hSw); go_simp; (try with_reducible rfl)
                                          (try simp only [Act.put, List.setIfInBounds_toArray, List.set_cons_zero, List.set_cons_succ, List.getElem_toArray, List.getElem_cons_zero, List.getElem_cons_succ])
                                          refine wpAnyH_take (i := 14) (v := ?_) rfl (by kernel_rfl) (by kernel_rfl) (by kernel_rfl) (fun _ _ _ h => h) (Or.inl ⟨by rfl, ?y14⟩) (by assumption) ?_
                                          case y14 => intro w hSw; (try dsimp only at hSw); go_simp; (try with_reducible rfl)
                                          (try simp only [Act.put, List.setIfInBounds_toArray, List.set_cons_zero, List.set_cons_succ, List.getElem_toArray, List.getElem_cons_zero, List.getElem_cons_succ])
                                          refine wpAnyH_ready (rs := [15]) (by kernel_rfl) (by simp) ?_
                                          refine AllReadyH.cons rfl (fun K hK => ?_) AllReadyH.nil
                                          go_simp
                                          refine h15.mono ?_; clear h15; rintro e y7 ⟨rfl, hb7⟩
                                          have HB7 := Lib.hid hb7
                                          clear hb7
                                          refine hK.out _ _ (hS.out _ ((Below.refl _ _).drew.trans HB7.out)) (fun hHeld => ?_)
                                          clear hK K
                                          (try simp only [Act.put, List.setIfInBounds_toArray, List.set_cons_zero, List.set_cons_succ, List.getElem_toArray, List.getElem_cons_zero, List.getElem_cons_succ])
                                          refine wpAnyH_done (by kernel_rfl) ?_ _
                                          go_wp2_with fail
                                          go_roundw
                                          · exact ⟨m + 1, HM.out, by go_num, (HBY.out.drew).trans (HB7.out.mono (by have := HBY.out.size; exact this))⟩
                                          · have := HM.out; simp [RowKit.intOf]; omega
                                        · obtain rfl : m = nj := by omega
                                          have d8 : decide ((m : Int) < (m : Int)) = false := decide_eq_false (by omega)
                                          have d8n : decide (m < m) = false := decide_eq_false (by omega)
                                          have HBY := Lib.hid hby
                                          have hjj := HJ.out.2
                                          clear hby hm hlm r2 hjq hc2
                                          go_wp2_with fail
                                          go_roundw
                                          · exact ⟨j + 1, Nat.le_succ_of_le HJ.out.1, HJ.out.2, by go_num, HBY.out⟩
                                          · have := HJ.out.2; simp [RowKit.intOf]; omega
                                    · obtain rfl : j = rs.length := by omega
                                      have d7 : decide ((rs.length : Int) < (rs.length : Int)) = false := decide_eq_false (by omega)
                                      have d7n : decide (rs.length < rs.length) = false := decide_eq_false (by omega)
                                      have HBY := Lib.hid hby
                                      have hkk := HK.out
                                      clear hby hqj hj hlj
                                      go_wp2_with fail
                                      go_roundw
                                      · exact ⟨k + 1, N + 1, HK.out, by go_num, by go_num, by have := HN.out; omega, HBY.out⟩
                                      · have := HK.out; simp [RowKit.intOf]; omega
                            · as_aux_lemma =>
                              obtain ⟨p, hp⟩ : ∃ p, q = p + 1 := ⟨q - 1, by omega⟩
                              have dq1 : ((q : Int) == 0) = false := by simp [hq0]
                              have dq2 : (q == 0) = false := by simp [hq0]
                              have dq3 : decide (q = 0) = false := decide_eq_false hq0
                              have HPQ := Lib.hid hp
                              obtain ⟨np, hnp⟩ : ∃ np, np = (rAt rs p).length := ⟨_, rfl⟩
                              have HNP := Lib.hid hnp
                              have hnp6 : np ≤ 20000 := by rw [hnp]; exact HRL.out p (by have := HQ.out; omega)
                              have HRJ := Lib.hid (rdj_step R ((x : Nat) : Int) (rAt rs p))
                              have HRE : Hid (rdj R ((x : Nat) : Int) (rAt rs p) np = true) := by
                                obtain ⟨t, h1, h2⟩ := HP2.out p hp
                                rw [hnp]; exact rdj_all h1 h2
                              clear hq0 hp hnp
                              go_wp2_with fail
                              clear d5 d5n dq1 dq2 dq3
                              go_loopw [20, 21] (fun b i wr => ∃ t : Nat, t ≤ np ∧ i = .int .i64 (t : Int) ∧ b = .bool (rdj R ((x : Nat) : Int) (rAt rs p) t) ∧ Below w5.heap.size w5 wr) (fun _ i _ => np - (RowKit.intOf i).toNat)
                              case atStart => exact ⟨0, Nat.zero_le _, rfl, rfl, HBY.out⟩
                              case round =>
                                clear HBY
                                obtain ⟨t, ht, rfl, rfl, hby⟩ := hrel
                                have hqq := HQ.out
                                have hpq := HPQ.out
                                have hq20 := HR20.out
                                obtain ⟨a2, c2, hgp, hc2, r2⟩ := row_el (HRW.out.below hby) (q := p) (by omega)
                                rw [← HNP.out] at hgp
                                have hsub : IntKind.i64.wrap ((q : Int) - 1) = ((p : Nat) : Int) := by simp [IntKind.wrap, IntKind.signed, IntKind.bits]; omega
                                have hsub2 : wrap64 ((q : Int) - 1) = ((p : Nat) : Int) := by unfold wrap64; omega
                                have g0 : (0 : Int) ≤ ((p : Nat) : Int) := by omega
                                have g1 : ((p : Nat) : Int) < (rs.length : Int) := by omega
                                have dq4 : decide ((0 : Int) < (q : Int)) = true := decide_eq_true (by omega)
                                have dq4n : decide (0 < q) = true := decide_eq_true (by omega)
                                by_cases hlt : t < np
                                · obtain ⟨a1, c1, hgq, hc1, r1⟩ := row_el (HRW.out.below hby) HQ.out
                                  rw [← HNQ.out] at hgq
                                  obtain ⟨b1, o1, rfl, hek⟩ := r1.2 k (by rw [← HNQ.out]; exact HK.out)
                                  obtain ⟨b2, o2, rfl, het⟩ := r2.2 t (by rw [← HNP.out]; exact hlt)
                                  rw [HX.out] at hek
                                  have hb3 := HB5.out.trans (hby.mono HB5.out.size)
                                  have h18 := has_o ((HG.out.below hb3.drew).s) ((x : Nat) : Int) ((rAt rs p).getD t 0) (by unfold InR; omega)
                                  have hst := HRJ.out t
                                  generalize (rAt rs p).getD t 0 = y at *
                                  obtain ⟨v0, hv0⟩ : ∃ v0, v0 = rdj R ((x : Nat) : Int) (rAt rs p) t := ⟨_, rfl⟩
                                  obtain ⟨v1, hv1⟩ : ∃ v1, v1 = ghas R ((x : Nat) : Int) y := ⟨_, rfl⟩
                                  rw [← hv0]
                                  rw [← hv1] at h18
                                  rw [← hv0, ← hv1] at hst
                                  have HST := Lib.hid hst
                                  have hkk := HK.out
                                  have q0 : (0 : Int) ≤ (q : Int) := by omega
                                  have q1 : (q : Int) < (rs.length : Int) := by omega
                                  have k0 : (0 : Int) ≤ (k : Int) := by omega
                                  have k1 : (k : Int) < (nq : Int) := by omega
                                  have t0 : (0 : Int) ≤ (t : Int) := by omega
                                  have t1 : (t : Int) < (np : Int) := by omega
                                  have d6 : decide ((t : Int) < (np : Int)) = true := decide_eq_true (by omega)
                                  have d6n : decide (t < np) = true := decide_eq_true (by omega)
                                  have HBY := Lib.hid hby
                                  have HT := Lib.hid hlt
                                  cases v0 with
                                  | true => as_aux_lemma =>
                                    have hS : Hid (∀ W', Below wr.heap.size wr W' → W'.cell? ⟨g, p, none⟩ = some (.slice (some ⟨b2, o2, none⟩) np c2)) := fun W' q => (q.cell (World.block_lt_of_cell? _ _ hgp)).trans hgp
                                    clear hgq hek het hby hb3 r1 r2 hkk hqq hpq ht hlt hv0 hv1 hst h18 hc1 hc2
                                    go_wp2_with fail
                                    refine wp_region_held_drew (S := fun wz => wz.cell? ⟨g, p, none⟩ = some (.slice (some ⟨b2, o2, none⟩) np c2)) (by kernel_rfl) (hS.out _ (Below.refl _ _).drew) (fun hHeld => ?_)
                                    refine wpAnyH_take (i := 0) (v := ?_) rfl (by kernel_rfl) (by kernel_rfl) (by kernel_rfl) (fun _ _ _ h => h) (Or.inl ⟨by rfl, ?y0⟩) (by assumption) ?_
                                    case y0 => intro w hSw; (try dsimp only at hSw); go_simp; (try with_reducible rfl)
                                    (try simp only [Act.put, List.setIfInBounds_toArray, List.set_cons_zero, List.set_cons_succ, List.getElem_toArray, List.getElem_cons_zero, List.getElem_cons_succ])
                                    refine wpAnyH_take (i := 1) (v := ?_) rfl (by kernel_rfl) (by kernel_rfl) (by kernel_rfl) (fun _ _ _ h => h) (Or.inl ⟨by rfl, ?y1⟩) (by assumption) ?_
                                    case y1 => intro w hSw; (try dsimp only at hSw); go_simp; (try with_reducible rfl)
                                    (try simp only [Act.put, List.setIfInBounds_toArray, List.set_cons_zero, List.set_cons_succ, List.getElem_toArray, List.getElem_cons_zero, List.getElem_cons_succ])
                                    refine wpAnyH_take (i := 2) (v := undef) rfl (by kernel_rfl) (by kernel_rfl) (by kernel_rfl) (fun _ _ _ h => h) (Or.inr ⟨by rfl, rfl⟩) (by assumption) ?_
                                    (try simp only [Act.put, List.setIfInBounds_toArray, List.set_cons_zero, List.set_cons_succ, List.getElem_toArray, List.getElem_cons_zero, List.getElem_cons_succ])
                                    refine wpAnyH_take (i := 3) (v := undef) rfl (by kernel_rfl) (by kernel_rfl) (by kernel_rfl) (fun _ _ _ h => h) (Or.inr ⟨by rfl, rfl⟩) (by assumption) ?_
                                    (try simp only [Act.put, List.setIfInBounds_toArray, List.set_cons_zero, List.set_cons_succ, List.getElem_toArray, List.getElem_cons_zero, List.getElem_cons_succ])
                                    refine wpAnyH_take (i := 4) (v := undef) rfl (by kernel_rfl) (by kernel_rfl) (by kernel_rfl) (fun _ _ _ h => h) (Or.inr ⟨by rfl, rfl⟩) (by assumption) ?_
                                    (try simp only [Act.put, List.setIfInBounds_toArray, List.set_cons_zero, List.set_cons_succ, List.getElem_toArray, List.getElem_cons_zero, List.getElem_cons_succ])
                                    refine wpAnyH_take (i := 5) (v := undef) rfl (by kernel_rfl) (by kernel_rfl) (by kernel_rfl) (fun _ _ _ h => h) (Or.inr ⟨by rfl, rfl⟩) (by assumption) ?_
                                    (try simp only [Act.put, List.setIfInBounds_toArray, List.set_cons_zero, List.set_cons_succ, List.getElem_toArray, List.getElem_cons_zero, List.getElem_cons_succ])
                                    refine wpAnyH_take (i := 6) (v := undef) rfl (by kernel_rfl) (by kernel_rfl) (by kernel_rfl) (fun _ _ _ h => h) (Or.inr ⟨by rfl, rfl⟩) (by assumption) ?_
                                    (try simp only [Act.put, List.setIfInBounds_toArray, List.set_cons_zero, List.set_cons_succ, List.getElem_toArray, List.getElem_cons_zero, List.getElem_cons_succ])
                                    refine wpAnyH_take (i := 7) (v := undef) rfl (by kernel_rfl) (by kernel_rfl) (by kernel_rfl) (fun _ _ _ h => h) (Or.inr ⟨by rfl, rfl⟩) (by assumption) ?_
                                    (try simp only [Act.put, List.setIfInBounds_toArray, List.set_cons_zero, List.set_cons_succ, List.getElem_toArray, List.getElem_cons_zero, List.getElem_cons_succ])
                                    refine wpAnyH_take (i := 8) (v := undef) rfl (by kernel_rfl) (by kernel_rfl) (by kernel_rfl) (fun _ _ _ h => h) (Or.inr ⟨by rfl, rfl⟩) (by assumption) ?_
                                    (try simp only [Act.put, List.setIfInBounds_toArray, List.set_cons_zero, List.set_cons_succ, List.getElem_toArray, List.getElem_cons_zero, List.getElem_cons_succ])
                                    refine wpAnyH_take (i := 9) (v := undef) rfl (by kernel_rfl) (by kernel_rfl) (by kernel_rfl) (fun _ _ _ h => h) (Or.inr ⟨by rfl, rfl⟩) (by assumption) ?_
                                    (try simp only [Act.put, List.setIfInBounds_toArray, List.set_cons_zero, List.set_cons_succ, List.getElem_toArray, List.getElem_cons_zero, List.getElem_cons_succ])
                                    refine wpAnyH_take (i := 10) (v := undef) rfl (by kernel_rfl) (by kernel_rfl) (by kernel_rfl) (fun _ _ _ h => h) (Or.inr ⟨by rfl, rfl⟩) (by assumption) ?_
                                    (try simp only [Act.put, List.setIfInBounds_toArray, List.set_cons_zero, List.set_cons_succ, List.getElem_toArray, List.getElem_cons_zero, List.getElem_cons_succ])
                                    refine wpAnyH_take (i := 11) (v := undef) rfl (by kernel_rfl) (by kernel_rfl) (by kernel_rfl) (fun _ _ _ h => h) (Or.inr ⟨by rfl, rfl⟩) (by assumption) ?_
                                    (try simp only [Act.put, List.setIfInBounds_toArray, List.set_cons_zero, List.set_cons_succ, List.getElem_toArray, List.getElem_cons_zero, List.getElem_cons_succ])
                                    refine wpAnyH_take (i := 12) (v := undef) rfl (by kernel_rfl) (by kernel_rfl) (by kernel_rfl) (fun _ _ _ h => h) (Or.inr ⟨by rfl, rfl⟩) (by assumption) ?_
                                    (try simp only [Act.put, List.setIfInBounds_toArray, List.set_cons_zero, List.set_cons_succ, List.getElem_toArray, List.getElem_cons_zero, List.getElem_cons_succ])
                                    refine wpAnyH_take (i := 13) (v := undef) rfl (by kernel_rfl) (by kernel_rfl) (by kernel_rfl) (fun _ _ _ h => h) (Or.inr ⟨by rfl, rfl⟩) (by assumption) ?_
                                    (try simp only [Act.put, List.setIfInBounds_toArray, List.set_cons_zero, List.set_cons_succ, List.getElem_toArray, List.getElem_cons_zero, List.getElem_cons_succ])
                                    refine wpAnyH_take (i := 14) (v := undef) rfl (by kernel_rfl) (by kernel_rfl) (by kernel_rfl) (fun _ _ _ h => h) (Or.inr ⟨by rfl, rfl⟩) (by assumption) ?_
                                    (try simp only [Act.put, List.setIfInBounds_toArray, List.set_cons_zero, List.set_cons_succ, List.getElem_toArray, List.getElem_cons_zero, List.getElem_cons_succ])
                                    refine wpAnyH_take (i := 15) (v := undef) rfl (by kernel_rfl) (by kernel_rfl) (by kernel_rfl) (fun _ _ _ h => h) (Or.inr ⟨by rfl, rfl⟩) (by assumption) ?_
                                    (try simp only [Act.put, List.setIfInBounds_toArray, List.set_cons_zero, List.set_cons_succ, List.getElem_toArray, List.getElem_cons_zero, List.getElem_cons_succ])
                                    refine wpAnyH_take (i := 16) (v := undef) rfl (by kernel_rfl) (by kernel_rfl) (by kernel_rfl) (fun _ _ _ h => h) (Or.inr ⟨by rfl, rfl⟩) (by assumption) ?_
                                    (try simp only [Act.put, List.setIfInBounds_toArray, List.set_cons_zero, List.set_cons_succ, List.getElem_toArray, List.getElem_cons_zero, List.getElem_cons_succ])
                                    refine wpAnyH_take (i := 17) (v := undef) rfl (by kernel_rfl) (by kernel_rfl) (by kernel_rfl) (fun _ _ _ h => h) (Or.inr ⟨by rfl, rfl⟩) (by assumption) ?_
                                    (try simp only [Act.put, List.setIfInBounds_toArray, List.set_cons_zero, List.set_cons_succ, List.getElem_toArray, List.getElem_cons_zero, List.getElem_cons_succ])
                                    refine wpAnyH_take (i := 18) (v := undef) rfl (by kernel_rfl) (by kernel_rfl) (by kernel_rfl) (fun _ _ _ h => h) (Or.inr ⟨by rfl, rfl⟩) (by assumption) ?_
                                    (try simp only [Act.put, List.setIfInBounds_toArray, List.set_cons_zero, List.set_cons_succ, List.getElem_toArray, List.getElem_cons_zero, List.getElem_cons_succ])
                                    refine wpAnyH_take (i := 19) (v := ?_) rfl (by kernel_rfl) (by kernel_rfl) (by kernel_rfl) (fun _ _ _ h => h) (Or.inl ⟨by rfl, ?y19⟩) (by assumption) ?_
                                    case y19 => intro w hSw; (try dsimp only at hSw); go_simp; (try with_reducible rfl)
                                    (try simp only [Act.put, List.setIfInBounds_toArray, List.set_cons_zero, List.set_cons_succ, List.getElem_toArray, List.getElem_cons_zero, List.getElem_cons_succ])
                                    refine wpAnyH_take (i := 20) (v := ?_) rfl (by kernel_rfl) (by kernel_rfl) (by kernel_rfl) (fun _ _ _ h => h) (Or.inl ⟨by rfl, ?y20⟩) (by assumption) ?_
                                    case y20 => intro w hSw; (try dsimp only at hSw); go_simp; (try with_reducible rfl)
                                    (try simp only [Act.put, List.setIfInBounds_toArray, List.set_cons_zero, List.set_cons_succ, List.getElem_toArray, List.getElem_cons_zero, List.getElem_cons_succ])
                                    refine wpAnyH_done (by kernel_rfl) ?_ _
                                    go_wp2_with fail
                                    go_roundw
                                    · exact ⟨t + 1, HT.out, by go_num, by rw [HST.out]; rfl, HBY.out.drew⟩
                                    · have := HT.out; simp [RowKit.intOf]; omega
                                  | false => as_aux_lemma =>
                                    have hS : Hid (∀ W', Below wr.heap.size wr W' → W'.cell? ⟨g, q, none⟩ = some (.slice (some ⟨b1, o1, none⟩) nq c1) ∧ W'.cell? ⟨b1, o1 + k, none⟩ = some (.int .i64 ((x : Nat) : Int)) ∧ W'.cell? ⟨g, p, none⟩ = some (.slice (some ⟨b2, o2, none⟩) np c2) ∧ W'.cell? ⟨b2, o2 + t, none⟩ = some (.int .i64 y)) := fun W' q => ⟨(q.cell (World.block_lt_of_cell? _ _ hgq)).trans hgq, (q.cell (World.block_lt_of_cell? _ _ hek)).trans hek, (q.cell (World.block_lt_of_cell? _ _ hgp)).trans hgp, (q.cell (World.block_lt_of_cell? _ _ het)).trans het⟩
                                    clear hgq hek het hby hb3 r1 r2 hkk hqq hpq ht hlt hv0 hv1 hst hc1 hc2
                                    go_wp2_with fail
                                    refine wp_region_held_drew (S := fun wz => wz.cell? ⟨g, q, none⟩ = some (.slice (some ⟨b1, o1, none⟩) nq c1) ∧ wz.cell? ⟨b1, o1 + k, none⟩ = some (.int .i64 ((x : Nat) : Int)) ∧ wz.cell? ⟨g, p, none⟩ = some (.slice (some ⟨b2, o2, none⟩) np c2) ∧ wz.cell? ⟨b2, o2 + t, none⟩ = some (.int .i64 y)) (by kernel_rfl) (hS.out _ (Below.refl _ _).drew) (fun hHeld => ?_)
                                    refine wpAnyH_take (i := 0) (v := ?_) rfl (by kernel_rfl) (by kernel_rfl) (by kernel_rfl) (fun _ _ _ h => h) (Or.inl ⟨by rfl, ?y0⟩) (by assumption) ?_
                                    case y0 => intro w hSw; (try dsimp only at hSw); go_simp; (try with_reducible rfl)
                                    (try simp only [Act.put, List.setIfInBounds_toArray, List.set_cons_zero, List.set_cons_succ, List.getElem_toArray, List.getElem_cons_zero, List.getElem_cons_succ])
                                    refine wpAnyH_take (i := 1) (v := ?_) rfl (by kernel_rfl) (by kernel_rfl) (by kernel_rfl) (fun _ _ _ h => h) (Or.inl ⟨by rfl, ?y1⟩) (by assumption) ?_
                                    case y1 => intro w hSw; (try dsimp only at hSw); go_simp; (try with_reducible rfl)
                                    (try simp only [Act.put, List.setIfInBounds_toArray, List.set_cons_zero, List.set_cons_succ, List.getElem_toArray, List.getElem_cons_zero, List.getElem_cons_succ])
                                    refine wpAnyH_take (i := 2) (v := ?_) rfl (by kernel_rfl) (by kernel_rfl) (by kernel_rfl) (fun _ _ _ h => h) (Or.inl ⟨by rfl, ?y2⟩) (by assumption) ?_
                                    case y2 => intro w hSw; (try dsimp only at hSw); go_simp; (try with_reducible rfl)
                                    (try simp only [Act.put, List.setIfInBounds_toArray, List.set_cons_zero, List.set_cons_succ, List.getElem_toArray, List.getElem_cons_zero, List.getElem_cons_succ])
                                    refine wpAnyH_take (i := 3) (v := ?_) rfl (by kernel_rfl) (by kernel_rfl) (by kernel_rfl) (fun _ _ _ h => h) (Or.inl ⟨by rfl, ?y3⟩) (by assumption) ?_
                                    case y3 => intro w hSw; (try dsimp only at hSw); go_simp; (try with_reducible rfl)
                                    (try simp only [Act.put, List.setIfInBounds_toArray, List.set_cons_zero, List.set_cons_succ, List.getElem_toArray, List.getElem_cons_zero, List.getElem_cons_succ])
                                    refine wpAnyH_take (i := 4) (v := ?_) rfl (by kernel_rfl) (by kernel_rfl) (by kernel_rfl) (fun _ _ _ h => h) (Or.inl ⟨by rfl, ?y4⟩) (by assumption) ?_
                                    case y4 => intro w hSw; (try dsimp only at hSw); go_simp; (try with_reducible rfl)
                                    (try simp only [Act.put, List.setIfInBounds_toArray, List.set_cons_zero, List.set_cons_succ, List.getElem_toArray, List.getElem_cons_zero, List.getElem_cons_succ])
                                    refine wpAnyH_take (i := 5) (v := ?_) rfl (by kernel_rfl) (by kernel_rfl) (by kernel_rfl) (fun _ _ _ h => h) (Or.inl ⟨by rfl, ?y5⟩) (by assumption) ?_
                                    case y5 => intro w hSw; (try dsimp only at hSw); go_simp; (try with_reducible rfl)
                                    (try simp only [Act.put, List.setIfInBounds_toArray, List.set_cons_zero, List.set_cons_succ, List.getElem_toArray, List.getElem_cons_zero, List.getElem_cons_succ])
                                    refine wpAnyH_take (i := 6) (v := ?_) rfl (by kernel_rfl) (by kernel_rfl) (by kernel_rfl) (fun _ _ _ h => h) (Or.inl ⟨by rfl, ?y6⟩) (by assumption) ?_
                                    case y6 => intro w hSw; (try dsimp only at hSw); go_simp; (try with_reducible rfl)
                                    (try simp only [Act.put, List.setIfInBounds_toArray, List.set_cons_zero, List.set_cons_succ, List.getElem_toArray, List.getElem_cons_zero, List.getElem_cons_succ])
                                    refine wpAnyH_take (i := 7) (v := ?_) rfl (by kernel_rfl) (by kernel_rfl) (by kernel_rfl) (fun _ _ _ h => h) (Or.inl ⟨by rfl, ?y7⟩) (by assumption) ?_
                                    case y7 => intro w hSw; (try dsimp only at hSw); go_simp; (try with_reducible rfl)
                                    (try simp only [Act.put, List.setIfInBounds_toArray, List.set_cons_zero, List.set_cons_succ, List.getElem_toArray, List.getElem_cons_zero, List.getElem_cons_succ])
                                    refine wpAnyH_take (i := 8) (v := ?_) rfl (by kernel_rfl) (by kernel_rfl) (by kernel_rfl) (fun _ _ _ h => h) (Or.inl ⟨by rfl, ?y8⟩) (by assumption) ?_
                                    case y8 => intro w hSw; (try dsimp only at hSw); go_simp; (try with_reducible rfl)
                                    (try simp only [Act.put, List.setIfInBounds_toArray, List.set_cons_zero, List.set_cons_succ, List.getElem_toArray, List.getElem_cons_zero, List.getElem_cons_succ])
                                    refine wpAnyH_take (i := 9) (v := ?_) rfl (by kernel_rfl) (by kernel_rfl) (by kernel_rfl) (fun _ _ _ h => h) (Or.inl ⟨by rfl, ?y9⟩) (by assumption) ?_
                                    case y9 => intro w hSw; (try dsimp only at hSw); go_simp; (try with_reducible rfl)
                                    (try simp only [Act.put, List.setIfInBounds_toArray, List.set_cons_zero, List.set_cons_succ, List.getElem_toArray, List.getElem_cons_zero, List.getElem_cons_succ])
                                    refine wpAnyH_take (i := 10) (v := ?_) rfl (by kernel_rfl) (by kernel_rfl) (by kernel_rfl) (fun _ _ _ h => h) (Or.inl ⟨by rfl, ?y10⟩) (by assumption) ?_
                                    case y10 => intro w hSw; (try dsimp only at hSw); go_simp; (try with_reducible rfl)
                                    (try simp only [Act.put, List.setIfInBounds_toArray, List.set_cons_zero, List.set_cons_succ, List.getElem_toArray, List.getElem_cons_zero, List.getElem_cons_succ])
                                    refine wpAnyH_take (i := 11) (v := ?_) rfl (by kernel_rfl) (by kernel_rfl) (by kernel_rfl) (fun _ _ _ h => h) (Or.inl ⟨by rfl, ?y11⟩) (by assumption) ?_
                                    case y11 => intro w hSw; (try dsimp only at hSw); go_simp; (try with_reducible rfl)
                                    (try simp only [Act.put, List.setIfInBounds_toArray, List.set_cons_zero, List.set_cons_succ, List.getElem_toArray, List.getElem_cons_zero, List.getElem_cons_succ])
                                    refine wpAnyH_take (i := 12) (v := ?_) rfl (by kernel_rfl) (by kernel_rfl) (by kernel_rfl) (fun _ _ _ h => h) (Or.inl ⟨by rfl, ?y12⟩) (by assumption) ?_
                                    case y12 => intro w hSw; (try dsimp only at hSw); go_simp; (try with_reducible rfl)
                                    (try simp only [Act.put, List.setIfInBounds_toArray, List.set_cons_zero, List.set_cons_succ, List.getElem_toArray, List.getElem_cons_zero, List.getElem_cons_succ])
                                    refine wpAnyH_take (i := 13) (v := ?_) rfl (by kernel_rfl) (by kernel_rfl) (by kernel_rfl) (fun _ _ _ h => h) (Or.inl ⟨by rfl, ?y13⟩) (by assumption) ?_
                                    case y13 => intro w hSw; (try dsimp only at hSw); go_simp; (try with_reducible rfl)
                                    (try simp only [Act.put, List.setIfInBounds_toArray, List.set_cons_zero, List.set_cons_succ, List.getElem_toArray, List.getElem_cons_zero, List.getElem_cons_succ])
                                    refine wpAnyH_take (i := 14) (v := ?_) rfl (by kernel_rfl) (by kernel_rfl) (by kernel_rfl) (fun _ _ _ h => h) (Or.inl ⟨by rfl, ?y14⟩) (by assumption) ?_
                                    case y14 => intro w hSw; (try dsimp only at hSw); go_simp; (try with_reducible rfl)
                                    (try simp only [Act.put, List.setIfInBounds_toArray, List.set_cons_zero, List.set_cons_succ, List.getElem_toArray, List.getElem_cons_zero, List.getElem_cons_succ])
                                    refine wpAnyH_take (i := 15) (v := ?_) rfl (by kernel_rfl) (by kernel_rfl) (by kernel_rfl) (fun _ _ _ h => h) (Or.inl ⟨by rfl, ?y15⟩) (by assumption) ?_
                                    case y15 => intro w hSw; (try dsimp only at hSw); go_simp; (try with_reducible rfl)
                                    (try simp only [Act.put, List.setIfInBounds_toArray, List.set_cons_zero, List.set_cons_succ, List.getElem_toArray, List.getElem_cons_zero, List.getElem_cons_succ])
                                    refine wpAnyH_take (i := 16) (v := ?_) rfl (by kernel_rfl) (by kernel_rfl) (by kernel_rfl) (fun _ _ _ h => h) (Or.inl ⟨by rfl, ?y16⟩) (by assumption) ?_
                                    case y16 => intro w hSw; (try dsimp only at hSw); go_simp; (try with_reducible rfl)
                                    (try simp only [Act.put, List.setIfInBounds_toArray, List.set_cons_zero, List.set_cons_succ, List.getElem_toArray, List.getElem_cons_zero, List.getElem_cons_succ])
                                    refine wpAnyH_take (i := 17) (v := ?_) rfl (by kernel_rfl) (by kernel_rfl) (by kernel_rfl) (fun _ _ _ h => h) (Or.inl ⟨by rfl, ?y17⟩) (by assumption) ?_
                                    case y17 => intro w hSw; (try dsimp only at hSw); go_simp; (try with_reducible rfl)
                                    (try simp only [Act.put, List.setIfInBounds_toArray, List.set_cons_zero, List.set_cons_succ, List.getElem_toArray, List.getElem_cons_zero, List.getElem_cons_succ])
                                    refine wpAnyH_ready (rs := [18]) (by kernel_rfl) (by simp) ?_
                                    refine AllReadyH.cons rfl (fun K hK => ?_) AllReadyH.nil
                                    go_simp
                                    refine h18.mono ?_; clear h18; rintro e y7 ⟨rfl, hb7⟩
                                    have HB7 := Lib.hid hb7
                                    clear hb7
                                    refine hK.out _ _ (hS.out _ ((Below.refl _ _).drew.trans HB7.out)) (fun hHeld => ?_)
                                    clear hK K
                                    (try simp only [Act.put, List.setIfInBounds_toArray, List.set_cons_zero, List.set_cons_succ, List.getElem_toArray, List.getElem_cons_zero, List.getElem_cons_succ])
                                    refine wpAnyH_take (i := 19) (v := ?_) rfl (by kernel_rfl) (by kernel_rfl) (by kernel_rfl) (fun _ _ _ h => h) (Or.inl ⟨by rfl, ?y19⟩) (by assumption) ?_
                                    case y19 => intro w hSw; (try dsimp only at hSw); go_simp; (try with_reducible rfl)
                                    (try simp only [Act.put, List.setIfInBounds_toArray, List.set_cons_zero, List.set_cons_succ, List.getElem_toArray, List.getElem_cons_zero, List.getElem_cons_succ])
                                    refine wpAnyH_take (i := 20) (v := ?_) rfl (by kernel_rfl) (by kernel_rfl) (by kernel_rfl) (fun _ _ _ h => h) (Or.inl ⟨by rfl, ?y20⟩) (by assumption) ?_
                                    case y20 => intro w hSw; (try dsimp only at hSw); go_simp; (try with_reducible rfl)
                                    (try simp only [Act.put, List.setIfInBounds_toArray, List.set_cons_zero, List.set_cons_succ, List.getElem_toArray, List.getElem_cons_zero, List.getElem_cons_succ])
                                    refine wpAnyH_done (by kernel_rfl) ?_ _
                                    go_wp2_with fail
                                    go_roundw
                                    · exact ⟨t + 1, HT.out, by go_num, by rw [HST.out, Bool.false_or], (HBY.out.drew).trans (HB7.out.mono (by have := HBY.out.size; exact this))⟩
                                    · have := HT.out; simp [RowKit.intOf]; omega
                                · obtain rfl : t = np := by omega
                                  rw [HRE.out]
                                  have d6 : decide ((t : Int) < (t : Int)) = false := decide_eq_false (by omega)
                                  have d6n : decide (t < t) = false := decide_eq_false (by omega)
                                  have HBY := Lib.hid hby
                                  clear hby ht hlt r2 hqq hpq hc2 hq20
                                  go_upto_region 42 with fail
                                  clear d6 d6n hgp hsub hsub2 g0 g1 dq4 dq4n
                                  obtain ⟨a1, c1, hgq, hc1, r1⟩ := row_el (HRW.out.below HBY.out) HQ.out
                                  rw [← HNQ.out] at hgq
                                  obtain ⟨b1, o1, rfl, hek⟩ := r1.2 k (by rw [← HNQ.out]; exact HK.out)
                                  rw [HX.out] at hek
                                  have h11 := has_any aa ac l ((x : Nat) : Int) wr.drew (HRA.out.below HBY.out.drew) (by omega)
                                  rw [decide_eq_true HP1.out] at h11
                                  have hkk := HK.out
                                  have hqq := HQ.out
                                  have q0 : (0 : Int) ≤ (q : Int) := by omega
                                  have q1 : (q : Int) < (rs.length : Int) := by omega
                                  have k0 : (0 : Int) ≤ (k : Int) := by omega
                                  have k1 : (k : Int) < (nq : Int) := by omega
                                  by_cases hk0 : k = 0
                                  · as_aux_lemma =>
                                    have hS : Hid (∀ W', Below wr.heap.size wr W' → W'.cell? ⟨g, q, none⟩ = some (.slice (some ⟨b1, o1, none⟩) nq c1) ∧ W'.cell? ⟨b1, o1 + k, none⟩ = some (.int .i64 ((x : Nat) : Int))) := fun W' q => ⟨(q.cell (World.block_lt_of_cell? _ _ hgq)).trans hgq, (q.cell (World.block_lt_of_cell? _ _ hek)).trans hek⟩
                                    have dk : decide ((0 : Int) < (k : Int)) = false := decide_eq_false (by omega)
                                    have dkn : decide (0 < k) = false := decide_eq_false (by omega)
                                    clear hgq hek r1 hkk hqq hk0 hc1
                                    go_wp2_with fail
                                    refine wp_region_held_drew (S := fun wz => wz.cell? ⟨g, q, none⟩ = some (.slice (some ⟨b1, o1, none⟩) nq c1) ∧ wz.cell? ⟨b1, o1 + k, none⟩ = some (.int .i64 ((x : Nat) : Int))) (by kernel_rfl) (hS.out _ (Below.refl _ _).drew) (fun hHeld => ?_)
                                    refine wpAnyH_take (i := 0) (v := ?_) rfl (by kernel_rfl) (by kernel_rfl) (by kernel_rfl) (fun _ _ _ h => h) (Or.inl ⟨by rfl, ?y0⟩) (by assumption) ?_
                                    case y0 => intro w hSw; (try dsimp only at hSw); go_simp; (try with_reducible rfl)
                                    (try simp only [Act.put, List.setIfInBounds_toArray, List.set_cons_zero, List.set_cons_succ, List.getElem_toArray, List.getElem_cons_zero, List.getElem_cons_succ])
                                    refine wpAnyH_take (i := 1) (v := ?_) rfl (by kernel_rfl) (by kernel_rfl) (by kernel_rfl) (fun _ _ _ h => h) (Or.inl ⟨by rfl, ?y1⟩) (by assumption) ?_
                                    case y1 => intro w hSw; (try dsimp only at hSw); go_simp; (try with_reducible rfl)
                                    (try simp only [Act.put, List.setIfInBounds_toArray, List.set_cons_zero, List.set_cons_succ, List.getElem_toArray, List.getElem_cons_zero, List.getElem_cons_succ])
                                    refine wpAnyH_take (i := 2) (v := ?_) rfl (by kernel_rfl) (by kernel_rfl) (by kernel_rfl) (fun _ _ _ h => h) (Or.inl ⟨by rfl, ?y2⟩) (by assumption) ?_
                                    case y2 => intro w hSw; (try dsimp only at hSw); go_simp; (try with_reducible rfl)
                                    (try simp only [Act.put, List.setIfInBounds_toArray, List.set_cons_zero, List.set_cons_succ, List.getElem_toArray, List.getElem_cons_zero, List.getElem_cons_succ])
                                    refine wpAnyH_take (i := 3) (v := ?_) rfl (by kernel_rfl) (by kernel_rfl) (by kernel_rfl) (fun _ _ _ h => h) (Or.inl ⟨by rfl, ?y3⟩) (by assumption) ?_
                                    case y3 => intro w hSw; (try dsimp only at hSw); go_simp; (try with_reducible rfl)
                                    (try simp only [Act.put, List.setIfInBounds_toArray, List.set_cons_zero, List.set_cons_succ, List.getElem_toArray, List.getElem_cons_zero, List.getElem_cons_succ])
                                    refine wpAnyH_take (i := 4) (v := ?_) rfl (by kernel_rfl) (by kernel_rfl) (by kernel_rfl) (fun _ _ _ h => h) (Or.inl ⟨by rfl, ?y4⟩) (by assumption) ?_
                                    case y4 => intro w hSw; (try dsimp only at hSw); go_simp; (try with_reducible rfl)
                                    (try simp only [Act.put, List.setIfInBounds_toArray, List.set_cons_zero, List.set_cons_succ, List.getElem_toArray, List.getElem_cons_zero, List.getElem_cons_succ])
                                    refine wpAnyH_take (i := 5) (v := ?_) rfl (by kernel_rfl) (by kernel_rfl) (by kernel_rfl) (fun _ _ _ h => h) (Or.inl ⟨by rfl, ?y5⟩) (by assumption) ?_
                                    case y5 => intro w hSw; (try dsimp only at hSw); go_simp; (try with_reducible rfl)
                                    (try simp only [Act.put, List.setIfInBounds_toArray, List.set_cons_zero, List.set_cons_succ, List.getElem_toArray, List.getElem_cons_zero, List.getElem_cons_succ])
                                    refine wpAnyH_take (i := 6) (v := ?_) rfl (by kernel_rfl) (by kernel_rfl) (by kernel_rfl) (fun _ _ _ h => h) (Or.inl ⟨by rfl, ?y6⟩) (by assumption) ?_
                                    case y6 => intro w hSw; (try dsimp only at hSw); go_simp; (try with_reducible rfl)
                                    (try simp only [Act.put, List.setIfInBounds_toArray, List.set_cons_zero, List.set_cons_succ, List.getElem_toArray, List.getElem_cons_zero, List.getElem_cons_succ])
                                    refine wpAnyH_take (i := 7) (v := ?_) rfl (by kernel_rfl) (by kernel_rfl) (by kernel_rfl) (fun _ _ _ h => h) (Or.inl ⟨by rfl, ?y7⟩) (by assumption) ?_
                                    case y7 => intro w hSw; (try dsimp only at hSw); go_simp; (try with_reducible rfl)
                                    (try simp only [Act.put, List.setIfInBounds_toArray, List.set_cons_zero, List.set_cons_succ, List.getElem_toArray, List.getElem_cons_zero, List.getElem_cons_succ])
                                    refine wpAnyH_take (i := 8) (v := ?_) rfl (by kernel_rfl) (by kernel_rfl) (by kernel_rfl) (fun _ _ _ h => h) (Or.inl ⟨by rfl, ?y8⟩) (by assumption) ?_
                                    case y8 => intro w hSw; (try dsimp only at hSw); go_simp; (try with_reducible rfl)
                                    (try simp only [Act.put, List.setIfInBounds_toArray, List.set_cons_zero, List.set_cons_succ, List.getElem_toArray, List.getElem_cons_zero, List.getElem_cons_succ])
                                    refine wpAnyH_take (i := 9) (v := ?_) rfl (by kernel_rfl) (by kernel_rfl) (by kernel_rfl) (fun _ _ _ h => h) (Or.inl ⟨by rfl, ?y9⟩) (by assumption) ?_
                                    case y9 => intro w hSw; (try dsimp only at hSw); go_simp; (try with_reducible rfl)
                                    (try simp only [Act.put, List.setIfInBounds_toArray, List.set_cons_zero, List.set_cons_succ, List.getElem_toArray, List.getElem_cons_zero, List.getElem_cons_succ])
                                    refine wpAnyH_take (i := 10) (v := ?_) rfl (by kernel_rfl) (by kernel_rfl) (by kernel_rfl) (fun _ _ _ h => h) (Or.inl ⟨by rfl, ?y10⟩) (by assumption) ?_
                                    case y10 => intro w hSw; (try dsimp only at hSw); go_simp; (try with_reducible rfl)
                                    (try simp only [Act.put, List.setIfInBounds_toArray, List.set_cons_zero, List.set_cons_succ, List.getElem_toArray, List.getElem_cons_zero, List.getElem_cons_succ])
                                    refine wpAnyH_ready (rs := [11]) (by kernel_rfl) (by simp) ?_
                                    refine AllReadyH.cons rfl (fun K hK => ?_) AllReadyH.nil
                                    go_simp
                                    refine h11.mono ?_; clear h11; rintro e y5 ⟨rfl, hy⟩
                                    replace hy := hy.symm
                                    subst hy
                                    refine hK.out _ _ (hS.out _ (Below.refl _ _).drew) (fun hHeld => ?_)
                                    clear hK K
                                    (try simp only [Act.put, List.setIfInBounds_toArray, List.set_cons_zero, List.set_cons_succ, List.getElem_toArray, List.getElem_cons_zero, List.getElem_cons_succ])
                                    refine wpAnyH_take (i := 12) (v := ?_) rfl (by kernel_rfl) (by kernel_rfl) (by kernel_rfl) (fun _ _ _ h => h) (Or.inl ⟨by rfl, ?y12⟩) (by assumption) ?_
                                    case y12 => intro w hSw; (try dsimp only at hSw); go_simp; (try with_reducible rfl)
                                    (try simp only [Act.put, List.setIfInBounds_toArray, List.set_cons_zero, List.set_cons_succ, List.getElem_toArray, List.getElem_cons_zero, List.getElem_cons_succ])
                                    refine wpAnyH_take (i := 13) (v := ?_) rfl (by kernel_rfl) (by kernel_rfl) (by kernel_rfl) (fun _ _ _ h => h) (Or.inl ⟨by rfl, ?y13⟩) (by assumption) ?_
                                    case y13 => intro w hSw; (try dsimp only at hSw); go_simp; (try with_reducible rfl)
                                    (try simp only [Act.put, List.setIfInBounds_toArray, List.set_cons_zero, List.set_cons_succ, List.getElem_toArray, List.getElem_cons_zero, List.getElem_cons_succ])
                                    refine wpAnyH_take (i := 14) (v := ?_) rfl (by kernel_rfl) (by kernel_rfl) (by kernel_rfl) (fun _ _ _ h => h) (Or.inl ⟨by rfl, ?y14⟩) (by assumption) ?_
                                    case y14 => intro w hSw; (try dsimp only at hSw); go_simp; (try with_reducible rfl)
                                    (try simp only [Act.put, List.setIfInBounds_toArray, List.set_cons_zero, List.set_cons_succ, List.getElem_toArray, List.getElem_cons_zero, List.getElem_cons_succ])
                                    refine wpAnyH_take (i := 15) (v := ?_) rfl (by kernel_rfl) (by kernel_rfl) (by kernel_rfl) (fun _ _ _ h => h) (Or.inl ⟨by rfl, ?y15⟩) (by assumption) ?_
                                    case y15 => intro w hSw; (try dsimp only at hSw); go_simp; (try with_reducible rfl)
                                    (try simp only [Act.put, List.setIfInBounds_toArray, List.set_cons_zero, List.set_cons_succ, List.getElem_toArray, List.getElem_cons_zero, List.getElem_cons_succ])
                                    refine wpAnyH_take (i := 16) (v := ?_) rfl (by kernel_rfl) (by kernel_rfl) (by kernel_rfl) (fun _ _ _ h => h) (Or.inl ⟨by rfl, ?y16⟩) (by assumption) ?_
                                    case y16 => intro w hSw; (try dsimp only at hSw); go_simp; (try with_reducible rfl)
                                    (try simp only [Act.put, List.setIfInBounds_toArray, List.set_cons_zero, List.set_cons_succ, List.getElem_toArray, List.getElem_cons_zero, List.getElem_cons_succ])
                                    refine wpAnyH_take (i := 17) (v := ?_) rfl (by kernel_rfl) (by kernel_rfl) (by kernel_rfl) (fun _ _ _ h => h) (Or.inl ⟨by rfl, ?y17⟩) (by assumption) ?_
                                    case y17 => intro w hSw; (try dsimp only at hSw); go_simp; (try with_reducible rfl)
                                    (try simp only [Act.put, List.setIfInBounds_toArray, List.set_cons_zero, List.set_cons_succ, List.getElem_toArray, List.getElem_cons_zero, List.getElem_cons_succ])
                                    refine wpAnyH_take (i := 18) (v := undef) rfl (by kernel_rfl) (by kernel_rfl) (by kernel_rfl) (fun _ _ _ h => h) (Or.inr ⟨by rfl, rfl⟩) (by assumption) ?_
                                    (try simp only [Act.put, List.setIfInBounds_toArray, List.set_cons_zero, List.set_cons_succ, List.getElem_toArray, List.getElem_cons_zero, List.getElem_cons_succ])
                                    refine wpAnyH_take (i := 19) (v := undef) rfl (by kernel_rfl) (by kernel_rfl) (by kernel_rfl) (fun _ _ _ h => h) (Or.inr ⟨by rfl, rfl⟩) (by assumption) ?_
                                    (try simp only [Act.put, List.setIfInBounds_toArray, List.set_cons_zero, List.set_cons_succ, List.getElem_toArray, List.getElem_cons_zero, List.getElem_cons_succ])
                                    refine wpAnyH_take (i := 20) (v := undef) rfl (by kernel_rfl) (by kernel_rfl) (by kernel_rfl) (fun _ _ _ h => h) (Or.inr ⟨by rfl, rfl⟩) (by assumption) ?_
                                    (try simp only [Act.put, List.setIfInBounds_toArray, List.set_cons_zero, List.set_cons_succ, List.getElem_toArray, List.getElem_cons_zero, List.getElem_cons_succ])
                                    refine wpAnyH_take (i := 21) (v := undef) rfl (by kernel_rfl) (by kernel_rfl) (by kernel_rfl) (fun _ _ _ h => h) (Or.inr ⟨by rfl, rfl⟩) (by assumption) ?_
                                    (try simp only [Act.put, List.setIfInBounds_toArray, List.set_cons_zero, List.set_cons_succ, List.getElem_toArray, List.getElem_cons_zero, List.getElem_cons_succ])
                                    refine wpAnyH_take (i := 22) (v := undef) rfl (by kernel_rfl) (by kernel_rfl) (by kernel_rfl) (fun _ _ _ h => h) (Or.inr ⟨by rfl, rfl⟩) (by assumption) ?_
                                    (try simp only [Act.put, List.setIfInBounds_toArray, List.set_cons_zero, List.set_cons_succ, List.getElem_toArray, List.getElem_cons_zero, List.getElem_cons_succ])
                                    refine wpAnyH_take (i := 23) (v := undef) rfl (by kernel_rfl) (by kernel_rfl) (by kernel_rfl) (fun _ _ _ h => h) (Or.inr ⟨by rfl, rfl⟩) (by assumption) ?_
                                    (try simp only [Act.put, List.setIfInBounds_toArray, List.set_cons_zero, List.set_cons_succ, List.getElem_toArray, List.getElem_cons_zero, List.getElem_cons_succ])
                                    refine wpAnyH_take (i := 24) (v := undef) rfl (by kernel_rfl) (by kernel_rfl) (by kernel_rfl) (fun _ _ _ h => h) (Or.inr ⟨by rfl, rfl⟩) (by assumption) ?_
                                    (try simp only [Act.put, List.setIfInBounds_toArray, List.set_cons_zero, List.set_cons_succ, List.getElem_toArray, List.getElem_cons_zero, List.getElem_cons_succ])
                                    refine wpAnyH_take (i := 25) (v := undef) rfl (by kernel_rfl) (by kernel_rfl) (by kernel_rfl) (fun _ _ _ h => h) (Or.inr ⟨by rfl, rfl⟩) (by assumption) ?_
                                    (try simp only [Act.put, List.setIfInBounds_toArray, List.set_cons_zero, List.set_cons_succ, List.getElem_toArray, List.getElem_cons_zero, List.getElem_cons_succ])
                                    refine wpAnyH_take (i := 26) (v := undef) rfl (by kernel_rfl) (by kernel_rfl) (by kernel_rfl) (fun _ _ _ h => h) (Or.inr ⟨by rfl, rfl⟩) (by assumption) ?_
                                    (try simp only [Act.put, List.setIfInBounds_toArray, List.set_cons_zero, List.set_cons_succ, List.getElem_toArray, List.getElem_cons_zero, List.getElem_cons_succ])
                                    refine wpAnyH_take (i := 27) (v := undef) rfl (by kernel_rfl) (by kernel_rfl) (by kernel_rfl) (fun _ _ _ h => h) (Or.inr ⟨by rfl, rfl⟩) (by assumption) ?_
                                    (try simp only [Act.put, List.setIfInBounds_toArray, List.set_cons_zero, List.set_cons_succ, List.getElem_toArray, List.getElem_cons_zero, List.getElem_cons_succ])
                                    refine wpAnyH_take (i := 28) (v := undef) rfl (by kernel_rfl) (by kernel_rfl) (by kernel_rfl) (fun _ _ _ h => h) (Or.inr ⟨by rfl, rfl⟩) (by assumption) ?_
                                    (try simp only [Act.put, List.setIfInBounds_toArray, List.set_cons_zero, List.set_cons_succ, List.getElem_toArray, List.getElem_cons_zero, List.getElem_cons_succ])
                                    refine wpAnyH_take (i := 29) (v := undef) rfl (by kernel_rfl) (by kernel_rfl) (by kernel_rfl) (fun _ _ _ h => h) (Or.inr ⟨by rfl, rfl⟩) (by assumption) ?_
                                    (try simp only [Act.put, List.setIfInBounds_toArray, List.set_cons_zero, List.set_cons_succ, List.getElem_toArray, List.getElem_cons_zero, List.getElem_cons_succ])
                                    refine wpAnyH_take (i := 30) (v := undef) rfl (by kernel_rfl) (by kernel_rfl) (by kernel_rfl) (fun _ _ _ h => h) (Or.inr ⟨by rfl, rfl⟩) (by assumption) ?_
                                    (try simp only [Act.put, List.setIfInBounds_toArray, List.set_cons_zero, List.set_cons_succ, List.getElem_toArray, List.getElem_cons_zero, List.getElem_cons_succ])
                                    refine wpAnyH_take (i := 31) (v := undef) rfl (by kernel_rfl) (by kernel_rfl) (by kernel_rfl) (fun _ _ _ h => h) (Or.inr ⟨by rfl, rfl⟩) (by assumption) ?_
                                    (try simp only [Act.put, List.setIfInBounds_toArray, List.set_cons_zero, List.set_cons_succ, List.getElem_toArray, List.getElem_cons_zero, List.getElem_cons_succ])
                                    refine wpAnyH_take (i := 32) (v := undef) rfl (by kernel_rfl) (by kernel_rfl) (by kernel_rfl) (fun _ _ _ h => h) (Or.inr ⟨by rfl, rfl⟩) (by assumption) ?_
                                    (try simp only [Act.put, List.setIfInBounds_toArray, List.set_cons_zero, List.set_cons_succ, List.getElem_toArray, List.getElem_cons_zero, List.getElem_cons_succ])
                                    refine wpAnyH_take (i := 33) (v := undef) rfl (by kernel_rfl) (by kernel_rfl) (by kernel_rfl) (fun _ _ _ h => h) (Or.inr ⟨by rfl, rfl⟩) (by assumption) ?_
                                    (try simp only [Act.put, List.setIfInBounds_toArray, List.set_cons_zero, List.set_cons_succ, List.getElem_toArray, List.getElem_cons_zero, List.getElem_cons_succ])
                                    refine wpAnyH_take (i := 34) (v := ?_) rfl (by kernel_rfl) (by kernel_rfl) (by kernel_rfl) (fun _ _ _ h => h) (Or.inl ⟨by rfl, ?y34⟩) (by assumption) ?_
                                    case y34 => intro w hSw; (try dsimp only at hSw); go_simp; (try with_reducible rfl)
                                    (try simp only [Act.put, List.setIfInBounds_toArray, List.set_cons_zero, List.set_cons_succ, List.getElem_toArray, List.getElem_cons_zero, List.getElem_cons_succ])
                                    refine wpAnyH_take (i := 35) (v := ?_) rfl (by kernel_rfl) (by kernel_rfl) (by kernel_rfl) (fun _ _ _ h => h) (Or.inl ⟨by rfl, ?y35⟩) (by assumption) ?_
                                    case y35 => intro w hSw; (try dsimp only at hSw); go_simp; (try with_reducible rfl)
                                    (try simp only [Act.put, List.setIfInBounds_toArray, List.set_cons_zero, List.set_cons_succ, List.getElem_toArray, List.getElem_cons_zero, List.getElem_cons_succ])
                                    refine wpAnyH_done (by kernel_rfl) ?_ _
                                    clear q0 q1 k0 k1 dk dkn hS
                                    have HBY := Lib.hid HBY.out.drew
                                    go_wp2_with fail
                                    go_loopw [22] (fun i wr => ∃ j : Nat, q ≤ j ∧ j ≤ rs.length ∧ i = .int .i64 (j : Int) ∧ Below w5.heap.size w5 wr) (fun i _ => rs.length - (RowKit.intOf i).toNat)
                                    case atStart => exact ⟨q, Nat.le_refl _, Nat.le_of_lt HQ.out, rfl, HBY.out⟩
                                    case round => as_aux_lemma =>
                                      clear HBY
                                      obtain ⟨j, hqj, hj, rfl, hby⟩ := hrel
                                      by_cases hlj : j < rs.length
                                      · obtain ⟨nj, hnj⟩ : ∃ nj, nj = (rAt rs j).length := ⟨_, rfl⟩
                                        have HNJ := Lib.hid hnj
                                        have HJ := Lib.hid (And.intro hqj hlj)
                                        have hnj6 : nj ≤ 20000 := by rw [hnj]; exact HRL.out j hlj
                                        have d7 : decide ((j : Int) < (rs.length : Int)) = true := decide_eq_true (by omega)
                                        have d7n : decide (j < rs.length) = true := decide_eq_true (by omega)
                                        have HBY := Lib.hid hby
                                        clear hby hqj hj hlj hnj
                                        go_wp2_with fail
                                        clear d7 d7n
                                        go_loopw [23] (fun i wr => ∃ m : Nat, m ≤ nj ∧ i = .int .i64 (m : Int) ∧ Below w5.heap.size w5 wr) (fun i _ => nj - (RowKit.intOf i).toNat)
                                        case atStart => exact ⟨0, Nat.zero_le _, rfl, HBY.out⟩
                                        case round => as_aux_lemma =>
                                          clear HBY
                                          obtain ⟨m, hm, rfl, hby⟩ := hrel
                                          obtain ⟨a2, c2, hgj, hc2, r2⟩ := row_el (HRW.out.below hby) HJ.out.2
                                          rw [← HNJ.out] at hgj
                                          have hjq := HJ.out.2
                                          have j0 : (0 : Int) ≤ (j : Int) := by omega
                                          have j1 : (j : Int) < (rs.length : Int) := by omega
                                          by_cases hlm : m < nj
                                          · obtain ⟨a1, c1, hgq, hc1, r1⟩ := row_el (HRW.out.below hby) HQ.out
                                            rw [← HNQ.out] at hgq
                                            obtain ⟨b1, o1, rfl, hek⟩ := r1.2 k (by rw [← HNQ.out]; exact HK.out)
                                            obtain ⟨b2, o2, rfl, hem⟩ := r2.2 m (by rw [← HNJ.out]; exact hlm)
                                            rw [HX.out] at hek
                                            have hb3 := HB5.out.trans (hby.mono HB5.out.size)
                                            have h15 := has_o ((HG.out.below hb3.drew).s) ((x : Nat) : Int) ((rAt rs j).getD m 0) (by unfold InR; omega)
                                            rw [HP4.out j HJ.out.1 HJ.out.2 m (by rw [← HNJ.out]; exact hlm)] at h15
                                            generalize (rAt rs j).getD m 0 = y at *
                                            have hkk := HK.out
                                            have hqq := HQ.out
                                            have q0 : (0 : Int) ≤ (q : Int) := by omega
                                            have q1 : (q : Int) < (rs.length : Int) := by omega
                                            have k0 : (0 : Int) ≤ (k : Int) := by omega
                                            have k1 : (k : Int) < (nq : Int) := by omega
                                            have m0 : (0 : Int) ≤ (m : Int) := by omega
                                            have m1 : (m : Int) < (nj : Int) := by omega
                                            have d8 : decide ((m : Int) < (nj : Int)) = true := decide_eq_true (by omega)
                                            have d8n : decide (m < nj) = true := decide_eq_true (by omega)
                                            have hS : Hid (∀ W', Below wr.heap.size wr W' → W'.cell? ⟨g, q, none⟩ = some (.slice (some ⟨b1, o1, none⟩) nq c1) ∧ W'.cell? ⟨b1, o1 + k, none⟩ = some (.int .i64 ((x : Nat) : Int)) ∧ W'.cell? ⟨g, j, none⟩ = some (.slice (some ⟨b2, o2, none⟩) nj c2) ∧ W'.cell? ⟨b2, o2 + m, none⟩ = some (.int .i64 y)) := fun W' q => ⟨(q.cell (World.block_lt_of_cell? _ _ hgq)).trans hgq, (q.cell (World.block_lt_of_cell? _ _ hek)).trans hek, (q.cell (World.block_lt_of_cell? _ _ hgj)).trans hgj, (q.cell (World.block_lt_of_cell? _ _ hem)).trans hem⟩
                                            have HBY := Lib.hid hby
                                            have HM := Lib.hid hlm
                                            clear hgq hek hem hby hb3 hjq hm hlm r1 r2 hkk hqq hc1 hc2
                                            go_wp2_with fail
                                            refine wp_region_held_drew (S := fun wz => wz.cell? ⟨g, q, none⟩ = some (.slice (some ⟨b1, o1, none⟩) nq c1) ∧ wz.cell? ⟨b1, o1 + k, none⟩ = some (.int .i64 ((x : Nat) : Int)) ∧ wz.cell? ⟨g, j, none⟩ = some (.slice (some ⟨b2, o2, none⟩) nj c2) ∧ wz.cell? ⟨b2, o2 + m, none⟩ = some (.int .i64 y)) (by kernel_rfl) (hS.out _ (Below.refl _ _).drew) (fun hHeld => ?_)
                                            refine wpAnyH_take (i := 0) (v := ?_) rfl (by kernel_rfl) (by kernel_rfl) (by kernel_rfl) (fun _ _ _ h => h) (Or.inl ⟨by rfl, ?y0⟩) (by assumption) ?_
                                            case y0 => intro w hSw; (try dsimp only at hSw); go_simp; (try with_reducible rfl)
                                            (try simp only [Act.put, List.setIfInBounds_toArray, List.set_cons_zero, List.set_cons_succ, List.getElem_toArray, List.getElem_cons_zero, List.getElem_cons_succ])
                                            refine wpAnyH_take (i := 1) (v := ?_) rfl (by kernel_rfl) (by kernel_rfl) (by kernel_rfl) (fun _ _ _ h => h) (Or.inl ⟨by rfl, ?y1⟩) (by assumption) ?_
                                            case y1 => intro w hSw; (try dsimp only at hSw); go_simp; (try with_reducible rfl)
                                            (try simp only [Act.put, List.setIfInBounds_toArray, List.set_cons_zero, List.set_cons_succ, List.getElem_toArray, List.getElem_cons_zero, List.getElem_cons_succ])
                                            refine wpAnyH_take (i := 2) (v := ?_) rfl (by kernel_rfl) (by kernel_rfl) (by kernel_rfl) (fun _ _ _ h => h) (Or.inl ⟨by rfl, ?y2⟩) (by assumption) ?_
                                            case y2 => intro w hSw; (try dsimp only at hSw); go_simp; (try with_reducible rfl)
                                            (try simp only [Act.put, List.setIfInBounds_toArray, List.set_cons_zero, List.set_cons_succ, List.getElem_toArray, List.getElem_cons_zero, List.getElem_cons_succ])
                                            refine wpAnyH_take (i := 3) (v := ?_) rfl (by kernel_rfl) (by kernel_rfl) (by kernel_rfl) (fun _ _ _ h => h) (Or.inl ⟨by rfl, ?y3⟩) (by assumption) ?_
                                            case y3 => intro w hSw; (try dsimp only at hSw); go_simp; (try with_reducible rfl)
                                            (try simp only [Act.put, List.setIfInBounds_toArray, List.set_cons_zero, List.set_cons_succ, List.getElem_toArray, List.getElem_cons_zero, List.getElem_cons_succ])
                                            refine wpAnyH_take (i := 4) (v := ?_) rfl (by kernel_rfl) (by kernel_rfl) (by kernel_rfl) (fun _ _ _ h => h) (Or.inl ⟨by rfl, ?y4⟩) (by assumption) ?_
                                            case y4 => intro w hSw; (try dsimp only at hSw); go_simp; (try with_reducible rfl)
                                            (try simp only [Act.put, List.setIfInBounds_toArray, List.set_cons_zero, List.set_cons_succ, List.getElem_toArray, List.getElem_cons_zero, List.getElem_cons_succ])
                                            refine wpAnyH_take (i := 5) (v := ?_) rfl (by kernel_rfl) (by kernel_rfl) (by kernel_rfl) (fun _ _ _ h => h) (Or.inl ⟨by rfl, ?y5⟩) (by assumption) ?_
                                            case y5 => intro w hSw; (try dsimp only at hSw); go_simp; (try with_reducible rfl)
                                            (try simp only [Act.put, List.setIfInBounds_toArray, List.set_cons_zero, List.set_cons_succ, List.getElem_toArray, List.getElem_cons_zero, List.getElem_cons_succ])
                                            refine wpAnyH_take (i := 6) (v := ?_) rfl (by kernel_rfl) (by kernel_rfl) (by kernel_rfl) (fun _ _ _ h => h) (Or.inl ⟨by rfl, ?y6⟩) (by assumption) ?_
                                            case y6 => intro w hSw; (try dsimp only at hSw); go_simp; (try with_reducible rfl)
                                            (try simp only [Act.put, List.setIfInBounds_toArray, List.set_cons_zero, List.set_cons_succ, List.getElem_toArray, List.getElem_cons_zero, List.getElem_cons_succ])
                                            refine wpAnyH_take (i := 7) (v := ?_) rfl (by kernel_rfl) (by kernel_rfl) (by kernel_rfl) (fun _ _ _ h => h) (Or.inl ⟨by rfl, ?y7⟩) (by assumption) ?_
                                            case y7 => intro w hSw; (try dsimp only at hSw); go_simp; (try with_reducible rfl)
                                            (try simp only [Act.put, List.setIfInBounds_toArray, List.set_cons_zero, List.set_cons_succ, List.getElem_toArray, List.getElem_cons_zero, List.getElem_cons_succ])
                                            refine wpAnyH_take (i := 8) (v := ?_) rfl (by kernel_rfl) (by kernel_rfl) (by kernel_rfl) (fun _ _ _ h => h) (Or.inl ⟨by rfl, ?y8⟩) (by assumption) ?_
                                            case y8 => intro w hSw; (try dsimp only at hSw); go_simp; (try with_reducible rfl)
                                            (try simp only [Act.put, List.setIfInBounds_toArray, List.set_cons_zero, List.set_cons_succ, List.getElem_toArray, List.getElem_cons_zero, List.getElem_cons_succ])
                                            refine wpAnyH_take (i := 9) (v := ?_) rfl (by kernel_rfl) (by kernel_rfl) (by kernel_rfl) (fun _ _ _ h => h) (Or.inl ⟨by rfl, ?y9⟩) (by assumption) ?_
                                            case y9 => intro w hSw; (try dsimp only at hSw); go_simp; (try with_reducible rfl)
                                            (try simp only [Act.put, List.setIfInBounds_toArray, List.set_cons_zero, List.set_cons_succ, List.getElem_toArray, List.getElem_cons_zero, List.getElem_cons_succ])
                                            refine wpAnyH_take (i := 10) (v := ?_) rfl (by kernel_rfl) (by kernel_rfl) (by kernel_rfl) (fun _ _ _ h => h) (Or.inl ⟨by rfl, ?y10⟩) (by assumption) ?_
                                            case y10 => intro w hSw; (try dsimp only at hSw); go_simp; (try with_reducible rfl)
                                            (try simp only [Act.put, List.setIfInBounds_toArray, List.set_cons_zero, List.set_cons_succ, List.getElem_toArray, List.getElem_cons_zero, List.getElem_cons_succ])
                                            refine wpAnyH_take (i := 11) (v := ?_) rfl (by kernel_rfl) (by kernel_rfl) (by kernel_rfl) (fun _ _ _ h => h) (Or.inl ⟨by rfl, ?y11⟩) (by assumption) ?_
                                            case y11 => intro w hSw; (try dsimp only at hSw); go_simp; (try with_reducible rfl)
                                            (try simp only [Act.put, List.setIfInBounds_toArray, List.set_cons_zero, List.set_cons_succ, List.getElem_toArray, List.getElem_cons_zero, List.getElem_cons_succ])
                                            refine wpAnyH_take (i := 12) (v := ?_) rfl (by kernel_rfl) (by kernel_rfl) (by kernel_rfl) (fun _ _ _ h => h) (Or.inl ⟨by rfl, ?y12⟩) (by assumption) ?_
                                            case y12 => intro w hSw; (try dsimp only at hSw); go_simp; (try with_reducible rfl)
                                            (try simp only [Act.put, List.setIfInBounds_toArray, List.set_cons_zero, List.set_cons_succ, List.getElem_toArray, List.getElem_cons_zero, List.getElem_cons_succ])
                                            refine wpAnyH_take (i := 13) (v := ?_) rfl (by kernel_rfl) (by kernel_rfl) (by kernel_rfl) (fun _ _ _ h => h) (Or.inl ⟨by rfl, ?y13⟩) (by assumption) ?_
                                            case y13 => intro w hSw; (try dsimp only at hSw); go_simp; (try with_reducible rfl)
                                            (try simp only [Act.put, List.setIfInBounds_toArray, List.set_cons_zero, List.set_cons_succ, List.getElem_toArray, List.getElem_cons_zero, List.getElem_cons_succ])
                                            refine wpAnyH_take (i := 14) (v := ?_) rfl (by kernel_rfl) (by kernel_rfl) (by kernel_rfl) (fun _ _ _ h => h) (Or.inl ⟨by rfl, ?y14⟩) (by assumption) ?_
                                            case y14 => intro w hSw; (try dsimp only at hSw); go_simp; (try with_reducible rfl)
                                            (try simp only [Act.put, List.setIfInBounds_toArray, List.set_cons_zero, List.set_cons_succ, List.getElem_toArray, List.getElem_cons_zero, List.getElem_cons_succ])
                                            refine wpAnyH_ready (rs := [15]) (by kernel_rfl) (by simp) ?_
                                            refine AllReadyH.cons rfl (fun K hK => ?_) AllReadyH.nil
                                            go_simp
                                            refine h15.mono ?_; clear h15; rintro e y7 ⟨rfl, hb7⟩
                                            have HB7 := Lib.hid hb7
                                            clear hb7
                                            refine hK.out _ _ (hS.out _ ((Below.refl _ _).drew.trans HB7.out)) (fun hHeld => ?_)
                                            clear hK K
                                            (try simp only [Act.put, List.setIfInBounds_toArray, List.set_cons_zero, List.set_cons_succ, List.getElem_toArray, List.getElem_cons_zero, List.getElem_cons_succ])
                                            refine wpAnyH_done (by kernel_rfl) ?_ _
                                            go_wp2_with fail
                                            go_roundw
                                            · exact ⟨m + 1, HM.out, by go_num, (HBY.out.drew).trans (HB7.out.mono (by have := HBY.out.size; exact this))⟩
                                            · have := HM.out; simp [RowKit.intOf]; omega
                                          · obtain rfl : m = nj := by omega
                                            have d8 : decide ((m : Int) < (m : Int)) = false := decide_eq_false (by omega)
                                            have d8n : decide (m < m) = false := decide_eq_false (by omega)
                                            have HBY := Lib.hid hby
                                            have hjj := HJ.out.2
                                            clear hby hm hlm r2 hjq hc2
                                            go_wp2_with fail
                                            go_roundw
                                            · exact ⟨j + 1, Nat.le_succ_of_le HJ.out.1, HJ.out.2, by go_num, HBY.out⟩
                                            · have := HJ.out.2; simp [RowKit.intOf]; omega
                                      · obtain rfl : j = rs.length := by omega
                                        have d7 : decide ((rs.length : Int) < (rs.length : Int)) = false := decide_eq_false (by omega)
                                        have d7n : decide (rs.length < rs.length) = false := decide_eq_false (by omega)
                                        have HBY := Lib.hid hby
                                        have hkk := HK.out
                                        clear hby hqj hj hlj
                                        go_wp2_with fail
                                        go_roundw
                                        · exact ⟨k + 1, N + 1, HK.out, by go_num, by go_num, by have := HN.out; omega, HBY.out⟩
                                        · have := HK.out; simp [RowKit.intOf]; omega
                                  · as_aux_lemma =>
                                    obtain ⟨j, hj⟩ : ∃ j, k = j + 1 := ⟨k - 1, by omega⟩
                                    obtain ⟨b', o', e0, hej⟩ := r1.2 j (by rw [← HNQ.out]; omega)
                                    cases e0
                                    have hp3 := HP3.out j hj
                                    generalize (rAt rs q).getD j 0 = y at *
                                    have hS : Hid (∀ W', Below wr.heap.size wr W' → W'.cell? ⟨g, q, none⟩ = some (.slice (some ⟨b1, o1, none⟩) nq c1) ∧ W'.cell? ⟨b1, o1 + k, none⟩ = some (.int .i64 ((x : Nat) : Int)) ∧ W'.cell? ⟨b1, o1 + j, none⟩ = some (.int .i64 y)) := fun W' q => ⟨(q.cell (World.block_lt_of_cell? _ _ hgq)).trans hgq, (q.cell (World.block_lt_of_cell? _ _ hek)).trans hek, (q.cell (World.block_lt_of_cell? _ _ hej)).trans hej⟩
                                    have dk : decide ((0 : Int) < (k : Int)) = true := decide_eq_true (by omega)
                                    have dkn : decide (0 < k) = true := decide_eq_true (by omega)
                                    have dy : decide (((x : Nat) : Int) ≤ y) = false := decide_eq_false (by omega)
                                    have hsub : IntKind.i64.wrap ((k : Int) - 1) = ((j : Nat) : Int) := by simp [IntKind.wrap, IntKind.signed, IntKind.bits]; omega
                                    have hsub2 : wrap64 ((k : Int) - 1) = ((j : Nat) : Int) := by unfold wrap64; omega
                                    have j0 : (0 : Int) ≤ ((j : Nat) : Int) := by omega
                                    have j1 : ((j : Nat) : Int) < (nq : Int) := by omega
                                    clear hgq hek hej r1 hkk hqq hk0 hj hp3 hc1
                                    go_wp2_with fail
                                    refine wp_region_held_drew (S := fun wz => wz.cell? ⟨g, q, none⟩ = some (.slice (some ⟨b1, o1, none⟩) nq c1) ∧ wz.cell? ⟨b1, o1 + k, none⟩ = some (.int .i64 ((x : Nat) : Int)) ∧ wz.cell? ⟨b1, o1 + j, none⟩ = some (.int .i64 y)) (by kernel_rfl) (hS.out _ (Below.refl _ _).drew) (fun hHeld => ?_)
                                    refine wpAnyH_take (i := 0) (v := ?_) rfl (by kernel_rfl) (by kernel_rfl) (by kernel_rfl) (fun _ _ _ h => h) (Or.inl ⟨by rfl, ?y0⟩) (by assumption) ?_
                                    case y0 => intro w hSw; (try dsimp only at hSw); go_simp; (try with_reducible rfl)
                                    (try simp only [Act.put, List.setIfInBounds_toArray, List.set_cons_zero, List.set_cons_succ, List.getElem_toArray, List.getElem_cons_zero, List.getElem_cons_succ])
                                    refine wpAnyH_take (i := 1) (v := ?_) rfl (by kernel_rfl) (by kernel_rfl) (by kernel_rfl) (fun _ _ _ h => h) (Or.inl ⟨by rfl, ?y1⟩) (by assumption) ?_
                                    case y1 => intro w hSw; (try dsimp only at hSw); go_simp; (try with_reducible rfl)
                                    (try simp only [Act.put, List.setIfInBounds_toArray, List.set_cons_zero, List.set_cons_succ, List.getElem_toArray, List.getElem_cons_zero, List.getElem_cons_succ])
                                    refine wpAnyH_take (i := 2) (v := ?_) rfl (by kernel_rfl) (by kernel_rfl) (by kernel_rfl) (fun _ _ _ h => h) (Or.inl ⟨by rfl, ?y2⟩) (by assumption) ?_
                                    case y2 => intro w hSw; (try dsimp only at hSw); go_simp; (try with_reducible rfl)
                                    (try simp only [Act.put, List.setIfInBounds_toArray, List.set_cons_zero, List.set_cons_succ, List.getElem_toArray, List.getElem_cons_zero, List.getElem_cons_succ])
                                    refine wpAnyH_take (i := 3) (v := ?_) rfl (by kernel_rfl) (by kernel_rfl) (by kernel_rfl) (fun _ _ _ h => h) (Or.inl ⟨by rfl, ?y3⟩) (by assumption) ?_
                                    case y3 => intro w hSw; (try dsimp only at hSw); go_simp; (try with_reducible rfl)
                                    (try simp only [Act.put, List.setIfInBounds_toArray, List.set_cons_zero, List.set_cons_succ, List.getElem_toArray, List.getElem_cons_zero, List.getElem_cons_succ])
                                    refine wpAnyH_take (i := 4) (v := ?_) rfl (by kernel_rfl) (by kernel_rfl) (by kernel_rfl) (fun _ _ _ h => h) (Or.inl ⟨by rfl, ?y4⟩) (by assumption) ?_
                                    case y4 => intro w hSw; (try dsimp only at hSw); go_simp; (try with_reducible rfl)
                                    (try simp only [Act.put, List.setIfInBounds_toArray, List.set_cons_zero, List.set_cons_succ, List.getElem_toArray, List.getElem_cons_zero, List.getElem_cons_succ])
                                    refine wpAnyH_take (i := 5) (v := ?_) rfl (by kernel_rfl) (by kernel_rfl) (by kernel_rfl) (fun _ _ _ h => h) (Or.inl ⟨by rfl, ?y5⟩) (by assumption) ?_
                                    case y5 => intro w hSw; (try dsimp only at hSw); go_simp; (try with_reducible rfl)
                                    (try simp only [Act.put, List.setIfInBounds_toArray, List.set_cons_zero, List.set_cons_succ, List.getElem_toArray, List.getElem_cons_zero, List.getElem_cons_succ])
                                    refine wpAnyH_take (i := 6) (v := ?_) rfl (by kernel_rfl) (by kernel_rfl) (by kernel_rfl) (fun _ _ _ h => h) (Or.inl ⟨by rfl, ?y6⟩) (by assumption) ?_
                                    case y6 => intro w hSw; (try dsimp only at hSw); go_simp; (try with_reducible rfl)
                                    (try simp only [Act.put, List.setIfInBounds_toArray, List.set_cons_zero, List.set_cons_succ, List.getElem_toArray, List.getElem_cons_zero, List.getElem_cons_succ])
                                    refine wpAnyH_take (i := 7) (v := ?_) rfl (by kernel_rfl) (by kernel_rfl) (by kernel_rfl) (fun _ _ _ h => h) (Or.inl ⟨by rfl, ?y7⟩) (by assumption) ?_
                                    case y7 => intro w hSw; (try dsimp only at hSw); go_simp; (try with_reducible rfl)
                                    (try simp only [Act.put, List.setIfInBounds_toArray, List.set_cons_zero, List.set_cons_succ, List.getElem_toArray, List.getElem_cons_zero, List.getElem_cons_succ])
                                    refine wpAnyH_take (i := 8) (v := ?_) rfl (by kernel_rfl) (by kernel_rfl) (by kernel_rfl) (fun _ _ _ h => h) (Or.inl ⟨by rfl, ?y8⟩) (by assumption) ?_
                                    case y8 => intro w hSw; (try dsimp only at hSw); go_simp; (try with_reducible rfl)
                                    (try simp only [Act.put, List.setIfInBounds_toArray, List.set_cons_zero, List.set_cons_succ, List.getElem_toArray, List.getElem_cons_zero, List.getElem_cons_succ])
                                    refine wpAnyH_take (i := 9) (v := ?_) rfl (by kernel_rfl) (by kernel_rfl) (by kernel_rfl) (fun _ _ _ h => h) (Or.inl ⟨by rfl, ?y9⟩) (by assumption) ?_
                                    case y9 => intro w hSw; (try dsimp only at hSw); go_simp; (try with_reducible rfl)
                                    (try simp only [Act.put, List.setIfInBounds_toArray, List.set_cons_zero, List.set_cons_succ, List.getElem_toArray, List.getElem_cons_zero, List.getElem_cons_succ])
                                    refine wpAnyH_take (i := 10) (v := ?_) rfl (by kernel_rfl) (by kernel_rfl) (by kernel_rfl) (fun _ _ _ h => h) (Or.inl ⟨by rfl, ?y10⟩) (by assumption) ?_
                                    case y10 => intro w hSw; (try dsimp only at hSw); go_simp; (try with_reducible rfl)
                                    (try simp only [Act.put, List.setIfInBounds_toArray, List.set_cons_zero, List.set_cons_succ, List.getElem_toArray, List.getElem_cons_zero, List.getElem_cons_succ])
                                    refine wpAnyH_ready (rs := [11]) (by kernel_rfl) (by simp) ?_
                                    refine AllReadyH.cons rfl (fun K hK => ?_) AllReadyH.nil
                                    go_simp
                                    refine h11.mono ?_; clear h11; rintro e y5 ⟨rfl, hy⟩
                                    replace hy := hy.symm
                                    subst hy
                                    refine hK.out _ _ (hS.out _ (Below.refl _ _).drew) (fun hHeld => ?_)
                                    clear hK K
                                    (try simp only [Act.put, List.setIfInBounds_toArray, List.set_cons_zero, List.set_cons_succ, List.getElem_toArray, List.getElem_cons_zero, List.getElem_cons_succ])
                                    refine wpAnyH_take (i := 12) (v := ?_) rfl (by kernel_rfl) (by kernel_rfl) (by kernel_rfl) (fun _ _ _ h => h) (Or.inl ⟨by rfl, ?y12⟩) (by assumption) ?_
                                    case y12 => intro w hSw; (try dsimp only at hSw); go_simp; (try with_reducible rfl)
                                    (try simp only [Act.put, List.setIfInBounds_toArray, List.set_cons_zero, List.set_cons_succ, List.getElem_toArray, List.getElem_cons_zero, List.getElem_cons_succ])
                                    refine wpAnyH_take (i := 13) (v := ?_) rfl (by kernel_rfl) (by kernel_rfl) (by kernel_rfl) (fun _ _ _ h => h) (Or.inl ⟨by rfl, ?y13⟩) (by assumption) ?_
                                    case y13 => intro w hSw; (try dsimp only at hSw); go_simp; (try with_reducible rfl)
                                    (try simp only [Act.put, List.setIfInBounds_toArray, List.set_cons_zero, List.set_cons_succ, List.getElem_toArray, List.getElem_cons_zero, List.getElem_cons_succ])
                                    refine wpAnyH_take (i := 14) (v := ?_) rfl (by kernel_rfl) (by kernel_rfl) (by kernel_rfl) (fun _ _ _ h => h) (Or.inl ⟨by rfl, ?y14⟩) (by assumption) ?_
                                    case y14 => intro w hSw; (try dsimp only at hSw); go_simp; (try with_reducible rfl)
                                    (try simp only [Act.put, List.setIfInBounds_toArray, List.set_cons_zero, List.set_cons_succ, List.getElem_toArray, List.getElem_cons_zero, List.getElem_cons_succ])
                                    refine wpAnyH_take (i := 15) (v := ?_) rfl (by kernel_rfl) (by kernel_rfl) (by kernel_rfl) (fun _ _ _ h => h) (Or.inl ⟨by rfl, ?y15⟩) (by assumption) ?_
                                    case y15 => intro w hSw; (try dsimp only at hSw); go_simp; (try with_reducible rfl)
                                    (try simp only [Act.put, List.setIfInBounds_toArray, List.set_cons_zero, List.set_cons_succ, List.getElem_toArray, List.getElem_cons_zero, List.getElem_cons_succ])
                                    refine wpAnyH_take (i := 16) (v := ?_) rfl (by kernel_rfl) (by kernel_rfl) (by kernel_rfl) (fun _ _ _ h => h) (Or.inl ⟨by rfl, ?y16⟩) (by assumption) ?_
                                    case y16 => intro w hSw; (try dsimp only at hSw); go_simp; (try with_reducible rfl)
                                    (try simp only [Act.put, List.setIfInBounds_toArray, List.set_cons_zero, List.set_cons_succ, List.getElem_toArray, List.getElem_cons_zero, List.getElem_cons_succ])
                                    refine wpAnyH_take (i := 17) (v := ?_) rfl (by kernel_rfl) (by kernel_rfl) (by kernel_rfl) (fun _ _ _ h => h) (Or.inl ⟨by rfl, ?y17⟩) (by assumption) ?_
                                    case y17 => intro w hSw; (try dsimp only at hSw); go_simp; (try with_reducible rfl)
                                    (try simp only [Act.put, List.setIfInBounds_toArray, List.set_cons_zero, List.set_cons_succ, List.getElem_toArray, List.getElem_cons_zero, List.getElem_cons_succ])
                                    refine wpAnyH_take (i := 18) (v := ?_) rfl (by kernel_rfl) (by kernel_rfl) (by kernel_rfl) (fun _ _ _ h => h) (Or.inl ⟨by rfl, ?y18⟩) (by assumption) ?_
                                    case y18 => intro w hSw; (try dsimp only at hSw); go_simp; (try with_reducible rfl)
                                    (try simp only [Act.put, List.setIfInBounds_toArray, List.set_cons_zero, List.set_cons_succ, List.getElem_toArray, List.getElem_cons_zero, List.getElem_cons_succ])
                                    refine wpAnyH_take (i := 19) (v := ?_) rfl (by kernel_rfl) (by kernel_rfl) (by kernel_rfl) (fun _ _ _ h => h) (Or.inl ⟨by rfl, ?y19⟩) (by assumption) ?_
                                    case y19 => intro w hSw; (try dsimp only at hSw); go_simp; (try with_reducible rfl)
                                    (try simp only [Act.put, List.setIfInBounds_toArray, List.set_cons_zero, List.set_cons_succ, List.getElem_toArray, List.getElem_cons_zero, List.getElem_cons_succ])
                                    refine wpAnyH_take (i := 20) (v := ?_) rfl (by kernel_rfl) (by kernel_rfl) (by kernel_rfl) (fun _ _ _ h => h) (Or.inl ⟨by rfl, ?y20⟩) (by assumption) ?_
                                    case y20 => intro w hSw; (try dsimp only at hSw); go_simp; (try with_reducible rfl)
                                    (try simp only [Act.put, List.setIfInBounds_toArray, List.set_cons_zero, List.set_cons_succ, List.getElem_toArray, List.getElem_cons_zero, List.getElem_cons_succ])
                                    refine wpAnyH_take (i := 21) (v := ?_) rfl (by kernel_rfl) (by kernel_rfl) (by kernel_rfl) (fun _ _ _ h => h) (Or.inl ⟨by rfl, ?y21⟩) (by assumption) ?_
                                    case y21 => intro w hSw; (try dsimp only at hSw); go_simp; (try with_reducible rfl)
                                    (try simp only [Act.put, List.setIfInBounds_toArray, List.set_cons_zero, List.set_cons_succ, List.getElem_toArray, List.getElem_cons_zero, List.getElem_cons_succ])
                                    refine wpAnyH_take (i := 22) (v := ?_) rfl (by kernel_rfl) (by kernel_rfl) (by kernel_rfl) (fun _ _ _ h => h) (Or.inl ⟨by rfl, ?y22⟩) (by assumption) ?_
                                    case y22 => intro w hSw; (try dsimp only at hSw); go_simp; (try with_reducible rfl)
                                    (try simp only [Act.put, List.setIfInBounds_toArray, List.set_cons_zero, List.set_cons_succ, List.getElem_toArray, List.getElem_cons_zero, List.getElem_cons_succ])
                                    refine wpAnyH_take (i := 23) (v := ?_) rfl (by kernel_rfl) (by kernel_rfl) (by kernel_rfl) (fun _ _ _ h => h) (Or.inl ⟨by rfl, ?y23⟩) (by assumption) ?_
                                    case y23 => intro w hSw; (try dsimp only at hSw); go_simp; (try with_reducible rfl)
                                    (try simp only [Act.put, List.setIfInBounds_toArray, List.set_cons_zero, List.set_cons_succ, List.getElem_toArray, List.getElem_cons_zero, List.getElem_cons_succ])
                                    refine wpAnyH_take (i := 24) (v := ?_) rfl (by kernel_rfl) (by kernel_rfl) (by kernel_rfl) (fun _ _ _ h => h) (Or.inl ⟨by rfl, ?y24⟩) (by assumption) ?_
                                    case y24 => intro w hSw; (try dsimp only at hSw); go_simp; (try with_reducible rfl)
                                    (try simp only [Act.put, List.setIfInBounds_toArray, List.set_cons_zero, List.set_cons_succ, List.getElem_toArray, List.getElem_cons_zero, List.getElem_cons_succ])
                                    refine wpAnyH_take (i := 25) (v := ?_) rfl (by kernel_rfl) (by kernel_rfl) (by kernel_rfl) (fun _ _ _ h => h) (Or.inl ⟨by rfl, ?y25⟩) (by assumption) ?_
                                    case y25 => intro w hSw; (try dsimp only at hSw); go_simp; (try with_reducible rfl)
                                    (try simp only [Act.put, List.setIfInBounds_toArray, List.set_cons_zero, List.set_cons_succ, List.getElem_toArray, List.getElem_cons_zero, List.getElem_cons_succ])
                                    refine wpAnyH_take (i := 26) (v := ?_) rfl (by kernel_rfl) (by kernel_rfl) (by kernel_rfl) (fun _ _ _ h => h) (Or.inl ⟨by rfl, ?y26⟩) (by assumption) ?_
                                    case y26 => intro w hSw; (try dsimp only at hSw); go_simp; (try with_reducible rfl)
                                    (try simp only [Act.put, List.setIfInBounds_toArray, List.set_cons_zero, List.set_cons_succ, List.getElem_toArray, List.getElem_cons_zero, List.getElem_cons_succ])
                                    refine wpAnyH_take (i := 27) (v := ?_) rfl (by kernel_rfl) (by kernel_rfl) (by kernel_rfl) (fun _ _ _ h => h) (Or.inl ⟨by rfl, ?y27⟩) (by assumption) ?_
                                    case y27 => intro w hSw; (try dsimp only at hSw); go_simp; (try with_reducible rfl)
                                    (try simp only [Act.put, List.setIfInBounds_toArray, List.set_cons_zero, List.set_cons_succ, List.getElem_toArray, List.getElem_cons_zero, List.getElem_cons_succ])
                                    refine wpAnyH_take (i := 28) (v := ?_) rfl (by kernel_rfl) (by kernel_rfl) (by kernel_rfl) (fun _ _ _ h => h) (Or.inl ⟨by rfl, ?y28⟩) (by assumption) ?_
                                    case y28 => intro w hSw; (try dsimp only at hSw); go_simp; (try with_reducible rfl)
                                    (try simp only [Act.put, List.setIfInBounds_toArray, List.set_cons_zero, List.set_cons_succ, List.getElem_toArray, List.getElem_cons_zero, List.getElem_cons_succ])
                                    refine wpAnyH_take (i := 29) (v := ?_) rfl (by kernel_rfl) (by kernel_rfl) (by kernel_rfl) (fun _ _ _ h => h) (Or.inl ⟨by rfl, ?y29⟩) (by assumption) ?_
                                    case y29 => intro w hSw; (try dsimp only at hSw); go_simp; (try with_reducible rfl)
                                    (try simp only [Act.put, List.setIfInBounds_toArray, List.set_cons_zero, List.set_cons_succ, List.getElem_toArray, List.getElem_cons_zero, List.getElem_cons_succ])
                                    refine wpAnyH_take (i := 30) (v := ?_) rfl (by kernel_rfl) (by kernel_rfl) (by kernel_rfl) (fun _ _ _ h => h) (Or.inl ⟨by rfl, ?y30⟩) (by assumption) ?_
                                    case y30 => intro w hSw; (try dsimp only at hSw); go_simp; (try with_reducible rfl)
                                    (try simp only [Act.put, List.setIfInBounds_toArray, List.set_cons_zero, List.set_cons_succ, List.getElem_toArray, List.getElem_cons_zero, List.getElem_cons_succ])
                                    refine wpAnyH_take (i := 31) (v := ?_) rfl (by kernel_rfl) (by kernel_rfl) (by kernel_rfl) (fun _ _ _ h => h) (Or.inl ⟨by rfl, ?y31⟩) (by assumption) ?_
                                    case y31 => intro w hSw; (try dsimp only at hSw); go_simp; (try with_reducible rfl)
                                    (try simp only [Act.put, List.setIfInBounds_toArray, List.set_cons_zero, List.set_cons_succ, List.getElem_toArray, List.getElem_cons_zero, List.getElem_cons_succ])
                                    refine wpAnyH_take (i := 32) (v := ?_) rfl (by kernel_rfl) (by kernel_rfl) (by kernel_rfl) (fun _ _ _ h => h) (Or.inl ⟨by rfl, ?y32⟩) (by assumption) ?_
                                    case y32 => intro w hSw; (try dsimp only at hSw); go_simp; (try with_reducible rfl)
                                    (try simp only [Act.put, List.setIfInBounds_toArray, List.set_cons_zero, List.set_cons_succ, List.getElem_toArray, List.getElem_cons_zero, List.getElem_cons_succ])
                                    refine wpAnyH_take (i := 33) (v := ?_) rfl (by kernel_rfl) (by kernel_rfl) (by kernel_rfl) (fun _ _ _ h => h) (Or.inl ⟨by rfl, ?y33⟩) (by assumption) ?_
                                    case y33 => intro w hSw; (try dsimp only at hSw); go_simp; (try with_reducible rfl)
                                    (try simp only [Act.put, List.setIfInBounds_toArray, List.set_cons_zero, List.set_cons_succ, List.getElem_toArray, List.getElem_cons_zero, List.getElem_cons_succ])
                                    refine wpAnyH_take (i := 34) (v := ?_) rfl (by kernel_rfl) (by kernel_rfl) (by kernel_rfl) (fun _ _ _ h => h) (Or.inl ⟨by rfl, ?y34⟩) (by assumption) ?_
                                    case y34 => intro w hSw; (try dsimp only at hSw); go_simp; (try with_reducible rfl)
                                    (try simp only [Act.put, List.setIfInBounds_toArray, List.set_cons_zero, List.set_cons_succ, List.getElem_toArray, List.getElem_cons_zero, List.getElem_cons_succ])
                                    refine wpAnyH_take (i := 35) (v := ?_) rfl (by kernel_rfl) (by kernel_rfl) (by kernel_rfl) (fun _ _ _ h => h) (Or.inl ⟨by rfl, ?y35⟩) (by assumption) ?_
                                    case y35 => intro w hSw; (try dsimp only at hSw); go_simp; (try with_reducible rfl)
                                    (try simp only [Act.put, List.setIfInBounds_toArray, List.set_cons_zero, List.set_cons_succ, List.getElem_toArray, List.getElem_cons_zero, List.getElem_cons_succ])
                                    refine wpAnyH_done (by kernel_rfl) ?_ _
                                    clear q0 q1 k0 k1 j0 j1 dk dkn dy hsub hsub2 hS
                                    have HBY := Lib.hid HBY.out.drew
                                    go_wp2_with fail
                                    go_loopw [22] (fun i wr => ∃ j : Nat, q ≤ j ∧ j ≤ rs.length ∧ i = .int .i64 (j : Int) ∧ Below w5.heap.size w5 wr) (fun i _ => rs.length - (RowKit.intOf i).toNat)
                                    case atStart => exact ⟨q, Nat.le_refl _, Nat.le_of_lt HQ.out, rfl, HBY.out⟩
                                    case round => as_aux_lemma =>
                                      clear HBY
                                      obtain ⟨j, hqj, hj, rfl, hby⟩ := hrel
                                      by_cases hlj : j < rs.length
                                      · obtain ⟨nj, hnj⟩ : ∃ nj, nj = (rAt rs j).length := ⟨_, rfl⟩
                                        have HNJ := Lib.hid hnj
                                        have HJ := Lib.hid (And.intro hqj hlj)
                                        have hnj6 : nj ≤ 20000 := by rw [hnj]; exact HRL.out j hlj
                                        have d7 : decide ((j : Int) < (rs.length : Int)) = true := decide_eq_true (by omega)
                                        have d7n : decide (j < rs.length) = true := decide_eq_true (by omega)
                                        have HBY := Lib.hid hby
                                        clear hby hqj hj hlj hnj
                                        go_wp2_with fail
                                        clear d7 d7n
                                        go_loopw [23] (fun i wr => ∃ m : Nat, m ≤ nj ∧ i = .int .i64 (m : Int) ∧ Below w5.heap.size w5 wr) (fun i _ => nj - (RowKit.intOf i).toNat)
                                        case atStart => exact ⟨0, Nat.zero_le _, rfl, HBY.out⟩
                                        case round => as_aux_lemma =>
                                          clear HBY
                                          obtain ⟨m, hm, rfl, hby⟩ := hrel
                                          obtain ⟨a2, c2, hgj, hc2, r2⟩ := row_el (HRW.out.below hby) HJ.out.2
                                          rw [← HNJ.out] at hgj
                                          have hjq := HJ.out.2
                                          have j0 : (0 : Int) ≤ (j : Int) := by omega
                                          have j1 : (j : Int) < (rs.length : Int) := by omega
                                          by_cases hlm : m < nj
                                          · obtain ⟨a1, c1, hgq, hc1, r1⟩ := row_el (HRW.out.below hby) HQ.out
                                            rw [← HNQ.out] at hgq
                                            obtain ⟨b1, o1, rfl, hek⟩ := r1.2 k (by rw [← HNQ.out]; exact HK.out)
                                            obtain ⟨b2, o2, rfl, hem⟩ := r2.2 m (by rw [← HNJ.out]; exact hlm)
                                            rw [HX.out] at hek
                                            have hb3 := HB5.out.trans (hby.mono HB5.out.size)
                                            have h15 := has_o ((HG.out.below hb3.drew).s) ((x : Nat) : Int) ((rAt rs j).getD m 0) (by unfold InR; omega)
                                            rw [HP4.out j HJ.out.1 HJ.out.2 m (by rw [← HNJ.out]; exact hlm)] at h15
                                            generalize (rAt rs j).getD m 0 = y at *
                                            have hkk := HK.out
                                            have hqq := HQ.out
                                            have q0 : (0 : Int) ≤ (q : Int) := by omega
                                            have q1 : (q : Int) < (rs.length : Int) := by omega
                                            have k0 : (0 : Int) ≤ (k : Int) := by omega
                                            have k1 : (k : Int) < (nq : Int) := by omega
                                            have m0 : (0 : Int) ≤ (m : Int) := by omega
                                            have m1 : (m : Int) < (nj : Int) := by omega
                                            have d8 : decide ((m : Int) < (nj : Int)) = true := decide_eq_true (by omega)
                                            have d8n : decide (m < nj) = true := decide_eq_true (by omega)
                                            have hS : Hid (∀ W', Below wr.heap.size wr W' → W'.cell? ⟨g, q, none⟩ = some (.slice (some ⟨b1, o1, none⟩) nq c1) ∧ W'.cell? ⟨b1, o1 + k, none⟩ = some (.int .i64 ((x : Nat) : Int)) ∧ W'.cell? ⟨g, j, none⟩ = some (.slice (some ⟨b2, o2, none⟩) nj c2) ∧ W'.cell? ⟨b2, o2 + m, none⟩ = some (.int .i64 y)) := fun W' q => ⟨(q.cell (World.block_lt_of_cell? _ _ hgq)).trans hgq, (q.cell (World.block_lt_of_cell? _ _ hek)).trans hek, (q.cell (World.block_lt_of_cell? _ _ hgj)).trans hgj, (q.cell (World.block_lt_of_cell? _ _ hem)).trans hem⟩
                                            have HBY := Lib.hid hby
                                            have HM := Lib.hid hlm
                                            clear hgq hek hem hby hb3 hjq hm hlm r1 r2 hkk hqq hc1 hc2
                                            go_wp2_with fail
                                            refine wp_region_held_drew (S := fun wz => wz.cell? ⟨g, q, none⟩ = some (.slice (some ⟨b1, o1, none⟩) nq c1) ∧ wz.cell? ⟨b1, o1 + k, none⟩ = some (.int .i64 ((x : Nat) : Int)) ∧ wz.cell? ⟨g, j, none⟩ = some (.slice (some ⟨b2, o2, none⟩) nj c2) ∧ wz.cell? ⟨b2, o2 + m, none⟩ = some (.int .i64 y)) (by kernel_rfl) (hS.out _ (Below.refl _ _).drew) (fun hHeld => ?_)
                                            refine wpAnyH_take (i := 0) (v := ?_) rfl (by kernel_rfl) (by kernel_rfl) (by kernel_rfl) (fun _ _ _ h => h) (Or.inl ⟨by rfl, ?y0⟩) (by assumption) ?_
                                            case y0 => intro w hSw; (try dsimp only at hSw); go_simp; (try with_reducible rfl)
                                            (try simp only [Act.put, List.setIfInBounds_toArray, List.set_cons_zero, List.set_cons_succ, List.getElem_toArray, List.getElem_cons_zero, List.getElem_cons_succ])
                                            refine wpAnyH_take (i := 1) (v := ?_) rfl (by kernel_rfl) (by kernel_rfl) (by kernel_rfl) (fun _ _ _ h => h) (Or.inl ⟨by rfl, ?y1⟩) (by assumption) ?_
                                            case y1 => intro w hSw; (try dsimp only at hSw); go_simp; (try with_reducible rfl)
                                            (try simp only [Act.put, List.setIfInBounds_toArray, List.set_cons_zero, List.set_cons_succ, List.getElem_toArray, List.getElem_cons_zero, List.getElem_cons_succ])
                                            refine wpAnyH_take (i := 2) (v := ?_) rfl (by kernel_rfl) (by kernel_rfl) (by kernel_rfl) (fun _ _ _ h => h) (Or.inl ⟨by rfl, ?y2⟩) (by assumption) ?_
                                            case y2 => intro w hSw; (try dsimp only at hSw); go_simp; (try with_reducible rfl)
                                            (try simp only [Act.put, List.setIfInBounds_toArray, List.set_cons_zero, List.set_cons_succ, List.getElem_toArray, List.getElem_cons_zero, List.getElem_cons_succ])
                                            refine wpAnyH_take (i := 3) (v := ?_) rfl (by kernel_rfl) (by kernel_rfl) (by kernel_rfl) (fun _ _ _ h => h) (Or.inl ⟨by rfl, ?y3⟩) (by assumption) ?_
                                            case y3 => intro w hSw; (try dsimp only at hSw); go_simp; (try with_reducible rfl)
                                            (try simp only [Act.put, List.setIfInBounds_toArray, List.set_cons_zero, List.set_cons_succ, List.getElem_toArray, List.getElem_cons_zero, List.getElem_cons_succ])
                                            refine wpAnyH_take (i := 4) (v := ?_) rfl (by kernel_rfl) (by kernel_rfl) (by kernel_rfl) (fun _ _ _ h => h) (Or.inl ⟨by rfl, ?y4⟩) (by assumption) ?_
                                            case y4 => intro w hSw; (try dsimp only at hSw); go_simp; (try with_reducible rfl)
                                            (try simp only [Act.put, List.setIfInBounds_toArray, List.set_cons_zero, List.set_cons_succ, List.getElem_toArray, List.getElem_cons_zero, List.getElem_cons_succ])
                                            refine wpAnyH_take (i := 5) (v := ?_) rfl (by kernel_rfl) (by kernel_rfl) (by kernel_rfl) (fun _ _ _ h => h) (Or.inl ⟨by rfl, ?y5⟩) (by assumption) ?_
                                            case y5 => intro w hSw; (try dsimp only at hSw); go_simp; (try with_reducible rfl)
                                            (try simp only [Act.put, List.setIfInBounds_toArray, List.set_cons_zero, List.set_cons_succ, List.getElem_toArray, List.getElem_cons_zero, List.getElem_cons_succ])
                                            refine wpAnyH_take (i := 6) (v := ?_) rfl (by kernel_rfl) (by kernel_rfl) (by kernel_rfl) (fun _ _ _ h => h) (Or.inl ⟨by rfl, ?y6⟩) (by assumption) ?_
                                            case y6 => intro w hSw; (try dsimp only at hSw); go_simp; (try with_reducible rfl)
                                            (try simp only [Act.put, List.setIfInBounds_toArray, List.set_cons_zero, List.set_cons_succ, List.getElem_toArray, List.getElem_cons_zero, List.getElem_cons_succ])
                                            refine wpAnyH_take (i := 7) (v := ?_) rfl (by kernel_rfl) (by kernel_rfl) (by kernel_rfl) (fun _ _ _ h => h) (Or.inl ⟨by rfl, ?y7⟩) (by assumption) ?_
                                            case y7 => intro w hSw; (try dsimp only at hSw); go_simp; (try with_reducible rfl)
                                            (try simp only [Act.put, List.setIfInBounds_toArray, List.set_cons_zero, List.set_cons_succ, List.getElem_toArray, List.getElem_cons_zero, List.getElem_cons_succ])
                                            refine wpAnyH_take (i := 8) (v := ?_) rfl (by kernel_rfl) (by kernel_rfl) (by kernel_rfl) (fun _ _ _ h => h) (Or.inl ⟨by rfl, ?y8⟩) (by assumption) ?_
                                            case y8 => intro w hSw; (try dsimp only at hSw); go_simp; (try with_reducible rfl)
                                            (try simp only [Act.put, List.setIfInBounds_toArray, List.set_cons_zero, List.set_cons_succ, List.getElem_toArray, List.getElem_cons_zero, List.getElem_cons_succ])
                                            refine wpAnyH_take (i := 9) (v := ?_) rfl (by kernel_rfl) (by kernel_rfl) (by kernel_rfl) (fun _ _ _ h => h) (Or.inl ⟨by rfl, ?y9⟩) (by assumption) ?_
                                            case y9 => intro w hSw; (try dsimp only at hSw); go_simp; (try with_reducible rfl)
                                            (try simp only [Act.put, List.setIfInBounds_toArray, List.set_cons_zero, List.set_cons_succ, List.getElem_toArray, List.getElem_cons_zero, List.getElem_cons_succ])
                                            refine wpAnyH_take (i := 10) (v := ?_) rfl (by kernel_rfl) (by kernel_rfl) (by kernel_rfl) (fun _ _ _ h => h) (Or.inl ⟨by rfl, ?y10⟩) (by assumption) ?_
                                            case y10 => intro w hSw; (try dsimp only at hSw); go_simp; (try with_reducible rfl)
                                            (try simp only [Act.put, List.setIfInBounds_toArray, List.set_cons_zero, List.set_cons_succ, List.getElem_toArray, List.getElem_cons_zero, List.getElem_cons_succ])
                                            refine wpAnyH_take (i := 11) (v := ?_) rfl (by kernel_rfl) (by kernel_rfl) (by kernel_rfl) (fun _ _ _ h => h) (Or.inl ⟨by rfl, ?y11⟩) (by assumption) ?_
                                            case y11 => intro w hSw; (try dsimp only at hSw); go_simp; (try with_reducible rfl)
                                            (try simp only [Act.put, List.setIfInBounds_toArray, List.set_cons_zero, List.set_cons_succ, List.getElem_toArray, List.getElem_cons_zero, List.getElem_cons_succ])
                                            refine wpAnyH_take (i := 12) (v := ?_) rfl (by kernel_rfl) (by kernel_rfl) (by kernel_rfl) (fun _ _ _ h => h) (Or.inl ⟨by rfl, ?y12⟩) (by assumption) ?_
                                            case y12 => intro w hSw; (try dsimp only at hSw); go_simp; (try with_reducible rfl)
                                            (try simp only [Act.put, List.setIfInBounds_toArray, List.set_cons_zero, List.set_cons_succ, List.getElem_toArray, List.getElem_cons_zero, List.getElem_cons_succ])
                                            refine wpAnyH_take (i := 13) (v := ?_) rfl (by kernel_rfl) (by kernel_rfl) (by kernel_rfl) (fun _ _ _ h => h) (Or.inl ⟨by rfl, ?y13⟩) (by assumption) ?_
                                            case y13 => intro w hSw; (try dsimp only at hSw); go_simp; (try with_reducible rfl)
                                            (try simp only [Act.put, List.setIfInBounds_toArray, List.set_cons_zero, List.set_cons_succ, List.getElem_toArray, List.getElem_cons_zero, List.getElem_cons_succ])
                                            refine wpAnyH_take (i := 14) (v := ?_) rfl (by kernel_rfl) (by kernel_rfl) (by kernel_rfl) (fun _ _ _ h => h) (Or.inl ⟨by rfl, ?y14⟩) (by assumption) ?_
                                            case y14 => intro w hSw; (try dsimp only at hSw); go_simp; (try with_reducible rfl)
                                            (try simp only [Act.put, List.setIfInBounds_toArray, List.set_cons_zero, List.set_cons_succ, List.getElem_toArray, List.getElem_cons_zero, List.getElem_cons_succ])
                                            refine wpAnyH_ready (rs := [15]) (by kernel_rfl) (by simp) ?_
                                            refine AllReadyH.cons rfl (fun K hK => ?_) AllReadyH.nil
                                            go_simp
                                            refine h15.mono ?_; clear h15; rintro e y7 ⟨rfl, hb7⟩
                                            have HB7 := Lib.hid hb7
                                            clear hb7
                                            refine hK.out _ _ (hS.out _ ((Below.refl _ _).drew.trans HB7.out)) (fun hHeld => ?_)
                                            clear hK K
                                            (try simp only [Act.put, List.setIfInBounds_toArray, List.set_cons_zero, List.set_cons_succ, List.getElem_toArray, List.getElem_cons_zero, List.getElem_cons_succ])
                                            refine wpAnyH_done (by kernel_rfl) ?_ _
                                            go_wp2_with fail
                                            go_roundw
                                            · exact ⟨m + 1, HM.out, by go_num, (HBY.out.drew).trans (HB7.out.mono (by have := HBY.out.size; exact this))⟩
                                            · have := HM.out; simp [RowKit.intOf]; omega
                                          · obtain rfl : m = nj := by omega
                                            have d8 : decide ((m : Int) < (m : Int)) = false := decide_eq_false (by omega)
                                            have d8n : decide (m < m) = false := decide_eq_false (by omega)
                                            have HBY := Lib.hid hby
                                            have hjj := HJ.out.2
                                            clear hby hm hlm r2 hjq hc2
                                            go_wp2_with fail
                                            go_roundw
                                            · exact ⟨j + 1, Nat.le_succ_of_le HJ.out.1, HJ.out.2, by go_num, HBY.out⟩
                                            · have := HJ.out.2; simp [RowKit.intOf]; omega
                                      · obtain rfl : j = rs.length := by omega
                                        have d7 : decide ((rs.length : Int) < (rs.length : Int)) = false := decide_eq_false (by omega)
                                        have d7n : decide (rs.length < rs.length) = false := decide_eq_false (by omega)
                                        have HBY := Lib.hid hby
                                        have hkk := HK.out
                                        clear hby hqj hj hlj
                                        go_wp2_with fail
                                        go_roundw
                                        · exact ⟨k + 1, N + 1, HK.out, by go_num, by go_num, by have := HN.out; omega, HBY.out⟩
                                        · have := HK.out; simp [RowKit.intOf]; omega
                          · obtain rfl : k = nq := by omega
                            have d5 : decide ((k : Int) < (k : Int)) = false := decide_eq_false (by omega)
                            have d5n : decide (k < k) = false := decide_eq_false (by omega)
                            have HBY := Lib.hid hby
                            have HN := Lib.hid (hN.trans HNF.out)
                            have hqq2 := HQ.out
                            clear hby hk hlk r1 hc1 hN
                            go_wp2_with fail
                            go_roundw
                            · exact ⟨q + 1, N, HQ.out, by go_num, rfl, HN.out, HBY.out⟩
                            · have := HQ.out; simp [RowKit.intOf]; omega
                      · obtain rfl : q = rs.length := by omega
                        have d4 : decide ((rs.length : Int) < (rs.length : Int)) = false := decide_eq_false (by omega)
                        have d4n : decide (rs.length < rs.length) = false := decide_eq_false (by omega)
                        have hNE : N0 = l.length := by rw [hN0, List.take_length]; exact HSN.out
                        subst hNE
                        have dn : ((l.length : Int) == (l.length : Int)) = true := by simp
                        have HBY := Lib.hid hby
                        clear hby hq hlq hN0
                        have HBE := Lib.hid (HB5.out.trans (HBY.out.mono HB5.out.size))
                        go_wp2_with fail
                        refine (awake14 _).mono ?_; rintro e w10 ⟨rfl, hb10⟩
                        have HEND := Lib.hid (HG.out.s.b.trans ((HBE.out.trans (hb10.mono HBE.out.size)).mono HG.out.s.b.size))
                        clear hb10
                        go_wp2_with fail
                        go_ret
                        exact ⟨rfl, HEND.out⟩
        · have hmade := made_no m (by omega) a c l hn w
          go_enter Try.func4, Try.ntmps4
          go_wp2_with fail
          refine hfew.mono ?_; rintro e w1 ⟨rfl, rfl⟩
          go_wp2_with fail
          refine hmade.mono ?_; rintro e w2 ⟨xa, xn, xc, rfl, hb2⟩
          have HB2 := Lib.hid (hb2.trans ((below1 w2 (.cells #[.slice xa xn xc] 29)).mono hb2.size))
          clear hb2
          go_wp2_with fail
          refine (awake14 _).mono ?_; rintro e w3 ⟨rfl, hb⟩
          have HB3 := Lib.hid (HB2.out.trans (hb.mono HB2.out.size))
          clear hb
          go_wp2_with fail
          go_ret
          exact ⟨rfl, HB3.out⟩
      · have dL : decide (60 < (L.length : Int)) = true := decide_eq_true (by omega)
        go_enter Try.func4, Try.ntmps4
        go_wp2_with fail
        refine hfew.mono ?_; rintro e w1 ⟨rfl, rfl⟩
        go_wp2_with fail
        refine (awake14 _).mono ?_; rintro e w2 ⟨rfl, hb⟩
        go_wp2_with fail
        go_ret
        exact ⟨rfl, hb⟩
    · have dm : decide (12 < m) = true := decide_eq_true (by omega)
      go_enter Try.func4, Try.ntmps4
      go_wp2_with fail
      refine hfew.mono ?_; rintro e w1 ⟨rfl, rfl⟩
      go_wp2_with fail
      refine (awake14 _).mono ?_; rintro e w2 ⟨rfl, hb⟩
      go_wp2_with fail
      go_ret
      exact ⟨rfl, hb⟩
end Go.Proofs.Ythaepdkeakmfaaa
