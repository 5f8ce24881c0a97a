/-
  OrderCircles of layer 14. No conditions.
-/
import Derived.Test.YthaepdkeakmfaaaOrdA
namespace Go.Proofs.Ythaepdkeakmfaaa
open Go.RowKit
set_option linter.unusedSimpArgs false
set_option linter.unusedVariables false

theorem cir_in {R : List (List Int)} {L C : List Int} {s : Bool} (h0 : s = false → C = []) (h1 : s = true → IsCyc R (sel R.length L) C) : ∀ z ∈ C, gnd R.length z := fun z hz => by
  cases s with
  | false => rw [h0 rfl] at hz; cases hz
  | true => exact (mem_sel.1 ((h1 rfl).sub z hz)).1
theorem cir_p {R : List (List Int)} {L C : List Int} {s : Bool} (h0 : s = false → C = []) (h1 : s = true → IsCyc R (sel R.length L) C) : ∀ i, i < C.length → C.getD i 0 ∈ L ∧ C.getD i 0 ∉ C.take i ∧ C.getD (if i + 1 < C.length then i + 1 else 0) 0 ∈ gR R (C.getD i 0).toNat ∧ gnd R.length (C.getD i 0) := fun i hi => by
  have hg := cir_in h0 h1 (C.getD i 0) (by rw [getD_lt _ _ hi]; exact List.getElem_mem hi)
  cases s with
  | false => rw [h0 rfl] at hi; cases hi
  | true =>
    have h := h1 rfl
    refine ⟨(mem_sel.1 (h.sub _ (by rw [getD_lt _ _ hi]; exact List.getElem_mem hi))).2, fun q => ?_, h.rd i hi, hg⟩
    obtain ⟨j, hj, e⟩ := List.getElem_of_mem q
    rw [List.length_take] at hj
    rw [List.getElem_take, getD_lt _ _ hi] at e
    have := List.pairwise_iff_getElem.1 h.nd j i (by omega) hi (by omega)
    exact this e
theorem cir_len {R : List (List Int)} {L C : List Int} {s : Bool} (hI : GrI R) (h0 : s = false → C = []) (h1 : s = true → IsCyc R (sel R.length L) C) : (s = false → C.length = 0) ∧ (s = true → 0 < C.length) ∧ C.length ≤ 20000 := by
  have hi := hI.hi
  refine ⟨fun q => by rw [h0 q]; rfl, fun q => (h1 q).pos, ?_⟩
  cases s with
  | false => rw [h0 rfl]; simp
  | true => exact Nat.le_trans (nodup_len (h1 rfl).nd (cir_in h0 h1)) hi
theorem nxt_in {k n : Nat} (h : k + 1 < n) (hn : n ≤ 20000) : (0 : Int) ≤ (k : Int) + 1 ∧ (k : Int) + 1 < (n : Int) ∧ decide ((k : Int) + 1 < (n : Int)) = true ∧ decide (k + 1 < n) = true :=
  ⟨by omega, by omega, decide_eq_true (by omega), decide_eq_true h⟩
theorem nxt_out {k n : Nat} (h : ¬ k + 1 < n) (h2 : k < n) (hn : n ≤ 20000) : decide ((k : Int) + 1 < (n : Int)) = false ∧ decide (k + 1 < n) = false :=
  ⟨decide_eq_false (by omega), decide_eq_false h⟩
theorem cir_next {C : List Int} {k : Nat} (h : k < C.length) : 0 < C.length := by omega
theorem reads_takeO {w : World} {a : Option Addr} {L : List Int} (h : Reads w a L) (k : Nat) : Reads w a (L.take k) := by
  refine ⟨fun z hz => h.1 z (List.mem_of_mem_take hz), fun i hi => ?_⟩
  rw [List.length_take] at hi
  obtain ⟨b, off, e, hc⟩ := h.2 i (by omega)
  refine ⟨b, off, e, ?_⟩
  rw [hc, getD_lt _ _ (by omega), getD_lt _ _ (by rw [List.length_take]; omega), List.getElem_take]
theorem ghas_at {R : List (List Int)} {x : Nat} (hx : x < R.length) {y : Int} (hy : y ∈ gR R x) : ghas R ((x : Nat) : Int) y = true := by
  unfold ghas; rw [greads_nat hx]; exact decide_eq_true hy
theorem s_same {s t : Bool} {P : Prop} (h : s = true ↔ P) (k : t = true ↔ P) : s = t := Bool.eq_iff_iff.2 (h.trans k.symm)
set_option maxHeartbeats 8000000 in
set_option maxRecDepth 100000 in
theorem circles14 (m : Int) (a : Option Addr) (c : Nat) (l : List GA) (fa : Option Addr) (fc : Nat) (L : List Int) (w : World) (h : ActsG w a l) (hn : (l.length : Int) ≤ 9223372036854775807) (hr : Reads w fa L) (hnL : (L.length : Int) ≤ 9223372036854775807) :
    Calls Try.prog 5 #[.int .i64 m, .slice a l.length c, .slice fa L.length fc] w fun e w' => e = .returned (.bool true) ∧ Below w.heap.size w w' := by
  have hfew := few_g a c l w h hn
  have H := Lib.hid h; have HR := Lib.hid hr
  clear h hr
  cases hf : gfew l with
  | false =>
    rw [hf] at hfew
    go_enter Try.func5, Try.ntmps5
    go_wp2_with fail
    refine hfew.mono ?_; rintro e w1 ⟨rfl, rfl⟩
    go_wp2_with fail
    refine (awake14 _).mono ?_; rintro e w2 ⟨rfl, hb⟩
    go_wp2_with fail
    go_ret
    exact ⟨rfl, hb⟩
  | true =>
    rw [hf] at hfew
    have HF := Lib.hid hf
    clear hf
    by_cases hm12 : m ≤ 12
    · have dm : decide (12 < m) = false := decide_eq_false (by omega)
      by_cases hL : L.length ≤ 60
      · have dL : decide (60 < (L.length : Int)) = false := decide_eq_false (by omega)
        by_cases hm1 : 1 ≤ m
        · obtain ⟨n, rfl⟩ := Int.eq_ofNat_of_zero_le (by omega : 0 ≤ m)
          have hmade := made_ok n (by omega) (by omega) a c l w H.out HF.out
          go_enter Try.func5, Try.ntmps5
          go_wp2_with fail
          refine hfew.mono ?_; rintro e w1 ⟨rfl, rfl⟩
          go_wp2_with fail
          refine hmade.mono ?_; rintro e w2 ⟨B, R, F, x, rfl, hG⟩
          obtain ⟨xa, xc, us, rfl, _⟩ := hG.x
          have hb3 := below1 w2 (.cells #[.slice xa R.length xc] 29)
          have hG3 := hG.below hb3
          have hbx : (w2.alloc (.cells #[.slice xa R.length xc] 29)).cell? ⟨w2.heap.size, 0, none⟩ = some (.slice xa R.length xc) := by simp
          have HI := Lib.hid hG3.s.r.1
          have hl := HI.out.hi
          obtain ⟨bx, hbxe⟩ : ∃ bx, bx = w2.heap.size := ⟨_, rfl⟩
          clear hb3 hG hfew hmade
          go_upto_region 8 with fail
          rw [← hbxe] at hbx ⊢
          clear hbxe
          generalize w2.alloc (.cells #[.slice xa R.length xc] 29) = w3 at *
          have hS : Hid (∀ W', Below w3.heap.size w3 W' → W'.cell? ⟨bx, 0, none⟩ = some (.slice xa R.length xc)) := fun W' q => (q.cell (p := ⟨bx, 0, none⟩) (World.block_lt_of_cell? _ _ hbx)).trans hbx
          have HG := Lib.hid hG3
          have HR3 : Hid (∀ W', Below w3.heap.size w3 W' → Reads W' fa L) := fun W' q => (HR.out.below HG.out.s.b).below q
          have hn6 : L.length ≤ 1000000 := by omega
          have HAI : Hid (∀ z ∈ sel R.length L, InR z) := fun z hz => by have := (mem_sel.1 hz).1; unfold gnd at this; unfold InR; omega
          have q8 := order_o HG.out.s fa fc L (HR3.out _ (Below.refl _ _)) hn6
          clear hG3
          go_wp2_with fail
          refine q8.mono ?_; clear q8; rintro e w4 ⟨u1, l1, s1, rfl, ho1, hO1, hs1, hb4⟩
          generalize hp1 : (if s1 = true then [] else l1) = p1 at *
          clear hp1
          have q9 := circle_o (HG.out.below hb4).s fa fc L (HR3.out _ hb4) hn6
          have HB4 := Lib.hid hb4
          have HO1 := Lib.hid (And.intro hO1 hs1)
          clear ho1 hb4 hO1 hs1
          go_wp2_with fail
          refine q9.mono ?_; clear q9; rintro e w5 ⟨u2, C, l2, s2, rfl, ho2, hC0, hC1, hO2, hs2, hb5⟩
          obtain rfl := hO2.uniq HO1.out.1
          obtain rfl := s_same hs2 HO1.out.2
          have HCP := Lib.hid (cir_p hC0 hC1)
          have hcl := cir_len HI.out hC0 hC1
          obtain ⟨ca, cc, rfl, hcap, _, hrC⟩ := Own.sl ho2 (fun z hz => by have := cir_in hC0 hC1 z hz; unfold gnd at this; unfold InR; omega)
          have HRC := Lib.hid hrC
          have HB5 := Lib.hid (HB4.out.trans (hb5.mono HB4.out.size))
          clear ho2 hb5 hC0 hC1 hO2 hs2 hrC HO1
          cases s2 with
          | false =>
            have hcz := hcl.1 rfl
            rw [show ecir false = 0 from rfl]
            have d2 : decide ((0 : Int) < (C.length : Int)) = false := decide_eq_false (by omega)
            have d2n : decide (0 < C.length) = false := decide_eq_false (by omega)
            have hcN := hcl.2.2
            have HCZ := Lib.hid hcz
            clear hcz hcl
            go_upto_region 12 with fail
            clear d2 d2n
            go_wp2_with fail
            go_loopw [13] (fun i wr => ∃ k : Nat, k ≤ C.length ∧ i = .int .i64 (k : Int) ∧ Below w5.heap.size w5 wr) (fun i _ => C.length - (RowKit.intOf i).toNat)
            case atStart => exact ⟨0, Nat.zero_le _, rfl, Below.refl _ _⟩
            case round =>
              obtain ⟨k, hk, rfl, hby⟩ := hrel
              by_cases hlt : k < C.length
              · exact absurd hlt (by rw [HCZ.out]; omega)
              · obtain rfl : k = C.length := by omega
                have hd0 : decide ((C.length : Int) < (C.length : Int)) = false := decide_eq_false (by omega)
                have hb3 := Lib.hid (HB5.out.trans (hby.mono HB5.out.size))
                clear hby hk hlt
                go_wp2_with fail
                refine (awake14 _).mono ?_; rintro e w10 ⟨rfl, hb10⟩
                have HEND := Lib.hid (HG.out.s.b.trans ((hb3.out.trans (hb10.mono hb3.out.size)).mono HG.out.s.b.size))
                clear hb10
                go_wp2_with fail
                go_ret
                exact ⟨rfl, HEND.out⟩
          | true =>
            have hcz := hcl.2.1 rfl
            rw [show ecir true = 26 from rfl]
            have d2 : decide ((0 : Int) < (C.length : Int)) = true := decide_eq_true (by omega)
            have d2n : decide (0 < C.length) = true := decide_eq_true (by omega)
            have hcN := hcl.2.2
            clear hcz hcl
            go_upto_region 12 with fail
            clear d2 d2n
            go_wp2_with fail
            go_loopw [13] (fun i wr => ∃ k : Nat, k ≤ C.length ∧ i = .int .i64 (k : Int) ∧ Below w5.heap.size w5 wr) (fun i _ => C.length - (RowKit.intOf i).toNat)
            case atStart => exact ⟨0, Nat.zero_le _, rfl, Below.refl _ _⟩
            case round =>
              obtain ⟨k, hk, rfl, hby⟩ := hrel
              by_cases hlt : k < C.length
              · obtain ⟨p1, p2, p3, p4⟩ := HCP.out k hlt
                have hq := cir_next hlt
                obtain ⟨x, hx⟩ : ∃ x : Nat, C.getD k 0 = ((x : Nat) : Int) := ⟨(C.getD k 0).toNat, by unfold gnd at p4; omega⟩
                have hxl : x < R.length := by unfold gnd at p4; omega
                obtain ⟨ub, uo, rfl, hck⟩ := (HRC.out.below hby).2 k hlt
                obtain ⟨ub', uo', e0, hc0⟩ := (HRC.out.below hby).2 0 (by omega)
                cases e0
                rw [Nat.add_zero] at hc0
                rw [hx] at hck p1 p2 p3
                rw [Int.toNat_natCast] at p3
                have hS : Hid (∀ W', Below wr.heap.size wr W' → W'.cell? ⟨ub, uo + k, none⟩ = some (.int .i64 ((x : Nat) : Int))) := fun W' q => (q.cell (World.block_lt_of_cell? _ _ hck)).trans hck
                have hb3 := HB5.out.trans (hby.mono HB5.out.size)
                have h5 := has_any fa fc L ((x : Nat) : Int) wr.drew (HR3.out _ hb3.drew) (by omega)
                rw [decide_eq_true p1] at h5
                have h15 := has_any (some ⟨ub, uo, none⟩) cc (C.take k) ((x : Nat) : Int) wr.drew (((reads_takeO (HRC.out.below hby) k).below (Below.refl _ _).drew)) (by rw [List.length_take]; omega)
                rw [decide_eq_false p2, List.length_take, Nat.min_eq_left (Nat.le_of_lt hlt)] at h15
                have i0 : (0 : Int) ≤ (k : Int) := by omega
                have i1 : (k : Int) < (C.length : Int) := by omega
                have i2 : (k : Int) ≤ (cc : Int) := by omega
                have i3 : (C.length : Int) ≤ (cc : Int) := by omega
                have i4 : (0 : Int) < (C.length : Int) := by omega
                have hgi : InR ((x : Nat) : Int) := by unfold InR; omega
                have hgs := fun y (hy : y ∈ gR R x) => ghas_at hxl hy
                have h24 := fun y => has_o ((HG.out.below hb3.drew).s) ((x : Nat) : Int) y hgi
                have HBY := Lib.hid hby
                have HLT := Lib.hid hlt
                by_cases hk1 : k + 1 < C.length
                · rw [if_pos hk1] at p3
                  obtain ⟨ub', uo', e0, hc1⟩ := (HRC.out.below hby).2 (k + 1) hk1
                  cases e0
                  have h24 := h24 (C.getD (k + 1) 0)
                  rw [hgs _ p3] at h24
                  generalize C.getD (k + 1) 0 = y at *
                  generalize C.getD 0 0 = y0 at *
                  clear p1 p2 p3 p4 hx
                  obtain ⟨j0, j1, j2, j3⟩ := nxt_in hk1 hcN
                  clear hck hby hlt hk hb3 hgs hq hk1
                  go_wp2_with fail
                  refine wp_region_held_drew (S := fun wz => wz.cell? ⟨ub, uo + k, none⟩ = some (.int .i64 ((x : Nat) : Int))) (by kernel_rfl) (hS.out _ (Below.refl _ _).drew) (fun hHeld => ?_)
                  refine wpAnyH_take (i := 0) (v := ?_) rfl (by kernel_rfl) (by kernel_rfl) (by kernel_rfl) (fun _ _ _ h => h) (Or.inl ⟨by rfl, ?y0⟩) (by assumption) ?_
                  case y0 => intro w hSw; (try dsimp only at hSw); go_simp; (try with_reducible rfl)
                  (try simp only [Act.put, List.setIfInBounds_toArray, List.set_cons_zero, List.set_cons_succ, List.getElem_toArray, List.getElem_cons_zero, List.getElem_cons_succ])
                  refine wpAnyH_take (i := 1) (v := ?_) rfl (by kernel_rfl) (by kernel_rfl) (by kernel_rfl) (fun _ _ _ h => h) (Or.inl ⟨by rfl, ?y1⟩) (by assumption) ?_
                  case y1 => intro w hSw; (try dsimp only at hSw); go_simp; (try with_reducible rfl)
                  (try simp only [Act.put, List.setIfInBounds_toArray, List.set_cons_zero, List.set_cons_succ, List.getElem_toArray, List.getElem_cons_zero, List.getElem_cons_succ])
                  refine wpAnyH_take (i := 2) (v := ?_) rfl (by kernel_rfl) (by kernel_rfl) (by kernel_rfl) (fun _ _ _ h => h) (Or.inl ⟨by rfl, ?y2⟩) (by assumption) ?_
                  case y2 => intro w hSw; (try dsimp only at hSw); go_simp; (try with_reducible rfl)
                  (try simp only [Act.put, List.setIfInBounds_toArray, List.set_cons_zero, List.set_cons_succ, List.getElem_toArray, List.getElem_cons_zero, List.getElem_cons_succ])
                  refine wpAnyH_take (i := 3) (v := ?_) rfl (by kernel_rfl) (by kernel_rfl) (by kernel_rfl) (fun _ _ _ h => h) (Or.inl ⟨by rfl, ?y3⟩) (by assumption) ?_
                  case y3 => intro w hSw; (try dsimp only at hSw); go_simp; (try with_reducible rfl)
                  (try simp only [Act.put, List.setIfInBounds_toArray, List.set_cons_zero, List.set_cons_succ, List.getElem_toArray, List.getElem_cons_zero, List.getElem_cons_succ])
                  refine wpAnyH_take (i := 4) (v := ?_) rfl (by kernel_rfl) (by kernel_rfl) (by kernel_rfl) (fun _ _ _ h => h) (Or.inl ⟨by rfl, ?y4⟩) (by assumption) ?_
                  case y4 => intro w hSw; (try dsimp only at hSw); go_simp; (try with_reducible rfl)
                  (try simp only [Act.put, List.setIfInBounds_toArray, List.set_cons_zero, List.set_cons_succ, List.getElem_toArray, List.getElem_cons_zero, List.getElem_cons_succ])
                  refine wpAnyH_ready (rs := [5]) (by kernel_rfl) (by simp) ?_
                  refine AllReadyH.cons rfl (fun K hK => ?_) AllReadyH.nil
                  go_simp
                  refine h5.mono ?_; clear h5; rintro e y5 ⟨rfl, hy⟩
                  replace hy := hy.symm
                  subst hy
                  refine hK.out _ _ (hS.out _ (Below.refl _ _).drew) (fun hHeld => ?_)
                  clear hK K
                  (try simp only [Act.put, List.setIfInBounds_toArray, List.set_cons_zero, List.set_cons_succ, List.getElem_toArray, List.getElem_cons_zero, List.getElem_cons_succ])
                  refine wpAnyH_take (i := 6) (v := ?_) rfl (by kernel_rfl) (by kernel_rfl) (by kernel_rfl) (fun _ _ _ h => h) (Or.inl ⟨by rfl, ?y6⟩) (by assumption) ?_
                  case y6 => intro w hSw; (try dsimp only at hSw); go_simp; (try with_reducible rfl)
                  (try simp only [Act.put, List.setIfInBounds_toArray, List.set_cons_zero, List.set_cons_succ, List.getElem_toArray, List.getElem_cons_zero, List.getElem_cons_succ])
                  refine wpAnyH_take (i := 7) (v := ?_) rfl (by kernel_rfl) (by kernel_rfl) (by kernel_rfl) (fun _ _ _ h => h) (Or.inl ⟨by rfl, ?y7⟩) (by assumption) ?_
                  case y7 => intro w hSw; (try dsimp only at hSw); go_simp; (try with_reducible rfl)
                  (try simp only [Act.put, List.setIfInBounds_toArray, List.set_cons_zero, List.set_cons_succ, List.getElem_toArray, List.getElem_cons_zero, List.getElem_cons_succ])
                  refine wpAnyH_take (i := 8) (v := ?_) rfl (by kernel_rfl) (by kernel_rfl) (by kernel_rfl) (fun _ _ _ h => h) (Or.inl ⟨by rfl, ?y8⟩) (by assumption) ?_
                  case y8 => intro w hSw; (try dsimp only at hSw); go_simp; (try with_reducible rfl)
                  (try simp only [Act.put, List.setIfInBounds_toArray, List.set_cons_zero, List.set_cons_succ, List.getElem_toArray, List.getElem_cons_zero, List.getElem_cons_succ])
                  refine wpAnyH_take (i := 9) (v := ?_) rfl (by kernel_rfl) (by kernel_rfl) (by kernel_rfl) (fun _ _ _ h => h) (Or.inl ⟨by rfl, ?y9⟩) (by assumption) ?_
                  case y9 => intro w hSw; (try dsimp only at hSw); go_simp; (try with_reducible rfl)
                  (try simp only [Act.put, List.setIfInBounds_toArray, List.set_cons_zero, List.set_cons_succ, List.getElem_toArray, List.getElem_cons_zero, List.getElem_cons_succ])
                  refine wpAnyH_take (i := 10) (v := ?_) rfl (by kernel_rfl) (by kernel_rfl) (by kernel_rfl) (fun _ _ _ h => h) (Or.inl ⟨by rfl, ?y10⟩) (by assumption) ?_
                  case y10 => intro w hSw; (try dsimp only at hSw); go_simp; (try with_reducible rfl)
                  (try simp only [Act.put, List.setIfInBounds_toArray, List.set_cons_zero, List.set_cons_succ, List.getElem_toArray, List.getElem_cons_zero, List.getElem_cons_succ])
                  refine wpAnyH_take (i := 11) (v := ?_) rfl (by kernel_rfl) (by kernel_rfl) (by kernel_rfl) (fun _ _ _ h => h) (Or.inl ⟨by rfl, ?y11⟩) (by assumption) ?_
                  case y11 => intro w hSw; (try dsimp only at hSw); go_simp; (try with_reducible rfl)
                  (try simp only [Act.put, List.setIfInBounds_toArray, List.set_cons_zero, List.set_cons_succ, List.getElem_toArray, List.getElem_cons_zero, List.getElem_cons_succ])
                  refine wpAnyH_take (i := 12) (v := ?_) rfl (by kernel_rfl) (by kernel_rfl) (by kernel_rfl) (fun _ _ _ h => h) (Or.inl ⟨by rfl, ?y12⟩) (by assumption) ?_
                  case y12 => intro w hSw; (try dsimp only at hSw); go_simp; (try with_reducible rfl)
                  (try simp only [Act.put, List.setIfInBounds_toArray, List.set_cons_zero, List.set_cons_succ, List.getElem_toArray, List.getElem_cons_zero, List.getElem_cons_succ])
                  refine wpAnyH_take (i := 13) (v := ?_) rfl (by kernel_rfl) (by kernel_rfl) (by kernel_rfl) (fun _ _ _ h => h) (Or.inl ⟨by rfl, ?y13⟩) (by assumption) ?_
                  case y13 => intro w hSw; (try dsimp only at hSw); go_simp; (try with_reducible rfl)
                  (try simp only [Act.put, List.setIfInBounds_toArray, List.set_cons_zero, List.set_cons_succ, List.getElem_toArray, List.getElem_cons_zero, List.getElem_cons_succ])
                  refine wpAnyH_take (i := 14) (v := ?_) rfl (by kernel_rfl) (by kernel_rfl) (by kernel_rfl) (fun _ _ _ h => h) (Or.inl ⟨by rfl, ?y14⟩) (by assumption) ?_
                  case y14 => intro w hSw; (try dsimp only at hSw); go_simp; (try with_reducible rfl)
                  (try simp only [Act.put, List.setIfInBounds_toArray, List.set_cons_zero, List.set_cons_succ, List.getElem_toArray, List.getElem_cons_zero, List.getElem_cons_succ])
                  refine wpAnyH_ready (rs := [15]) (by kernel_rfl) (by simp) ?_
                  refine AllReadyH.cons rfl (fun K hK => ?_) AllReadyH.nil
                  go_simp
                  refine h15.mono ?_; clear h15; rintro e y6 ⟨rfl, hy⟩
                  replace hy := hy.symm
                  subst hy
                  refine hK.out _ _ (hS.out _ (Below.refl _ _).drew) (fun hHeld => ?_)
                  clear hK K
                  (try simp only [Act.put, List.setIfInBounds_toArray, List.set_cons_zero, List.set_cons_succ, List.getElem_toArray, List.getElem_cons_zero, List.getElem_cons_succ])
                  refine wpAnyH_take (i := 16) (v := ?_) rfl (by kernel_rfl) (by kernel_rfl) (by kernel_rfl) (fun _ _ _ h => h) (Or.inl ⟨by rfl, ?y16⟩) (by assumption) ?_
                  case y16 => intro w hSw; (try dsimp only at hSw); go_simp; (try with_reducible rfl)
                  (try simp only [Act.put, List.setIfInBounds_toArray, List.set_cons_zero, List.set_cons_succ, List.getElem_toArray, List.getElem_cons_zero, List.getElem_cons_succ])
                  refine wpAnyH_take (i := 17) (v := ?_) rfl (by kernel_rfl) (by kernel_rfl) (by kernel_rfl) (fun _ _ _ h => h) (Or.inl ⟨by rfl, ?y17⟩) (by assumption) ?_
                  case y17 => intro w hSw; (try dsimp only at hSw); go_simp; (try with_reducible rfl)
                  (try simp only [Act.put, List.setIfInBounds_toArray, List.set_cons_zero, List.set_cons_succ, List.getElem_toArray, List.getElem_cons_zero, List.getElem_cons_succ])
                  refine wpAnyH_take (i := 18) (v := ?_) rfl (by kernel_rfl) (by kernel_rfl) (by kernel_rfl) (fun _ _ _ h => h) (Or.inl ⟨by rfl, ?y18⟩) (by assumption) ?_
                  case y18 => intro w hSw; (try dsimp only at hSw); go_simp; (try with_reducible rfl)
                  (try simp only [Act.put, List.setIfInBounds_toArray, List.set_cons_zero, List.set_cons_succ, List.getElem_toArray, List.getElem_cons_zero, List.getElem_cons_succ])
                  refine wpAnyH_take (i := 19) (v := ?_) rfl (by kernel_rfl) (by kernel_rfl) (by kernel_rfl) (fun _ _ _ h => h) (Or.inl ⟨by rfl, ?y19⟩) (by assumption) ?_
                  case y19 => intro w hSw; (try dsimp only at hSw); go_simp; (try with_reducible rfl)
                  (try simp only [Act.put, List.setIfInBounds_toArray, List.set_cons_zero, List.set_cons_succ, List.getElem_toArray, List.getElem_cons_zero, List.getElem_cons_succ])
                  refine wpAnyH_take (i := 20) (v := ?_) rfl (by kernel_rfl) (by kernel_rfl) (by kernel_rfl) (fun _ _ _ h => h) (Or.inl ⟨by rfl, ?y20⟩) (by assumption) ?_
                  case y20 => intro w hSw; (try dsimp only at hSw); go_simp; (try with_reducible rfl)
                  (try simp only [Act.put, List.setIfInBounds_toArray, List.set_cons_zero, List.set_cons_succ, List.getElem_toArray, List.getElem_cons_zero, List.getElem_cons_succ])
                  refine wpAnyH_take (i := 21) (v := ?_) rfl (by kernel_rfl) (by kernel_rfl) (by kernel_rfl) (fun _ _ _ h => h) (Or.inl ⟨by rfl, ?y21⟩) (by assumption) ?_
                  case y21 => intro w hSw; (try dsimp only at hSw); go_simp; (try with_reducible rfl)
                  (try simp only [Act.put, List.setIfInBounds_toArray, List.set_cons_zero, List.set_cons_succ, List.getElem_toArray, List.getElem_cons_zero, List.getElem_cons_succ])
                  refine wpAnyH_take (i := 22) (v := ?_) rfl (by kernel_rfl) (by kernel_rfl) (by kernel_rfl) (fun _ _ _ h => h) (Or.inl ⟨by rfl, ?y22⟩) (by assumption) ?_
                  case y22 => intro w hSw; (try dsimp only at hSw); go_simp; (try with_reducible rfl)
                  (try simp only [Act.put, List.setIfInBounds_toArray, List.set_cons_zero, List.set_cons_succ, List.getElem_toArray, List.getElem_cons_zero, List.getElem_cons_succ])
                  refine wpAnyH_take (i := 23) (v := ?_) rfl (by kernel_rfl) (by kernel_rfl) (by kernel_rfl) (fun _ _ _ h => h) (Or.inl ⟨by rfl, ?y23⟩) (by assumption) ?_
                  case y23 => intro w hSw; (try dsimp only at hSw); go_simp; (try with_reducible rfl)
                  (try simp only [Act.put, List.setIfInBounds_toArray, List.set_cons_zero, List.set_cons_succ, List.getElem_toArray, List.getElem_cons_zero, List.getElem_cons_succ])
                  refine wpAnyH_ready (rs := [24]) (by kernel_rfl) (by simp) ?_
                  refine AllReadyH.cons rfl (fun K hK => ?_) AllReadyH.nil
                  go_simp
                  refine h24.mono ?_; clear h24; rintro e y7 ⟨rfl, hb7⟩
                  have HB7 := Lib.hid hb7
                  clear hb7
                  refine hK.out _ _ (hS.out _ ((Below.refl _ _).drew.trans HB7.out)) (fun hHeld => ?_)
                  clear hK K
                  (try simp only [Act.put, List.setIfInBounds_toArray, List.set_cons_zero, List.set_cons_succ, List.getElem_toArray, List.getElem_cons_zero, List.getElem_cons_succ])
                  refine wpAnyH_take (i := 25) (v := ?_) rfl (by kernel_rfl) (by kernel_rfl) (by kernel_rfl) (fun _ _ _ h => h) (Or.inl ⟨by rfl, ?y25⟩) (by assumption) ?_
                  case y25 => intro w hSw; (try dsimp only at hSw); go_simp; (try with_reducible rfl)
                  (try simp only [Act.put, List.setIfInBounds_toArray, List.set_cons_zero, List.set_cons_succ, List.getElem_toArray, List.getElem_cons_zero, List.getElem_cons_succ])
                  refine wpAnyH_take (i := 26) (v := ?_) rfl (by kernel_rfl) (by kernel_rfl) (by kernel_rfl) (fun _ _ _ h => h) (Or.inl ⟨by rfl, ?y26⟩) (by assumption) ?_
                  case y26 => intro w hSw; (try dsimp only at hSw); go_simp; (try with_reducible rfl)
                  (try simp only [Act.put, List.setIfInBounds_toArray, List.set_cons_zero, List.set_cons_succ, List.getElem_toArray, List.getElem_cons_zero, List.getElem_cons_succ])
                  refine wpAnyH_done (by kernel_rfl) ?_ _
                  go_wp2_with fail
                  go_roundw
                  · exact ⟨k + 1, HLT.out, by go_num, (HBY.out.drew).trans (HB7.out.mono (by have := HBY.out.size; exact this))⟩
                  · have := HLT.out; simp [RowKit.intOf]; omega
                · rw [if_neg hk1] at p3
                  have h24 := h24 (C.getD 0 0)
                  rw [hgs _ p3] at h24
                  generalize C.getD 0 0 = y0 at *
                  clear p1 p2 p3 p4 hx
                  obtain ⟨j2, j3⟩ := nxt_out hk1 hlt hcN
                  clear hck hby hlt hk hb3 hgs hq hk1
                  go_wp2_with fail
                  refine wp_region_held_drew (S := fun wz => wz.cell? ⟨ub, uo + k, none⟩ = some (.int .i64 ((x : Nat) : Int))) (by kernel_rfl) (hS.out _ (Below.refl _ _).drew) (fun hHeld => ?_)
                  refine wpAnyH_take (i := 0) (v := ?_) rfl (by kernel_rfl) (by kernel_rfl) (by kernel_rfl) (fun _ _ _ h => h) (Or.inl ⟨by rfl, ?y0⟩) (by assumption) ?_
                  case y0 => intro w hSw; (try dsimp only at hSw); go_simp; (try with_reducible rfl)
                  (try simp only [Act.put, List.setIfInBounds_toArray, List.set_cons_zero, List.set_cons_succ, List.getElem_toArray, List.getElem_cons_zero, List.getElem_cons_succ])
                  refine wpAnyH_take (i := 1) (v := ?_) rfl (by kernel_rfl) (by kernel_rfl) (by kernel_rfl) (fun _ _ _ h => h) (Or.inl ⟨by rfl, ?y1⟩) (by assumption) ?_
                  case y1 => intro w hSw; (try dsimp only at hSw); go_simp; (try with_reducible rfl)
                  (try simp only [Act.put, List.setIfInBounds_toArray, List.set_cons_zero, List.set_cons_succ, List.getElem_toArray, List.getElem_cons_zero, List.getElem_cons_succ])
                  refine wpAnyH_take (i := 2) (v := ?_) rfl (by kernel_rfl) (by kernel_rfl) (by kernel_rfl) (fun _ _ _ h => h) (Or.inl ⟨by rfl, ?y2⟩) (by assumption) ?_
                  case y2 => intro w hSw; (try dsimp only at hSw); go_simp; (try with_reducible rfl)
                  (try simp only [Act.put, List.setIfInBounds_toArray, List.set_cons_zero, List.set_cons_succ, List.getElem_toArray, List.getElem_cons_zero, List.getElem_cons_succ])
                  refine wpAnyH_take (i := 3) (v := ?_) rfl (by kernel_rfl) (by kernel_rfl) (by kernel_rfl) (fun _ _ _ h => h) (Or.inl ⟨by rfl, ?y3⟩) (by assumption) ?_
                  case y3 => intro w hSw; (try dsimp only at hSw); go_simp; (try with_reducible rfl)
                  (try simp only [Act.put, List.setIfInBounds_toArray, List.set_cons_zero, List.set_cons_succ, List.getElem_toArray, List.getElem_cons_zero, List.getElem_cons_succ])
                  refine wpAnyH_take (i := 4) (v := ?_) rfl (by kernel_rfl) (by kernel_rfl) (by kernel_rfl) (fun _ _ _ h => h) (Or.inl ⟨by rfl, ?y4⟩) (by assumption) ?_
                  case y4 => intro w hSw; (try dsimp only at hSw); go_simp; (try with_reducible rfl)
                  (try simp only [Act.put, List.setIfInBounds_toArray, List.set_cons_zero, List.set_cons_succ, List.getElem_toArray, List.getElem_cons_zero, List.getElem_cons_succ])
                  refine wpAnyH_ready (rs := [5]) (by kernel_rfl) (by simp) ?_
                  refine AllReadyH.cons rfl (fun K hK => ?_) AllReadyH.nil
                  go_simp
                  refine h5.mono ?_; clear h5; rintro e y5 ⟨rfl, hy⟩
                  replace hy := hy.symm
                  subst hy
                  refine hK.out _ _ (hS.out _ (Below.refl _ _).drew) (fun hHeld => ?_)
                  clear hK K
                  (try simp only [Act.put, List.setIfInBounds_toArray, List.set_cons_zero, List.set_cons_succ, List.getElem_toArray, List.getElem_cons_zero, List.getElem_cons_succ])
                  refine wpAnyH_take (i := 6) (v := ?_) rfl (by kernel_rfl) (by kernel_rfl) (by kernel_rfl) (fun _ _ _ h => h) (Or.inl ⟨by rfl, ?y6⟩) (by assumption) ?_
                  case y6 => intro w hSw; (try dsimp only at hSw); go_simp; (try with_reducible rfl)
                  (try simp only [Act.put, List.setIfInBounds_toArray, List.set_cons_zero, List.set_cons_succ, List.getElem_toArray, List.getElem_cons_zero, List.getElem_cons_succ])
                  refine wpAnyH_take (i := 7) (v := ?_) rfl (by kernel_rfl) (by kernel_rfl) (by kernel_rfl) (fun _ _ _ h => h) (Or.inl ⟨by rfl, ?y7⟩) (by assumption) ?_
                  case y7 => intro w hSw; (try dsimp only at hSw); go_simp; (try with_reducible rfl)
                  (try simp only [Act.put, List.setIfInBounds_toArray, List.set_cons_zero, List.set_cons_succ, List.getElem_toArray, List.getElem_cons_zero, List.getElem_cons_succ])
                  refine wpAnyH_take (i := 8) (v := ?_) rfl (by kernel_rfl) (by kernel_rfl) (by kernel_rfl) (fun _ _ _ h => h) (Or.inl ⟨by rfl, ?y8⟩) (by assumption) ?_
                  case y8 => intro w hSw; (try dsimp only at hSw); go_simp; (try with_reducible rfl)
                  (try simp only [Act.put, List.setIfInBounds_toArray, List.set_cons_zero, List.set_cons_succ, List.getElem_toArray, List.getElem_cons_zero, List.getElem_cons_succ])
                  refine wpAnyH_take (i := 9) (v := ?_) rfl (by kernel_rfl) (by kernel_rfl) (by kernel_rfl) (fun _ _ _ h => h) (Or.inl ⟨by rfl, ?y9⟩) (by assumption) ?_
                  case y9 => intro w hSw; (try dsimp only at hSw); go_simp; (try with_reducible rfl)
                  (try simp only [Act.put, List.setIfInBounds_toArray, List.set_cons_zero, List.set_cons_succ, List.getElem_toArray, List.getElem_cons_zero, List.getElem_cons_succ])
                  refine wpAnyH_take (i := 10) (v := ?_) rfl (by kernel_rfl) (by kernel_rfl) (by kernel_rfl) (fun _ _ _ h => h) (Or.inl ⟨by rfl, ?y10⟩) (by assumption) ?_
                  case y10 => intro w hSw; (try dsimp only at hSw); go_simp; (try with_reducible rfl)
                  (try simp only [Act.put, List.setIfInBounds_toArray, List.set_cons_zero, List.set_cons_succ, List.getElem_toArray, List.getElem_cons_zero, List.getElem_cons_succ])
                  refine wpAnyH_take (i := 11) (v := ?_) rfl (by kernel_rfl) (by kernel_rfl) (by kernel_rfl) (fun _ _ _ h => h) (Or.inl ⟨by rfl, ?y11⟩) (by assumption) ?_
                  case y11 => intro w hSw; (try dsimp only at hSw); go_simp; (try with_reducible rfl)
                  (try simp only [Act.put, List.setIfInBounds_toArray, List.set_cons_zero, List.set_cons_succ, List.getElem_toArray, List.getElem_cons_zero, List.getElem_cons_succ])
                  refine wpAnyH_take (i := 12) (v := ?_) rfl (by kernel_rfl) (by kernel_rfl) (by kernel_rfl) (fun _ _ _ h => h) (Or.inl ⟨by rfl, ?y12⟩) (by assumption) ?_
                  case y12 => intro w hSw; (try dsimp only at hSw); go_simp; (try with_reducible rfl)
                  (try simp only [Act.put, List.setIfInBounds_toArray, List.set_cons_zero, List.set_cons_succ, List.getElem_toArray, List.getElem_cons_zero, List.getElem_cons_succ])
                  refine wpAnyH_take (i := 13) (v := ?_) rfl (by kernel_rfl) (by kernel_rfl) (by kernel_rfl) (fun _ _ _ h => h) (Or.inl ⟨by rfl, ?y13⟩) (by assumption) ?_
                  case y13 => intro w hSw; (try dsimp only at hSw); go_simp; (try with_reducible rfl)
                  (try simp only [Act.put, List.setIfInBounds_toArray, List.set_cons_zero, List.set_cons_succ, List.getElem_toArray, List.getElem_cons_zero, List.getElem_cons_succ])
                  refine wpAnyH_take (i := 14) (v := ?_) rfl (by kernel_rfl) (by kernel_rfl) (by kernel_rfl) (fun _ _ _ h => h) (Or.inl ⟨by rfl, ?y14⟩) (by assumption) ?_
                  case y14 => intro w hSw; (try dsimp only at hSw); go_simp; (try with_reducible rfl)
                  (try simp only [Act.put, List.setIfInBounds_toArray, List.set_cons_zero, List.set_cons_succ, List.getElem_toArray, List.getElem_cons_zero, List.getElem_cons_succ])
                  refine wpAnyH_ready (rs := [15]) (by kernel_rfl) (by simp) ?_
                  refine AllReadyH.cons rfl (fun K hK => ?_) AllReadyH.nil
                  go_simp
                  refine h15.mono ?_; clear h15; rintro e y6 ⟨rfl, hy⟩
                  replace hy := hy.symm
                  subst hy
                  refine hK.out _ _ (hS.out _ (Below.refl _ _).drew) (fun hHeld => ?_)
                  clear hK K
                  (try simp only [Act.put, List.setIfInBounds_toArray, List.set_cons_zero, List.set_cons_succ, List.getElem_toArray, List.getElem_cons_zero, List.getElem_cons_succ])
                  refine wpAnyH_take (i := 16) (v := ?_) rfl (by kernel_rfl) (by kernel_rfl) (by kernel_rfl) (fun _ _ _ h => h) (Or.inl ⟨by rfl, ?y16⟩) (by assumption) ?_
                  case y16 => intro w hSw; (try dsimp only at hSw); go_simp; (try with_reducible rfl)
                  (try simp only [Act.put, List.setIfInBounds_toArray, List.set_cons_zero, List.set_cons_succ, List.getElem_toArray, List.getElem_cons_zero, List.getElem_cons_succ])
                  refine wpAnyH_take (i := 17) (v := ?_) rfl (by kernel_rfl) (by kernel_rfl) (by kernel_rfl) (fun _ _ _ h => h) (Or.inl ⟨by rfl, ?y17⟩) (by assumption) ?_
                  case y17 => intro w hSw; (try dsimp only at hSw); go_simp; (try with_reducible rfl)
                  (try simp only [Act.put, List.setIfInBounds_toArray, List.set_cons_zero, List.set_cons_succ, List.getElem_toArray, List.getElem_cons_zero, List.getElem_cons_succ])
                  refine wpAnyH_take (i := 18) (v := ?_) rfl (by kernel_rfl) (by kernel_rfl) (by kernel_rfl) (fun _ _ _ h => h) (Or.inl ⟨by rfl, ?y18⟩) (by assumption) ?_
                  case y18 => intro w hSw; (try dsimp only at hSw); go_simp; (try with_reducible rfl)
                  (try simp only [Act.put, List.setIfInBounds_toArray, List.set_cons_zero, List.set_cons_succ, List.getElem_toArray, List.getElem_cons_zero, List.getElem_cons_succ])
                  refine wpAnyH_take (i := 19) (v := ?_) rfl (by kernel_rfl) (by kernel_rfl) (by kernel_rfl) (fun _ _ _ h => h) (Or.inl ⟨by rfl, ?y19⟩) (by assumption) ?_
                  case y19 => intro w hSw; (try dsimp only at hSw); go_simp; (try with_reducible rfl)
                  (try simp only [Act.put, List.setIfInBounds_toArray, List.set_cons_zero, List.set_cons_succ, List.getElem_toArray, List.getElem_cons_zero, List.getElem_cons_succ])
                  refine wpAnyH_take (i := 20) (v := ?_) rfl (by kernel_rfl) (by kernel_rfl) (by kernel_rfl) (fun _ _ _ h => h) (Or.inl ⟨by rfl, ?y20⟩) (by assumption) ?_
                  case y20 => intro w hSw; (try dsimp only at hSw); go_simp; (try with_reducible rfl)
                  (try simp only [Act.put, List.setIfInBounds_toArray, List.set_cons_zero, List.set_cons_succ, List.getElem_toArray, List.getElem_cons_zero, List.getElem_cons_succ])
                  refine wpAnyH_take (i := 21) (v := ?_) rfl (by kernel_rfl) (by kernel_rfl) (by kernel_rfl) (fun _ _ _ h => h) (Or.inl ⟨by rfl, ?y21⟩) (by assumption) ?_
                  case y21 => intro w hSw; (try dsimp only at hSw); go_simp; (try with_reducible rfl)
                  (try simp only [Act.put, List.setIfInBounds_toArray, List.set_cons_zero, List.set_cons_succ, List.getElem_toArray, List.getElem_cons_zero, List.getElem_cons_succ])
                  refine wpAnyH_take (i := 22) (v := ?_) rfl (by kernel_rfl) (by kernel_rfl) (by kernel_rfl) (fun _ _ _ h => h) (Or.inl ⟨by rfl, ?y22⟩) (by assumption) ?_
                  case y22 => intro w hSw; (try dsimp only at hSw); go_simp; (try with_reducible rfl)
                  (try simp only [Act.put, List.setIfInBounds_toArray, List.set_cons_zero, List.set_cons_succ, List.getElem_toArray, List.getElem_cons_zero, List.getElem_cons_succ])
                  refine wpAnyH_take (i := 23) (v := ?_) rfl (by kernel_rfl) (by kernel_rfl) (by kernel_rfl) (fun _ _ _ h => h) (Or.inl ⟨by rfl, ?y23⟩) (by assumption) ?_
                  case y23 => intro w hSw; (try dsimp only at hSw); go_simp; (try with_reducible rfl)
                  (try simp only [Act.put, List.setIfInBounds_toArray, List.set_cons_zero, List.set_cons_succ, List.getElem_toArray, List.getElem_cons_zero, List.getElem_cons_succ])
                  refine wpAnyH_ready (rs := [24]) (by kernel_rfl) (by simp) ?_
                  refine AllReadyH.cons rfl (fun K hK => ?_) AllReadyH.nil
                  go_simp
                  refine h24.mono ?_; clear h24; rintro e y7 ⟨rfl, hb7⟩
                  have HB7 := Lib.hid hb7
                  clear hb7
                  refine hK.out _ _ (hS.out _ ((Below.refl _ _).drew.trans HB7.out)) (fun hHeld => ?_)
                  clear hK K
                  (try simp only [Act.put, List.setIfInBounds_toArray, List.set_cons_zero, List.set_cons_succ, List.getElem_toArray, List.getElem_cons_zero, List.getElem_cons_succ])
                  refine wpAnyH_take (i := 25) (v := ?_) rfl (by kernel_rfl) (by kernel_rfl) (by kernel_rfl) (fun _ _ _ h => h) (Or.inl ⟨by rfl, ?y25⟩) (by assumption) ?_
                  case y25 => intro w hSw; (try dsimp only at hSw); go_simp; (try with_reducible rfl)
                  (try simp only [Act.put, List.setIfInBounds_toArray, List.set_cons_zero, List.set_cons_succ, List.getElem_toArray, List.getElem_cons_zero, List.getElem_cons_succ])
                  refine wpAnyH_take (i := 26) (v := ?_) rfl (by kernel_rfl) (by kernel_rfl) (by kernel_rfl) (fun _ _ _ h => h) (Or.inl ⟨by rfl, ?y26⟩) (by assumption) ?_
                  case y26 => intro w hSw; (try dsimp only at hSw); go_simp; (try with_reducible rfl)
                  (try simp only [Act.put, List.setIfInBounds_toArray, List.set_cons_zero, List.set_cons_succ, List.getElem_toArray, List.getElem_cons_zero, List.getElem_cons_succ])
                  refine wpAnyH_done (by kernel_rfl) ?_ _
                  go_wp2_with fail
                  go_roundw
                  · exact ⟨k + 1, HLT.out, by go_num, (HBY.out.drew).trans (HB7.out.mono (by have := HBY.out.size; exact this))⟩
                  · have := HLT.out; simp [RowKit.intOf]; omega
              · obtain rfl : k = C.length := by omega
                have hd0 : decide ((C.length : Int) < (C.length : Int)) = false := decide_eq_false (by omega)
                have hb3 := Lib.hid (HB5.out.trans (hby.mono HB5.out.size))
                clear hby hk hlt
                go_wp2_with fail
                refine (awake14 _).mono ?_; rintro e w10 ⟨rfl, hb10⟩
                have HEND := Lib.hid (HG.out.s.b.trans ((hb3.out.trans (hb10.mono hb3.out.size)).mono HG.out.s.b.size))
                clear hb10
                go_wp2_with fail
                go_ret
                exact ⟨rfl, HEND.out⟩
        · have hmade := made_no m (by omega) a c l hn w
          go_enter Try.func5, Try.ntmps5
          go_wp2_with fail
          refine hfew.mono ?_; rintro e w1 ⟨rfl, rfl⟩
          go_wp2_with fail
          refine hmade.mono ?_; rintro e w2 ⟨xa, xn, xc, rfl, hb2⟩
          have HB2 := Lib.hid (hb2.trans ((below1 w2 (.cells #[.slice xa xn xc] 29)).mono hb2.size))
          clear hb2
          go_wp2_with fail
          refine (awake14 _).mono ?_; rintro e w3 ⟨rfl, hb⟩
          have HB3 := Lib.hid (HB2.out.trans (hb.mono HB2.out.size))
          clear hb
          go_wp2_with fail
          go_ret
          exact ⟨rfl, HB3.out⟩
      · have dL : decide (60 < (L.length : Int)) = true := decide_eq_true (by omega)
        go_enter Try.func5, Try.ntmps5
        go_wp2_with fail
        refine hfew.mono ?_; rintro e w1 ⟨rfl, rfl⟩
        go_wp2_with fail
        refine (awake14 _).mono ?_; rintro e w2 ⟨rfl, hb⟩
        go_wp2_with fail
        go_ret
        exact ⟨rfl, hb⟩
    · have dm : decide (12 < m) = true := decide_eq_true (by omega)
      go_enter Try.func5, Try.ntmps5
      go_wp2_with fail
      refine hfew.mono ?_; rintro e w1 ⟨rfl, rfl⟩
      go_wp2_with fail
      refine (awake14 _).mono ?_; rintro e w2 ⟨rfl, hb⟩
      go_wp2_with fail
      go_ret
      exact ⟨rfl, hb⟩
end Go.Proofs.Ythaepdkeakmfaaa
