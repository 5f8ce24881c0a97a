/-
  ForestTree of layer 19 returns true, whatever stakes and numbers it is given. No conditions.
-/
import Derived.Test.YtebjmnppeohdiaaFrsU
import Derived.Deep.QuietTactic
import Derived.BigQuiet
import Derived.WalkSmall
import Derived.Deep.DeepCutAuto
import Derived.Deep.RegionHeld3
namespace Go.Proofs.Ytebjmnppeohdiaa
open Go.RowKit
set_option linter.unusedSimpArgs false
set_option linter.unusedVariables false

theorem wrap_int {k : Int} (h0 : 0 ≤ k) (h1 : k ≤ 1000) : wrap64 (k + 1) = k + 1 := by unfold wrap64; omega
theorem meas_up {l i : Nat} (h : l - (i + 1) < l - i) : l - (RowKit.intOf (.int .i64 ((i : Int) + 1))).toNat < l - (RowKit.intOf (.int .i64 (i : Int))).toNat := by simp [RowKit.intOf]; omega
theorem mem_chl {n : Int} {f : Int → Int} {x y : Int} (hx : Ent n x) (hy : Ent n y) : y ∈ chl n f x ↔ f y = x := by
  unfold chl
  rw [if_pos hx, mem_flt]
  constructor
  · exact fun q => by simpa using q.2
  · intro q; unfold Ent at hy; exact ⟨⟨hy.1, by omega⟩, by simpa using q⟩
theorem mem_und' {n : Int} {f : Int → Int} {x y : Int} (hy : Ent n y) : y ∈ und n f x ↔ x ∈ up n f y := by
  unfold und
  rw [mem_flt]
  constructor
  · exact fun q => by simpa using q.2
  · intro q; unfold Ent at hy; exact ⟨⟨hy.1, by omega⟩, by simpa using q⟩
theorem mem_und {n : Int} {f : Int → Int} (hf : FOk n f) {x y : Int} (hy : Ent n y) : y ∈ und n f x ↔ y = x ∨ x ∈ up n f (f y) := by
  rw [mem_und' hy, mem_up_cons hf hy]
  exact ⟨fun q => q.imp Eq.symm id, fun q => q.imp Eq.symm id⟩
theorem mem_rts {n : Int} {f : Int → Int} {y : Int} : y ∈ rts n f ↔ Ent n y ∧ f y = 0 := by
  unfold rts
  rw [mem_flt]
  unfold Ent
  constructor
  · rintro ⟨⟨h1, h2⟩, h⟩; exact ⟨⟨h1, by omega⟩, by simpa using h⟩
  · rintro ⟨⟨h1, h2⟩, h⟩; exact ⟨⟨h1, by omega⟩, by simpa using h⟩
theorem up_next {n : Int} {f : Int → Int} (hf : FOk n f) : ∀ (x : Int) (i : Nat), i + 1 < (up n f x).length → (up n f x).getD (i + 1) 0 = f ((up n f x).getD i 0) :=
  up_ind hf (fun x e i h => by rw [up_no e] at h; cases h) (fun x e ih i h => by
    rw [up_yes hf e] at h ⊢
    rw [List.getD_cons_succ]
    cases i with
    | zero =>
      rw [List.getD_cons_zero]
      have e2 : Ent n (f x) := Decidable.not_not.1 fun q => by rw [up_no q] at h; simp at h
      rw [up_yes hf e2, List.getD_cons_zero]
    | succ i =>
      rw [List.getD_cons_succ]
      rw [List.length_cons] at h
      exact ih i (by omega))
theorem up_last {n : Int} {f : Int → Int} (hf : FOk n f) : ∀ x, Ent n x → Ent n ((up n f x).getD ((up n f x).length - 1) 0) ∧ f ((up n f x).getD ((up n f x).length - 1) 0) = 0 :=
  up_ind hf (fun x e h => absurd h e) (fun x e ih _ => by
    rw [up_yes hf e, List.length_cons, Nat.add_sub_cancel]
    by_cases h : Ent n (f x)
    · have h1 := ih h
      have h2 : 0 < (up n f (f x)).length := by rw [up_yes hf h]; simp
      obtain ⟨m, hm⟩ : ∃ m, (up n f (f x)).length = m + 1 := ⟨(up n f (f x)).length - 1, by omega⟩
      rw [hm, Nat.add_sub_cancel] at h1
      rw [hm, List.getD_cons_succ]
      exact h1
    · rw [up_no h]
      exact ⟨e, Decidable.not_not.1 fun q => h (f_ent hf x q)⟩)
set_option maxHeartbeats 32000000 in
set_option maxRecDepth 100000 in
theorem tree19 (a : Option Addr) (c : Nat) (L : List K4) (n p : Int) (w : World) (hr : Go.RowsIn.QuadS w a c L) :
    Calls Try.prog 5 #[.slice a L.length c, .int .i64 n, .int .i64 p] w fun e w' => e = .returned (.bool true) ∧ Below w.heap.size w w' := by
  have HL := Lib.hid (rdq_in19 hr)
  have HBW := Lib.hid (Below.refl w.heap.size w)
  have hfew := few19 a c L n w
  clear hr
  by_cases g1 : L.length ≤ 20 ∧ n ≤ 10
  · rw [decide_eq_true g1.1, decide_eq_true g1.2] at hfew
    have hl : L.length ≤ 1000000 := by omega
    by_cases he : atE L n p = 0
    · have HNB : Hid (0 ≤ n ∧ n ≤ 10) := by
        have := (atE_zero he).1
        exact ⟨by omega, g1.2⟩
      have hca := at19 a c L.length L n p w HL.out.1 rfl hl he
      have HFO : Hid (FOk n (pr L n p)) := pr_ok p (at_len he) (atE_zero he).2.2
      have HSO : Hid (∀ x, 0 ≤ sr L n p x ∧ sr L n p x ≤ 10000) := sr_ok p (at_len he) (atE_zero he).2.2
      have HLL := Lib.hid hl
      clear he g1 hl
      go_enter Try.func5, Try.ntmps5
      go_wp2_with fail
      refine hfew.mono ?_; clear hfew; rintro e w0 ⟨rfl, rfl⟩
      go_wp2_with fail
      refine hca.mono ?_; clear hca; rintro e w1 ⟨B, rfl, hFB, -, hb1⟩
      have HB3 := Lib.hid hb1
      have HFB := Lib.hid hFB
      clear hFB hb1
      generalize hW : w1 = W at *
      have HWZ := Lib.hid hW
      clear hW
      go_wp2_with fail
      have HPA : Hid (∀ x wz, Below W.heap.size W wz → Calls Try.prog 10 #[ptr B, .int .i64 x] wz fun e w' => e = .returned (.int .i64 ((pr L n p) x)) ∧ Below wz.heap.size wz w') := fun x wz q => parent_c (HFB.out.below q) x
      have HCA : Hid (∀ x wz, Below W.heap.size W wz → Calls Try.prog 15 #[ptr B, .int .i64 x] wz fun e w' => ∃ v, e = .returned v ∧ Own w' wz.heap.size v (chl n (pr L n p) x) ∧ Below wz.heap.size wz w') := fun x wz q => children_c (HFB.out.below q) x
      have HUA : Hid (∀ x wz, Below W.heap.size W wz → Calls Try.prog 17 #[ptr B, .int .i64 x] wz fun e w' => ∃ v, e = .returned v ∧ Own w' wz.heap.size v (up n (pr L n p) ((pr L n p) x)) ∧ Below wz.heap.size wz w') := fun x wz q => up_c (HFB.out.below q) HFO.out x
      have HNA : Hid (∀ x wz, Below W.heap.size W wz → Calls Try.prog 19 #[ptr B, .int .i64 x] wz fun e w' => ∃ v, e = .returned v ∧ Own w' wz.heap.size v (und n (pr L n p) x) ∧ Below wz.heap.size wz w') := fun x wz q => unders_c (HFB.out.below q) HFO.out x
      have HRA2 : Hid (∀ wz, Below W.heap.size W wz → Calls Try.prog 21 #[ptr B] wz fun e w' => ∃ v, e = .returned v ∧ Own w' wz.heap.size v (rts n (pr L n p)) ∧ Below wz.heap.size wz w') := fun wz q => roots_c (HFB.out.below q)
      have HHAS : Hid (∀ (M : List Int), M.length ≤ 1000 → ∀ a2 c2 v wz, Reads wz a2 M → Calls Try.prog 28 #[.slice a2 M.length c2, .int .i64 v] wz fun e w' => e = .returned (.bool (decide (v ∈ M))) ∧ wz = w') := fun M hm a2 c2 v wz h2 => has_any a2 c2 M v wz h2 (by omega)
      have HLN : Hid (∀ x, (∀ z ∈ chl n (pr L n p) x, InR z) ∧ (chl n (pr L n p) x).length ≤ 1000) := fun x => by
        have := HNB.out
        unfold chl
        split
        · exact ⟨flt_in (by omega) _, by have := flt_len n.toNat (fun i => pr L n p i == x); omega⟩
        · exact ⟨fun z hz => (by cases hz), by simp⟩
      have HLU : Hid (∀ x, (∀ z ∈ up n (pr L n p) x, InR z) ∧ (up n (pr L n p) x).length ≤ 1000) := fun x => ⟨up_inR HFO.out (by have := HNB.out; omega) x, by have := ups_len HFO.out x; have := HNB.out; omega⟩
      have HLD : Hid (∀ x, (∀ z ∈ und n (pr L n p) x, InR z) ∧ (und n (pr L n p) x).length ≤ 1000) := fun x => ⟨flt_in (by have := HNB.out; omega) _, by have := flt_len n.toNat (fun i => decide (x ∈ up n (pr L n p) i)); have := HNB.out; unfold und; omega⟩
      have HLR : Hid ((∀ z ∈ rts n (pr L n p), InR z) ∧ (rts n (pr L n p)).length ≤ 1000) := ⟨flt_in (by have := HNB.out; omega) _, by have := flt_len n.toNat (fun i => pr L n p i == 0); have := HNB.out; unfold rts; omega⟩
      go_loopw [9] (fun vi wr => ∃ k : Int, 1 ≤ k ∧ k ≤ n + 1 ∧ vi = .int .i64 k ∧ Below W.heap.size W wr) (fun vi _ => (n + 1 - RowKit.intOf vi).toNat)
      case atStart => exact ⟨1, by omega, by have := HNB.out; omega, rfl, by first | exact Below.refl _ _ | (rw [HWZ.out]; exact Below.refl _ _)⟩
      case round =>
        obtain ⟨k, hk0, hk1, rfl, hb⟩ := hrel
        have HBk := Lib.hid hb
        by_cases hlt : k ≤ n
        · have t0 : decide (k ≤ n) = true := decide_eq_true hlt
          have e1 : wrap64 (k + 1) = k + 1 := wrap_int (by omega) (by have := HNB.out; omega)
          have HRD : Hid (∀ w', Below W.heap.size W w' → ∃ k' : Int, 1 ≤ k' ∧ k' ≤ n + 1 ∧ Value.int .i64 (k + 1) = .int .i64 k' ∧ Below W.heap.size W w') := fun w' h => ⟨k + 1, by omega, by omega, rfl, h⟩
          have HM : Hid ((n + 1 - (k + 1)).toNat < (n + 1 - k).toNat) := by show _ < _; omega
          have HEK : Hid (Ent n k) := ⟨hk0, hlt⟩
          have hua := HUA.out k wr hb
          clear hb hlt hk0 hk1
          go_wp2_with fail
          refine hua.mono ?_; clear hua; rintro e w3 ⟨vu, rfl, hu, hb3⟩
          have HW3 : Hid (Below W.heap.size W w3) := HBk.out.trans (hb3.mono HBk.out.size)
          obtain ⟨ra, rc, rfl, -, hru⟩ := hu.reads (HLU.out (pr L n p k)).1
          have HRU := Lib.hid hru
          clear hb3 hu hru HBk
          have HPAk := Lib.hid (fun wz (q : Below w3.heap.size w3 wz) => HPA.out k wz (HW3.out.trans (q.mono HW3.out.size)))
          have HUL : Hid ((up n (pr L n p) (pr L n p k)).length ≤ 1000) := (HLU.out (pr L n p k)).2
          go_wp2_with fail
          go_loopw [11] (fun vi wr => ∃ j : Int, 1 ≤ j ∧ j ≤ n + 1 ∧ vi = .int .i64 j ∧ Below w3.heap.size w3 wr) (fun vi _ => (n + 1 - RowKit.intOf vi).toNat)
          case atStart => exact ⟨1, by omega, by have := HNB.out; omega, rfl, Below.refl _ _⟩
          case round =>
            obtain ⟨j, hj0, hj1, rfl, hb⟩ := hrel
            have HBwr := Lib.hid hb
            by_cases hlt : j ≤ n
            · have t1 : decide (j ≤ n) = true := decide_eq_true hlt
              have e2 : wrap64 (j + 1) = j + 1 := wrap_int (by omega) (by have := HNB.out; omega)
              have HRJ : Hid (∀ w', Below w3.heap.size w3 w' → ∃ j' : Int, 1 ≤ j' ∧ j' ≤ n + 1 ∧ Value.int .i64 (j + 1) = .int .i64 j' ∧ Below w3.heap.size w3 w') := fun w' h => ⟨j + 1, by omega, by omega, rfl, h⟩
              have HMJ : Hid ((n + 1 - (j + 1)).toNat < (n + 1 - j).toNat) := by show _ < _; omega
              have HEJ : Hid (Ent n j) := ⟨hj0, hlt⟩
              have HI1 := Lib.hid (HLN.out j).1
              have HI3 := Lib.hid (HLD.out j).1
              have HCAj := Lib.hid (fun wz (q : Below w3.heap.size w3 wz) => HCA.out j wz (HW3.out.trans (q.mono HW3.out.size)))
              have HNAj := Lib.hid (fun wz (q : Below w3.heap.size w3 wz) => HNA.out j wz (HW3.out.trans (q.mono HW3.out.size)))
              clear hb hlt hj0 hj1
              by_cases h1 : pr L n p k = j
              · have HC1 : Hid (∀ ra rc wz, Reads wz ra (chl n (pr L n p) j) → Calls Try.prog 28 #[.slice ra (chl n (pr L n p) j).length rc, .int .i64 k] wz fun e w' => e = .returned (.bool true) ∧ wz = w') := fun ra rc wz h => by have := HHAS.out _ (HLN.out j).2 ra rc k wz h; rwa [decide_eq_true (show k ∈ chl n (pr L n p) j by rw [mem_chl HEJ.out HEK.out]; exact h1)] at this
                have q1 : (pr L n p k == j) = true := by simpa using h1
                clear h1
                by_cases h2 : j = k
                · have HC3 : Hid (∀ ra rc wz, Reads wz ra (und n (pr L n p) j) → Calls Try.prog 28 #[.slice ra (und n (pr L n p) j).length rc, .int .i64 k] wz fun e w' => e = .returned (.bool true) ∧ wz = w') := fun ra rc wz h => by have := HHAS.out _ (HLD.out j).2 ra rc k wz h; rwa [decide_eq_true (show k ∈ und n (pr L n p) j by rw [mem_und HFO.out HEK.out]; exact (Or.inl h2.symm))] at this
                  have q2 : (j == k) = true := by simpa using h2
                  clear h2
                  generalize chl n (pr L n p) j = C1 at *
                  generalize und n (pr L n p) j = C3 at *
                  go_wp2_with fail
                  refine (HCAj.out wr HBwr.out).mono ?_; rintro e w4 ⟨vw4, rfl, huw4, hbw4⟩
                  have HBw4 : Hid (Below w3.heap.size w3 w4) := HBwr.out.trans (hbw4.mono HBwr.out.size)
                  obtain ⟨raw4, rcw4, rfl, -, hrw4⟩ := huw4.reads HI1.out
                  have hhw4 := HC1.out raw4 rcw4 w4 hrw4
                  clear huw4 hbw4 hrw4
                  go_wp2_with fail
                  refine hhw4.mono ?_; clear hhw4; rintro e w7 ⟨rfl, rfl⟩
                  go_wp2_with fail
                  refine (HPAk.out w4 HBw4.out).mono ?_; rintro e w5 ⟨rfl, hbw5⟩
                  have HBw5 : Hid (Below w3.heap.size w3 w5) := HBw4.out.trans (hbw5.mono HBw4.out.size)
                  clear hbw5
                  go_wp2_with fail
                  refine (HNAj.out w5 HBw5.out).mono ?_; rintro e w6 ⟨vw6, rfl, huw6, hbw6⟩
                  have HBw6 : Hid (Below w3.heap.size w3 w6) := HBw5.out.trans (hbw6.mono HBw5.out.size)
                  obtain ⟨raw6, rcw6, rfl, -, hrw6⟩ := huw6.reads HI3.out
                  have hhw6 := HC3.out raw6 rcw6 w6 hrw6
                  clear huw6 hbw6 hrw6
                  go_wp2_with fail
                  refine hhw6.mono ?_; clear hhw6; rintro e w7 ⟨rfl, rfl⟩
                  go_wp2_with fail
                  all_goals go_roundw
                  · (first | exact HRJ.out _ HBw6.out | (rw [e2]; exact HRJ.out _ HBw6.out))
                  · (first | exact HMJ.out | (rw [e2]; exact HMJ.out))
                · by_cases h3 : j ∈ up n (pr L n p) (pr L n p k)
                  · have HC3 : Hid (∀ ra rc wz, Reads wz ra (und n (pr L n p) j) → Calls Try.prog 28 #[.slice ra (und n (pr L n p) j).length rc, .int .i64 k] wz fun e w' => e = .returned (.bool true) ∧ wz = w') := fun ra rc wz h => by have := HHAS.out _ (HLD.out j).2 ra rc k wz h; rwa [decide_eq_true (show k ∈ und n (pr L n p) j by rw [mem_und HFO.out HEK.out]; exact (Or.inr h3))] at this
                    have HC2 : Hid (∀ ra rc wz, Reads wz ra (up n (pr L n p) (pr L n p k)) → Calls Try.prog 28 #[.slice ra (up n (pr L n p) (pr L n p k)).length rc, .int .i64 j] wz fun e w' => e = .returned (.bool true) ∧ wz = w') := fun ra rc wz h => by have := HHAS.out _ (HLU.out (pr L n p k)).2 ra rc j wz h; rwa [decide_eq_true h3] at this
                    have q2 : (j == k) = false := by simpa using h2
                    clear h2 h3
                    generalize chl n (pr L n p) j = C1 at *
                    generalize und n (pr L n p) j = C3 at *
                    go_wp2_with fail
                    refine (HCAj.out wr HBwr.out).mono ?_; rintro e w4 ⟨vw4, rfl, huw4, hbw4⟩
                    have HBw4 : Hid (Below w3.heap.size w3 w4) := HBwr.out.trans (hbw4.mono HBwr.out.size)
                    obtain ⟨raw4, rcw4, rfl, -, hrw4⟩ := huw4.reads HI1.out
                    have hhw4 := HC1.out raw4 rcw4 w4 hrw4
                    clear huw4 hbw4 hrw4
                    go_wp2_with fail
                    refine hhw4.mono ?_; clear hhw4; rintro e w7 ⟨rfl, rfl⟩
                    go_wp2_with fail
                    refine (HPAk.out w4 HBw4.out).mono ?_; rintro e w5 ⟨rfl, hbw5⟩
                    have HBw5 : Hid (Below w3.heap.size w3 w5) := HBw4.out.trans (hbw5.mono HBw4.out.size)
                    clear hbw5
                    go_wp2_with fail
                    refine (HNAj.out w5 HBw5.out).mono ?_; rintro e w6 ⟨vw6, rfl, huw6, hbw6⟩
                    have HBw6 : Hid (Below w3.heap.size w3 w6) := HBw5.out.trans (hbw6.mono HBw5.out.size)
                    obtain ⟨raw6, rcw6, rfl, -, hrw6⟩ := huw6.reads HI3.out
                    have hhw6 := HC3.out raw6 rcw6 w6 hrw6
                    clear huw6 hbw6 hrw6
                    go_wp2_with fail
                    refine hhw6.mono ?_; clear hhw6; rintro e w7 ⟨rfl, rfl⟩
                    go_wp2_with fail
                    refine (HC2.out _ _ w6 (HRU.out.below HBw6.out)).mono ?_; rintro e w8 ⟨rfl, rfl⟩
                    go_wp2_with fail
                    all_goals go_roundw
                    · (first | exact HRJ.out _ HBw6.out | (rw [e2]; exact HRJ.out _ HBw6.out))
                    · (first | exact HMJ.out | (rw [e2]; exact HMJ.out))
                  · have HC3 : Hid (∀ ra rc wz, Reads wz ra (und n (pr L n p) j) → Calls Try.prog 28 #[.slice ra (und n (pr L n p) j).length rc, .int .i64 k] wz fun e w' => e = .returned (.bool false) ∧ wz = w') := fun ra rc wz h => by have := HHAS.out _ (HLD.out j).2 ra rc k wz h; rwa [decide_eq_false (show ¬ k ∈ und n (pr L n p) j by rw [mem_und HFO.out HEK.out]; exact (fun q => q.elim (fun r => h2 r.symm) h3))] at this
                    have HC2 : Hid (∀ ra rc wz, Reads wz ra (up n (pr L n p) (pr L n p k)) → Calls Try.prog 28 #[.slice ra (up n (pr L n p) (pr L n p k)).length rc, .int .i64 j] wz fun e w' => e = .returned (.bool false) ∧ wz = w') := fun ra rc wz h => by have := HHAS.out _ (HLU.out (pr L n p k)).2 ra rc j wz h; rwa [decide_eq_false h3] at this
                    have q2 : (j == k) = false := by simpa using h2
                    clear h2 h3
                    generalize chl n (pr L n p) j = C1 at *
                    generalize und n (pr L n p) j = C3 at *
                    go_wp2_with fail
                    refine (HCAj.out wr HBwr.out).mono ?_; rintro e w4 ⟨vw4, rfl, huw4, hbw4⟩
                    have HBw4 : Hid (Below w3.heap.size w3 w4) := HBwr.out.trans (hbw4.mono HBwr.out.size)
                    obtain ⟨raw4, rcw4, rfl, -, hrw4⟩ := huw4.reads HI1.out
                    have hhw4 := HC1.out raw4 rcw4 w4 hrw4
                    clear huw4 hbw4 hrw4
                    go_wp2_with fail
                    refine hhw4.mono ?_; clear hhw4; rintro e w7 ⟨rfl, rfl⟩
                    go_wp2_with fail
                    refine (HPAk.out w4 HBw4.out).mono ?_; rintro e w5 ⟨rfl, hbw5⟩
                    have HBw5 : Hid (Below w3.heap.size w3 w5) := HBw4.out.trans (hbw5.mono HBw4.out.size)
                    clear hbw5
                    go_wp2_with fail
                    refine (HNAj.out w5 HBw5.out).mono ?_; rintro e w6 ⟨vw6, rfl, huw6, hbw6⟩
                    have HBw6 : Hid (Below w3.heap.size w3 w6) := HBw5.out.trans (hbw6.mono HBw5.out.size)
                    obtain ⟨raw6, rcw6, rfl, -, hrw6⟩ := huw6.reads HI3.out
                    have hhw6 := HC3.out raw6 rcw6 w6 hrw6
                    clear huw6 hbw6 hrw6
                    go_wp2_with fail
                    refine hhw6.mono ?_; clear hhw6; rintro e w7 ⟨rfl, rfl⟩
                    go_wp2_with fail
                    refine (HC2.out _ _ w6 (HRU.out.below HBw6.out)).mono ?_; rintro e w8 ⟨rfl, rfl⟩
                    go_wp2_with fail
                    all_goals go_roundw
                    · (first | exact HRJ.out _ HBw6.out | (rw [e2]; exact HRJ.out _ HBw6.out))
                    · (first | exact HMJ.out | (rw [e2]; exact HMJ.out))
              · have HC1 : Hid (∀ ra rc wz, Reads wz ra (chl n (pr L n p) j) → Calls Try.prog 28 #[.slice ra (chl n (pr L n p) j).length rc, .int .i64 k] wz fun e w' => e = .returned (.bool false) ∧ wz = w') := fun ra rc wz h => by have := HHAS.out _ (HLN.out j).2 ra rc k wz h; rwa [decide_eq_false (show ¬ k ∈ chl n (pr L n p) j by rw [mem_chl HEJ.out HEK.out]; exact h1)] at this
                have q1 : (pr L n p k == j) = false := by simpa using h1
                clear h1
                by_cases h2 : j = k
                · have HC3 : Hid (∀ ra rc wz, Reads wz ra (und n (pr L n p) j) → Calls Try.prog 28 #[.slice ra (und n (pr L n p) j).length rc, .int .i64 k] wz fun e w' => e = .returned (.bool true) ∧ wz = w') := fun ra rc wz h => by have := HHAS.out _ (HLD.out j).2 ra rc k wz h; rwa [decide_eq_true (show k ∈ und n (pr L n p) j by rw [mem_und HFO.out HEK.out]; exact (Or.inl h2.symm))] at this
                  have q2 : (j == k) = true := by simpa using h2
                  clear h2
                  generalize chl n (pr L n p) j = C1 at *
                  generalize und n (pr L n p) j = C3 at *
                  go_wp2_with fail
                  refine (HCAj.out wr HBwr.out).mono ?_; rintro e w4 ⟨vw4, rfl, huw4, hbw4⟩
                  have HBw4 : Hid (Below w3.heap.size w3 w4) := HBwr.out.trans (hbw4.mono HBwr.out.size)
                  obtain ⟨raw4, rcw4, rfl, -, hrw4⟩ := huw4.reads HI1.out
                  have hhw4 := HC1.out raw4 rcw4 w4 hrw4
                  clear huw4 hbw4 hrw4
                  go_wp2_with fail
                  refine hhw4.mono ?_; clear hhw4; rintro e w7 ⟨rfl, rfl⟩
                  go_wp2_with fail
                  refine (HPAk.out w4 HBw4.out).mono ?_; rintro e w5 ⟨rfl, hbw5⟩
                  have HBw5 : Hid (Below w3.heap.size w3 w5) := HBw4.out.trans (hbw5.mono HBw4.out.size)
                  clear hbw5
                  go_wp2_with fail
                  refine (HNAj.out w5 HBw5.out).mono ?_; rintro e w6 ⟨vw6, rfl, huw6, hbw6⟩
                  have HBw6 : Hid (Below w3.heap.size w3 w6) := HBw5.out.trans (hbw6.mono HBw5.out.size)
                  obtain ⟨raw6, rcw6, rfl, -, hrw6⟩ := huw6.reads HI3.out
                  have hhw6 := HC3.out raw6 rcw6 w6 hrw6
                  clear huw6 hbw6 hrw6
                  go_wp2_with fail
                  refine hhw6.mono ?_; clear hhw6; rintro e w7 ⟨rfl, rfl⟩
                  go_wp2_with fail
                  all_goals go_roundw
                  · (first | exact HRJ.out _ HBw6.out | (rw [e2]; exact HRJ.out _ HBw6.out))
                  · (first | exact HMJ.out | (rw [e2]; exact HMJ.out))
                · by_cases h3 : j ∈ up n (pr L n p) (pr L n p k)
                  · have HC3 : Hid (∀ ra rc wz, Reads wz ra (und n (pr L n p) j) → Calls Try.prog 28 #[.slice ra (und n (pr L n p) j).length rc, .int .i64 k] wz fun e w' => e = .returned (.bool true) ∧ wz = w') := fun ra rc wz h => by have := HHAS.out _ (HLD.out j).2 ra rc k wz h; rwa [decide_eq_true (show k ∈ und n (pr L n p) j by rw [mem_und HFO.out HEK.out]; exact (Or.inr h3))] at this
                    have HC2 : Hid (∀ ra rc wz, Reads wz ra (up n (pr L n p) (pr L n p k)) → Calls Try.prog 28 #[.slice ra (up n (pr L n p) (pr L n p k)).length rc, .int .i64 j] wz fun e w' => e = .returned (.bool true) ∧ wz = w') := fun ra rc wz h => by have := HHAS.out _ (HLU.out (pr L n p k)).2 ra rc j wz h; rwa [decide_eq_true h3] at this
                    have q2 : (j == k) = false := by simpa using h2
                    clear h2 h3
                    generalize chl n (pr L n p) j = C1 at *
                    generalize und n (pr L n p) j = C3 at *
                    go_wp2_with fail
                    refine (HCAj.out wr HBwr.out).mono ?_; rintro e w4 ⟨vw4, rfl, huw4, hbw4⟩
                    have HBw4 : Hid (Below w3.heap.size w3 w4) := HBwr.out.trans (hbw4.mono HBwr.out.size)
                    obtain ⟨raw4, rcw4, rfl, -, hrw4⟩ := huw4.reads HI1.out
                    have hhw4 := HC1.out raw4 rcw4 w4 hrw4
                    clear huw4 hbw4 hrw4
                    go_wp2_with fail
                    refine hhw4.mono ?_; clear hhw4; rintro e w7 ⟨rfl, rfl⟩
                    go_wp2_with fail
                    refine (HPAk.out w4 HBw4.out).mono ?_; rintro e w5 ⟨rfl, hbw5⟩
                    have HBw5 : Hid (Below w3.heap.size w3 w5) := HBw4.out.trans (hbw5.mono HBw4.out.size)
                    clear hbw5
                    go_wp2_with fail
                    refine (HNAj.out w5 HBw5.out).mono ?_; rintro e w6 ⟨vw6, rfl, huw6, hbw6⟩
                    have HBw6 : Hid (Below w3.heap.size w3 w6) := HBw5.out.trans (hbw6.mono HBw5.out.size)
                    obtain ⟨raw6, rcw6, rfl, -, hrw6⟩ := huw6.reads HI3.out
                    have hhw6 := HC3.out raw6 rcw6 w6 hrw6
                    clear huw6 hbw6 hrw6
                    go_wp2_with fail
                    refine hhw6.mono ?_; clear hhw6; rintro e w7 ⟨rfl, rfl⟩
                    go_wp2_with fail
                    refine (HC2.out _ _ w6 (HRU.out.below HBw6.out)).mono ?_; rintro e w8 ⟨rfl, rfl⟩
                    go_wp2_with fail
                    all_goals go_roundw
                    · (first | exact HRJ.out _ HBw6.out | (rw [e2]; exact HRJ.out _ HBw6.out))
                    · (first | exact HMJ.out | (rw [e2]; exact HMJ.out))
                  · have HC3 : Hid (∀ ra rc wz, Reads wz ra (und n (pr L n p) j) → Calls Try.prog 28 #[.slice ra (und n (pr L n p) j).length rc, .int .i64 k] wz fun e w' => e = .returned (.bool false) ∧ wz = w') := fun ra rc wz h => by have := HHAS.out _ (HLD.out j).2 ra rc k wz h; rwa [decide_eq_false (show ¬ k ∈ und n (pr L n p) j by rw [mem_und HFO.out HEK.out]; exact (fun q => q.elim (fun r => h2 r.symm) h3))] at this
                    have HC2 : Hid (∀ ra rc wz, Reads wz ra (up n (pr L n p) (pr L n p k)) → Calls Try.prog 28 #[.slice ra (up n (pr L n p) (pr L n p k)).length rc, .int .i64 j] wz fun e w' => e = .returned (.bool false) ∧ wz = w') := fun ra rc wz h => by have := HHAS.out _ (HLU.out (pr L n p k)).2 ra rc j wz h; rwa [decide_eq_false h3] at this
                    have q2 : (j == k) = false := by simpa using h2
                    clear h2 h3
                    generalize chl n (pr L n p) j = C1 at *
                    generalize und n (pr L n p) j = C3 at *
                    go_wp2_with fail
                    refine (HCAj.out wr HBwr.out).mono ?_; rintro e w4 ⟨vw4, rfl, huw4, hbw4⟩
                    have HBw4 : Hid (Below w3.heap.size w3 w4) := HBwr.out.trans (hbw4.mono HBwr.out.size)
                    obtain ⟨raw4, rcw4, rfl, -, hrw4⟩ := huw4.reads HI1.out
                    have hhw4 := HC1.out raw4 rcw4 w4 hrw4
                    clear huw4 hbw4 hrw4
                    go_wp2_with fail
                    refine hhw4.mono ?_; clear hhw4; rintro e w7 ⟨rfl, rfl⟩
                    go_wp2_with fail
                    refine (HPAk.out w4 HBw4.out).mono ?_; rintro e w5 ⟨rfl, hbw5⟩
                    have HBw5 : Hid (Below w3.heap.size w3 w5) := HBw4.out.trans (hbw5.mono HBw4.out.size)
                    clear hbw5
                    go_wp2_with fail
                    refine (HNAj.out w5 HBw5.out).mono ?_; rintro e w6 ⟨vw6, rfl, huw6, hbw6⟩
                    have HBw6 : Hid (Below w3.heap.size w3 w6) := HBw5.out.trans (hbw6.mono HBw5.out.size)
                    obtain ⟨raw6, rcw6, rfl, -, hrw6⟩ := huw6.reads HI3.out
                    have hhw6 := HC3.out raw6 rcw6 w6 hrw6
                    clear huw6 hbw6 hrw6
                    go_wp2_with fail
                    refine hhw6.mono ?_; clear hhw6; rintro e w7 ⟨rfl, rfl⟩
                    go_wp2_with fail
                    refine (HC2.out _ _ w6 (HRU.out.below HBw6.out)).mono ?_; rintro e w8 ⟨rfl, rfl⟩
                    go_wp2_with fail
                    all_goals go_roundw
                    · (first | exact HRJ.out _ HBw6.out | (rw [e2]; exact HRJ.out _ HBw6.out))
                    · (first | exact HMJ.out | (rw [e2]; exact HMJ.out))
            · have t1 : decide (j ≤ n) = false := decide_eq_false hlt
              clear hb hlt hj0 hj1
              have HU0 : Hid (up n (pr L n p) k = k :: up n (pr L n p) (pr L n p k)) := up_yes HFO.out HEK.out
              go_wp2_with fail
              go_loopw [12, 13] (fun vt vi wr => ∃ i : Nat, i ≤ (up n (pr L n p) (pr L n p k)).length ∧ vi = .int .i64 (i : Int) ∧ vt = .int .i64 ((up n (pr L n p) k).getD i 0) ∧ Below w3.heap.size w3 wr) (fun _ vi _ => (up n (pr L n p) (pr L n p k)).length - (RowKit.intOf vi).toNat)
              case atStart => exact ⟨0, Nat.zero_le _, rfl, by rw [HU0.out]; rfl, HBwr.out⟩
              case round =>
                clear HBwr
                obtain ⟨i, hi, rfl, rfl, hb⟩ := hrel
                have HBwr := Lib.hid hb
                by_cases hlt : i < (up n (pr L n p) (pr L n p k)).length
                · have i0 : (0 : Int) ≤ (i : Int) := by omega
                  have i1 : (i : Int) < ((up n (pr L n p) (pr L n p k)).length : Int) := by omega
                  have e3 : wrap64 ((i : Int) + 1) = (i : Int) + 1 := wrap_nat (by have := HUL.out; omega)
                  obtain ⟨b', off, hra, hc⟩ := (HRU.out.below hb).2 i hlt
                  have HST : Hid ((up n (pr L n p) (pr L n p k)).getD i 0 = pr L n p ((up n (pr L n p) k).getD i 0) ∧ (up n (pr L n p) k).getD (i + 1) 0 = (up n (pr L n p) (pr L n p k)).getD i 0) := by
                    have h1 : (up n (pr L n p) k).getD (i + 1) 0 = (up n (pr L n p) (pr L n p k)).getD i 0 := by rw [HU0.out]; rfl
                    exact ⟨by rw [← h1]; exact up_next HFO.out k i (by rw [HU0.out, List.length_cons]; omega), h1⟩
                  have HPT := Lib.hid (fun wz (q : Below w3.heap.size w3 wz) => HPA.out ((up n (pr L n p) k).getD i 0) wz (HW3.out.trans (q.mono HW3.out.size)))
                  rw [← HST.out.1] at HPT
                  have HCC : Hid (∀ wz, Below wr.heap.size wr wz → wz.cell? ⟨b', off + i, none⟩ = some (.int .i64 ((up n (pr L n p) (pr L n p k)).getD i 0))) := fun wz q => (q.cell (p := ⟨b', off + i, none⟩) (World.block_lt_of_cell? wr _ hc)).trans hc
                  have HRI : Hid (∀ w', Below w3.heap.size w3 w' → ∃ i' : Nat, i' ≤ (up n (pr L n p) (pr L n p k)).length ∧ Value.int .i64 ((i : Int) + 1) = .int .i64 (i' : Int) ∧ Value.int .i64 ((up n (pr L n p) (pr L n p k)).getD i 0) = .int .i64 ((up n (pr L n p) k).getD i' 0) ∧ Below w3.heap.size w3 w') := fun w' h => ⟨i + 1, by omega, by go_num, by rw [HST.out.2], h⟩
                  have HMI : Hid ((up n (pr L n p) (pr L n p k)).length - (i + 1) < (up n (pr L n p) (pr L n p k)).length - i) := by show _ < _; omega
                  subst hra
                  generalize (up n (pr L n p) (pr L n p k)).getD i 0 = z at *
                  generalize (up n (pr L n p) k).getD i 0 = tp at *
                  have K := Lib.hid (Below.refl wr.heap.size wr)
                  have HPQ := Lib.hid (fun wz (q : Below wr.heap.size wr wz) => HPT.out wz (HBwr.out.trans (q.mono HBwr.out.size)))
                  clear hb hlt HPT HST
                  go_wp2_with fail
                  go_region_held3 (fun wz => wz.cell? ⟨b', off + i, none⟩ = some (.int .i64 z))
                    (first | exact HCC.out _ K.out | exact HCC.out _ K.out.drew)
                    (first
                      | (go_at_call 10; (with_reducible first | refine (HPQ.out _ K.out).mono ?_ | refine (HPQ.out _ K.out.drew).mono ?_); rintro e wn ⟨rfl, hbn⟩; (first | replace K := Lib.hid (K.out.trans (hbn.mono K.out.size)) | replace K := Lib.hid (K.out.drew.trans (hbn.mono K.out.drew.size))); clear hbn)
                      )
                  all_goals have hcc := HCC.out _ (by first | exact K.out | exact K.out.drew)
                  all_goals go_wp2_with fail
                  all_goals go_roundw
                  · (first | exact HRI.out _ (by first | exact HBwr.out.trans (K.out.mono HBwr.out.size) | exact HBwr.out.trans (K.out.drew.mono HBwr.out.size)) | (rw [e3]; exact HRI.out _ (by first | exact HBwr.out.trans (K.out.mono HBwr.out.size) | exact HBwr.out.trans (K.out.drew.mono HBwr.out.size))))
                  · (first | exact meas_up HMI.out | (rw [e3]; exact meas_up HMI.out))
                · obtain rfl : i = (up n (pr L n p) (pr L n p k)).length := by omega
                  have hd0 : decide ((((up n (pr L n p) (pr L n p k)).length : Nat) : Int) < (((up n (pr L n p) (pr L n p k)).length : Nat) : Int)) = false := decide_eq_false (by omega)
                  have HTP : Hid (Ent n ((up n (pr L n p) k).getD (up n (pr L n p) (pr L n p k)).length 0) ∧ pr L n p ((up n (pr L n p) k).getD (up n (pr L n p) (pr L n p k)).length 0) = 0) := by
                    have h1 := up_last HFO.out k HEK.out
                    have h2 : (up n (pr L n p) k).length - 1 = (up n (pr L n p) (pr L n p k)).length := by rw [HU0.out, List.length_cons]; omega
                    rw [h2] at h1
                    exact h1
                  have hpt := HPA.out ((up n (pr L n p) k).getD (up n (pr L n p) (pr L n p k)).length 0) wr (HW3.out.trans (HBwr.out.mono HW3.out.size))
                  rw [HTP.out.2] at hpt
                  have HCT : Hid (decide ((up n (pr L n p) k).getD (up n (pr L n p) (pr L n p k)).length 0 ∈ rts n (pr L n p)) = true) := decide_eq_true (mem_rts.2 ⟨HTP.out.1, HTP.out.2⟩)
                  have HRTk := Lib.hid (fun wz (q : Below w3.heap.size w3 wz) => HRA2.out wz (HW3.out.trans (q.mono HW3.out.size)))
                  generalize (up n (pr L n p) k).getD (up n (pr L n p) (pr L n p k)).length 0 = tp at *
                  have HC5 : Hid (∀ ra rc wz, Reads wz ra (rts n (pr L n p)) → Calls Try.prog 28 #[.slice ra (rts n (pr L n p)).length rc, .int .i64 tp] wz fun e w' => e = .returned (.bool true) ∧ wz = w') := fun ra rc wz h => by have := HHAS.out _ HLR.out.2 ra rc tp wz h; rwa [HCT.out] at this
                  clear hb hlt hi
                  by_cases h4 : pr L n p k = 0
                  · have HC6 : Hid (∀ ra rc wz, Reads wz ra (rts n (pr L n p)) → Calls Try.prog 28 #[.slice ra (rts n (pr L n p)).length rc, .int .i64 k] wz fun e w' => e = .returned (.bool true) ∧ wz = w') := fun ra rc wz h => by have := HHAS.out _ HLR.out.2 ra rc k wz h; rwa [decide_eq_true (show k ∈ rts n (pr L n p) by rw [mem_rts]; exact ⟨HEK.out, h4⟩)] at this
                    have q4 : (pr L n p k == 0) = true := by simpa using h4
                    clear h4
                    generalize rts n (pr L n p) = C5 at *
                    have HIR := Lib.hid HLR.out.1
                    go_wp2_with fail
                    refine hpt.mono ?_; clear hpt; rintro e w4 ⟨rfl, hbw4⟩
                    have HBw4 : Hid (Below w3.heap.size w3 w4) := HBwr.out.trans (hbw4.mono HBwr.out.size)
                    clear hbw4
                    go_wp2_with fail
                    refine (HRTk.out w4 HBw4.out).mono ?_; rintro e w5 ⟨vw5, rfl, huw5, hbw5⟩
                    have HBw5 : Hid (Below w3.heap.size w3 w5) := HBw4.out.trans (hbw5.mono HBw4.out.size)
                    obtain ⟨raw5, rcw5, rfl, -, hrw5⟩ := huw5.reads HIR.out
                    have hhw5 := HC5.out raw5 rcw5 w5 hrw5
                    clear huw5 hbw5 hrw5
                    go_wp2_with fail
                    refine hhw5.mono ?_; clear hhw5; rintro e w7 ⟨rfl, rfl⟩
                    go_wp2_with fail
                    refine (HRTk.out w5 HBw5.out).mono ?_; rintro e w6 ⟨vw6, rfl, huw6, hbw6⟩
                    have HBw6 : Hid (Below w3.heap.size w3 w6) := HBw5.out.trans (hbw6.mono HBw5.out.size)
                    obtain ⟨raw6, rcw6, rfl, -, hrw6⟩ := huw6.reads HIR.out
                    have hhw6 := HC6.out raw6 rcw6 w6 hrw6
                    clear huw6 hbw6 hrw6
                    go_wp2_with fail
                    refine hhw6.mono ?_; clear hhw6; rintro e w7 ⟨rfl, rfl⟩
                    go_wp2_with fail
                    refine (HPAk.out w6 HBw6.out).mono ?_; rintro e w8 ⟨rfl, hbw8⟩
                    have HBw8 : Hid (Below w3.heap.size w3 w8) := HBw6.out.trans (hbw8.mono HBw6.out.size)
                    clear hbw8
                    go_wp2_with fail
                    all_goals go_roundw
                    · (first | exact HRD.out _ (HW3.out.trans (HBw8.out.mono HW3.out.size)) | (rw [e1]; exact HRD.out _ (HW3.out.trans (HBw8.out.mono HW3.out.size))))
                    · (first | exact HM.out | (rw [e1]; exact HM.out))
                  · have HC6 : Hid (∀ ra rc wz, Reads wz ra (rts n (pr L n p)) → Calls Try.prog 28 #[.slice ra (rts n (pr L n p)).length rc, .int .i64 k] wz fun e w' => e = .returned (.bool false) ∧ wz = w') := fun ra rc wz h => by have := HHAS.out _ HLR.out.2 ra rc k wz h; rwa [decide_eq_false (show ¬ k ∈ rts n (pr L n p) by rw [mem_rts]; exact fun q => h4 q.2)] at this
                    have q4 : (pr L n p k == 0) = false := by simpa using h4
                    clear h4
                    generalize rts n (pr L n p) = C5 at *
                    have HIR := Lib.hid HLR.out.1
                    go_wp2_with fail
                    refine hpt.mono ?_; clear hpt; rintro e w4 ⟨rfl, hbw4⟩
                    have HBw4 : Hid (Below w3.heap.size w3 w4) := HBwr.out.trans (hbw4.mono HBwr.out.size)
                    clear hbw4
                    go_wp2_with fail
                    refine (HRTk.out w4 HBw4.out).mono ?_; rintro e w5 ⟨vw5, rfl, huw5, hbw5⟩
                    have HBw5 : Hid (Below w3.heap.size w3 w5) := HBw4.out.trans (hbw5.mono HBw4.out.size)
                    obtain ⟨raw5, rcw5, rfl, -, hrw5⟩ := huw5.reads HIR.out
                    have hhw5 := HC5.out raw5 rcw5 w5 hrw5
                    clear huw5 hbw5 hrw5
                    go_wp2_with fail
                    refine hhw5.mono ?_; clear hhw5; rintro e w7 ⟨rfl, rfl⟩
                    go_wp2_with fail
                    refine (HRTk.out w5 HBw5.out).mono ?_; rintro e w6 ⟨vw6, rfl, huw6, hbw6⟩
                    have HBw6 : Hid (Below w3.heap.size w3 w6) := HBw5.out.trans (hbw6.mono HBw5.out.size)
                    obtain ⟨raw6, rcw6, rfl, -, hrw6⟩ := huw6.reads HIR.out
                    have hhw6 := HC6.out raw6 rcw6 w6 hrw6
                    clear huw6 hbw6 hrw6
                    go_wp2_with fail
                    refine hhw6.mono ?_; clear hhw6; rintro e w7 ⟨rfl, rfl⟩
                    go_wp2_with fail
                    refine (HPAk.out w6 HBw6.out).mono ?_; rintro e w8 ⟨rfl, hbw8⟩
                    have HBw8 : Hid (Below w3.heap.size w3 w8) := HBw6.out.trans (hbw8.mono HBw6.out.size)
                    clear hbw8
                    go_wp2_with fail
                    all_goals go_roundw
                    · (first | exact HRD.out _ (HW3.out.trans (HBw8.out.mono HW3.out.size)) | (rw [e1]; exact HRD.out _ (HW3.out.trans (HBw8.out.mono HW3.out.size))))
                    · (first | exact HM.out | (rw [e1]; exact HM.out))
        · have t0 : decide (k ≤ n) = false := decide_eq_false hlt
          clear hb hlt hk0 hk1
          go_wp2_with fail
          refine (awake19 _).mono ?_; rintro e w9 ⟨rfl, hb9⟩
          go_wp2_with fail
          go_ret
          exact ⟨rfl, HB3.out.trans ((HBk.out.trans (hb9.mono HBk.out.size)).mono HB3.out.size)⟩
    · have d5 : (atE L n p != 0) = true := by simpa using he
      have hca := atno19 a c L.length L n p (atE L n p) w HL.out.1 rfl hl rfl he
      generalize atE L n p = en at *
      clear he g1 hl
      go_enter Try.func5, Try.ntmps5
      go_wp2_with fail
      refine hfew.mono ?_; clear hfew; rintro e w0 ⟨rfl, rfl⟩
      go_wp2_with fail
      refine hca.mono ?_; clear hca; rintro e w1 ⟨rfl, hb1⟩
      have HB1 := Lib.hid hb1
      clear hb1
      go_wp2_with fail
      refine (awake19 _).mono ?_; rintro e w9 ⟨rfl, hb9⟩
      go_wp2_with fail
      go_ret
      exact ⟨rfl, HB1.out.trans (hb9.mono HB1.out.size)⟩
  · have hd : (decide (L.length ≤ 20) && decide (n ≤ 10)) = false := by
      rw [Bool.and_eq_false_iff]
      by_cases q : L.length ≤ 20
      · exact Or.inr (decide_eq_false fun r => g1 ⟨q, r⟩)
      · exact Or.inl (decide_eq_false q)
    rw [hd] at hfew
    clear hd g1
    go_enter Try.func5, Try.ntmps5
    go_wp2_with fail
    refine hfew.mono ?_; clear hfew; rintro e w0 ⟨rfl, rfl⟩
    go_wp2_with fail
    refine (awake19 _).mono ?_; rintro e w9 ⟨rfl, hb9⟩
    go_wp2_with fail
    go_ret
    exact ⟨rfl, HBW.out.trans (hb9.mono HBW.out.size)⟩
end Go.Proofs.Ytebjmnppeohdiaa
