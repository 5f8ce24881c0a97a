/-
  ForestLowest of layer 19 returns true, whatever stakes and numbers it is given. No conditions.
-/
import Derived.Test.YtebjmnppeohdiaaFrsV
import Derived.Deep.QuietTactic
import Derived.BigQuiet
import Derived.WalkSmall
import Derived.Deep.DeepCutAuto
import Derived.Deep.RegionHeld3
namespace Go.Proofs.Ytebjmnppeohdiaa
open Go.RowKit
set_option linter.unusedSimpArgs false
set_option linter.unusedVariables false

/-- One below so many has both. -/
def BothR (n : Int) (f : Int → Int) (a b t : Int) (r : Bool) : Prop := r = true ↔ ∃ y, y < t ∧ y ∈ up n f a ∧ y ∈ up n f b
theorem both_start {n : Int} {f : Int → Int} (hf : FOk n f) (a b : Int) : BothR n f a b 1 false := by
  unfold BothR
  refine ⟨fun q => (by cases q), fun ⟨y, h1, h2, _⟩ => ?_⟩
  have := up_ent hf a h2
  unfold Ent at this; omega
theorem both_yes {n : Int} {f : Int → Int} {a b t : Int} {r : Bool} (_ : BothR n f a b t r) (h1 : t ∈ up n f a) (h2 : t ∈ up n f b) : BothR n f a b (t + 1) true :=
  ⟨fun _ => ⟨t, by omega, h1, h2⟩, fun _ => rfl⟩
theorem both_no {n : Int} {f : Int → Int} {a b t : Int} {r : Bool} (h : BothR n f a b t r) (k : ¬ (t ∈ up n f a ∧ t ∈ up n f b)) : BothR n f a b (t + 1) r := by
  unfold BothR at *
  refine h.trans ⟨fun ⟨y, h1, h2, h3⟩ => ⟨y, by omega, h2, h3⟩, fun ⟨y, h1, h2, h3⟩ => ⟨y, ?_, h2, h3⟩⟩
  by_cases e : y = t
  · rw [e] at h2 h3; exact absurd ⟨h2, h3⟩ k
  · omega
theorem mt_facts {n : Int} {f : Int → Int} (hf : FOk n f) (a b : Int) : (∀ t, t ∈ up n f a → t ∈ up n f b → mt n f a b ≠ 0 ∧ t ∈ up n f (mt n f a b)) ∧ (mt n f a b = 0 → ∀ t, t ∈ up n f a → ¬ t ∈ up n f b) ∧ (mt n f a b ≠ 0 → mt n f a b ∈ up n f a ∧ mt n f a b ∈ up n f b ∧ Ent n (mt n f a b)) := by
  rcases mt_is hf b a with ⟨h1, h2, h3⟩ | ⟨h1, h2⟩
  · have he := up_ent hf a h1
    have h0 : mt n f a b ≠ 0 := fun q => by rw [q] at he; exact not_ent0 n he
    exact ⟨fun t t1 t2 => ⟨h0, h3 t t1 t2⟩, fun q => absurd q h0, fun _ => ⟨h1, h2, he⟩⟩
  · exact ⟨fun t t1 t2 => absurd t2 (h2 t t1), fun _ => h2, fun q => absurd h1 q⟩
theorem both_end {n : Int} {f : Int → Int} (hf : FOk n f) {a b t m : Int} {r : Bool} (h : BothR n f a b t r) (ht : n < t) (h0 : m = 0 → ∀ y, y ∈ up n f a → ¬ y ∈ up n f b) (h1 : m ≠ 0 → m ∈ up n f a ∧ m ∈ up n f b ∧ Ent n m) : (m = 0 → r = false) ∧ (m ≠ 0 → r = true) := by
  unfold BothR at h
  constructor
  · intro q
    cases r with
    | false => rfl
    | true =>
      obtain ⟨y, _, h2, h3⟩ := h.1 rfl
      exact absurd h3 (h0 q y h2)
  · intro q
    obtain ⟨h2, h3, h4⟩ := h1 q
    exact h.2 ⟨m, by unfold Ent at h4; omega, h2, h3⟩
set_option maxHeartbeats 32000000 in
set_option maxRecDepth 100000 in
theorem lowest19 (a : Option Addr) (c : Nat) (L : List K4) (n p : Int) (w : World) (hr : Go.RowsIn.QuadS w a c L) :
    Calls Try.prog 6 #[.slice a L.length c, .int .i64 n, .int .i64 p] w fun e w' => e = .returned (.bool true) ∧ Below w.heap.size w w' := by
  have HL := Lib.hid (rdq_in19 hr)
  have HBW := Lib.hid (Below.refl w.heap.size w)
  have hfew := few19 a c L n w
  clear hr
  by_cases g1 : L.length ≤ 20 ∧ n ≤ 10
  · rw [decide_eq_true g1.1, decide_eq_true g1.2] at hfew
    have hl : L.length ≤ 1000000 := by omega
    by_cases he : atE L n p = 0
    · have HNB : Hid (0 ≤ n ∧ n ≤ 10) := by
        have := (atE_zero he).1
        exact ⟨by omega, g1.2⟩
      have hca := at19 a c L.length L n p w HL.out.1 rfl hl he
      have HFO : Hid (FOk n (pr L n p)) := pr_ok p (at_len he) (atE_zero he).2.2
      have HSO : Hid (∀ x, 0 ≤ sr L n p x ∧ sr L n p x ≤ 10000) := sr_ok p (at_len he) (atE_zero he).2.2
      have HLL := Lib.hid hl
      clear he g1 hl
      go_enter Try.func6, Try.ntmps6
      go_wp2_with fail
      refine hfew.mono ?_; clear hfew; rintro e w0 ⟨rfl, rfl⟩
      go_wp2_with fail
      refine hca.mono ?_; clear hca; rintro e w1 ⟨B, rfl, hFB, -, hb1⟩
      have HB3 := Lib.hid hb1
      have HFB := Lib.hid hFB
      clear hFB hb1
      generalize hW : w1 = W at *
      have HWZ := Lib.hid hW
      clear hW
      go_wp2_with fail
      have HNA : Hid (∀ x wz, Below W.heap.size W wz → Calls Try.prog 19 #[ptr B, .int .i64 x] wz fun e w' => ∃ v, e = .returned v ∧ Own w' wz.heap.size v (und n (pr L n p) x) ∧ Below wz.heap.size wz w') := fun x wz q => unders_c (HFB.out.below q) HFO.out x
      have HMA : Hid (∀ t x wz, Below W.heap.size W wz → Calls Try.prog 26 #[ptr B, .int .i64 t, .int .i64 x] wz fun e w' => e = .returned (.int .i64 (mt n (pr L n p) t x)) ∧ Below wz.heap.size wz w') := fun t x wz q => meet_c (HFB.out.below q) HFO.out t x
      have HHAS : Hid (∀ (M : List Int), M.length ≤ 1000 → ∀ a2 c2 v wz, Reads wz a2 M → Calls Try.prog 28 #[.slice a2 M.length c2, .int .i64 v] wz fun e w' => e = .returned (.bool (decide (v ∈ M))) ∧ wz = w') := fun M hm a2 c2 v wz h2 => has_any a2 c2 M v wz h2 (by omega)
      have HLN : Hid (∀ x, (∀ z ∈ chl n (pr L n p) x, InR z) ∧ (chl n (pr L n p) x).length ≤ 1000) := fun x => by
        have := HNB.out
        unfold chl
        split
        · exact ⟨flt_in (by omega) _, by have := flt_len n.toNat (fun i => pr L n p i == x); omega⟩
        · exact ⟨fun z hz => (by cases hz), by simp⟩
      have HLU : Hid (∀ x, (∀ z ∈ up n (pr L n p) x, InR z) ∧ (up n (pr L n p) x).length ≤ 1000) := fun x => ⟨up_inR HFO.out (by have := HNB.out; omega) x, by have := ups_len HFO.out x; have := HNB.out; omega⟩
      have HLD : Hid (∀ x, (∀ z ∈ und n (pr L n p) x, InR z) ∧ (und n (pr L n p) x).length ≤ 1000) := fun x => ⟨flt_in (by have := HNB.out; omega) _, by have := flt_len n.toNat (fun i => decide (x ∈ up n (pr L n p) i)); have := HNB.out; unfold und; omega⟩
      have HLR : Hid ((∀ z ∈ rts n (pr L n p), InR z) ∧ (rts n (pr L n p)).length ≤ 1000) := ⟨flt_in (by have := HNB.out; omega) _, by have := flt_len n.toNat (fun i => pr L n p i == 0); have := HNB.out; unfold rts; omega⟩
      go_loopw [9] (fun vi wr => ∃ k : Int, 1 ≤ k ∧ k ≤ n + 1 ∧ vi = .int .i64 k ∧ Below W.heap.size W wr) (fun vi _ => (n + 1 - RowKit.intOf vi).toNat)
      case atStart => exact ⟨1, by omega, by have := HNB.out; omega, rfl, by first | exact Below.refl _ _ | (rw [HWZ.out]; exact Below.refl _ _)⟩
      case round =>
        obtain ⟨k, hk0, hk1, rfl, hb⟩ := hrel
        have HBk := Lib.hid hb
        by_cases hlt : k ≤ n
        · have t0 : decide (k ≤ n) = true := decide_eq_true hlt
          have e1 : wrap64 (k + 1) = k + 1 := wrap_int (by omega) (by have := HNB.out; omega)
          have HRD : Hid (∀ w', Below W.heap.size W w' → ∃ k' : Int, 1 ≤ k' ∧ k' ≤ n + 1 ∧ Value.int .i64 (k + 1) = .int .i64 k' ∧ Below W.heap.size W w') := fun w' h => ⟨k + 1, by omega, by omega, rfl, h⟩
          have HM : Hid ((n + 1 - (k + 1)).toNat < (n + 1 - k).toNat) := by show _ < _; omega
          have HEK : Hid (Ent n k) := ⟨hk0, hlt⟩
          have hma := HMA.out k k wr hb
          rw [mt_self HFO.out HEK.out] at hma
          clear hb hlt hk0 hk1
          go_wp2_with fail
          refine hma.mono ?_; clear hma; rintro e w3 ⟨rfl, hb3⟩
          have HW3 : Hid (Below W.heap.size W w3) := HBk.out.trans (hb3.mono HBk.out.size)
          clear hb3 HBk
          go_wp2_with fail
          go_loopw [10] (fun vi wr => ∃ j : Int, 1 ≤ j ∧ j ≤ n + 1 ∧ vi = .int .i64 j ∧ Below W.heap.size W wr) (fun vi _ => (n + 1 - RowKit.intOf vi).toNat)
          case atStart => exact ⟨1, by omega, by have := HNB.out; omega, rfl, HW3.out⟩
          case round =>
            clear HW3
            obtain ⟨j, hj0, hj1, rfl, hb⟩ := hrel
            have HBj := Lib.hid hb
            by_cases hlt : j ≤ n
            · have t1 : decide (j ≤ n) = true := decide_eq_true hlt
              have e2 : wrap64 (j + 1) = j + 1 := wrap_int (by omega) (by have := HNB.out; omega)
              have HRJ : Hid (∀ w', Below W.heap.size W w' → ∃ j' : Int, 1 ≤ j' ∧ j' ≤ n + 1 ∧ Value.int .i64 (j + 1) = .int .i64 j' ∧ Below W.heap.size W w') := fun w' h => ⟨j + 1, by omega, by omega, rfl, h⟩
              have HMJ : Hid ((n + 1 - (j + 1)).toNat < (n + 1 - j).toNat) := by show _ < _; omega
              have HEJ : Hid (Ent n j) := ⟨hj0, hlt⟩
              have HMM : Hid ((∀ t, t ∈ up n (pr L n p) k → t ∈ up n (pr L n p) j → mt n (pr L n p) k j ≠ 0 ∧ t ∈ up n (pr L n p) (mt n (pr L n p) k j)) ∧ (mt n (pr L n p) k j = 0 → ∀ t, t ∈ up n (pr L n p) k → ¬ t ∈ up n (pr L n p) j) ∧ (mt n (pr L n p) k j ≠ 0 → mt n (pr L n p) k j ∈ up n (pr L n p) k ∧ mt n (pr L n p) k j ∈ up n (pr L n p) j ∧ Ent n (mt n (pr L n p) k j))) := mt_facts HFO.out k j
              have hmm := HMA.out k j wr hb
              have HMS := Lib.hid (fun wz (q : Below W.heap.size W wz) => HMA.out j k wz q)
              rw [mt_swap HFO.out j k] at HMS
              generalize mt n (pr L n p) k j = m at *
              clear hb hlt hj0 hj1
              go_wp2_with fail
              refine hmm.mono ?_; clear hmm; rintro e w3 ⟨rfl, hb3⟩
              have HW3 : Hid (Below W.heap.size W w3) := HBj.out.trans (hb3.mono HBj.out.size)
              clear hb3 HBj
              go_wp2_with fail
              go_loopw [12, 13] (fun vb vt wr => ∃ (t : Int) (bt : Bool), 1 ≤ t ∧ t ≤ n + 1 ∧ vt = .int .i64 t ∧ vb = .bool bt ∧ BothR n (pr L n p) k j t bt ∧ Below W.heap.size W wr) (fun _ vi _ => (n + 1 - RowKit.intOf vi).toNat)
              case atStart => exact ⟨1, false, by omega, by have := HNB.out; omega, rfl, rfl, both_start HFO.out k j, HW3.out⟩
              case round =>
                clear HW3
                obtain ⟨t, bt, ht0, ht1, rfl, rfl, hbt, hb⟩ := hrel
                have HBwr := Lib.hid hb
                by_cases hlt : t ≤ n
                · have t2 : decide (t ≤ n) = true := decide_eq_true hlt
                  have e3 : wrap64 (t + 1) = t + 1 := wrap_int (by omega) (by have := HNB.out; omega)
                  have HRX : Hid (∀ bt', BothR n (pr L n p) k j (t + 1) bt' → ∀ w', Below W.heap.size W w' → ∃ (t' : Int) (b' : Bool), 1 ≤ t' ∧ t' ≤ n + 1 ∧ Value.int .i64 (t + 1) = .int .i64 t' ∧ Value.bool bt' = .bool b' ∧ BothR n (pr L n p) k j t' b' ∧ Below W.heap.size W w') := fun bt' h1 w' h => ⟨t + 1, bt', by omega, by omega, rfl, rfl, h1, h⟩
                  have HMT : Hid ((n + 1 - (t + 1)).toNat < (n + 1 - t).toNat) := by show _ < _; omega
                  have HI1 := Lib.hid (HLD.out t).1
                  have HNAt := Lib.hid (fun wz (q : Below W.heap.size W wz) => HNA.out t wz q)
                  clear hb hlt ht0 ht1
                  by_cases h1 : t ∈ up n (pr L n p) k
                  · by_cases h2 : t ∈ up n (pr L n p) j
                    · have HC1 : Hid (∀ ra rc wz, Reads wz ra (und n (pr L n p) t) → Calls Try.prog 28 #[.slice ra (und n (pr L n p) t).length rc, .int .i64 k] wz fun e w' => e = .returned (.bool true) ∧ wz = w') := fun ra rc wz h => by have := HHAS.out _ (HLD.out t).2 ra rc k wz h; rwa [decide_eq_true (show k ∈ und n (pr L n p) t by rw [mem_und' HEK.out]; exact h1)] at this
                      have HC2 : Hid (∀ ra rc wz, Reads wz ra (und n (pr L n p) t) → Calls Try.prog 28 #[.slice ra (und n (pr L n p) t).length rc, .int .i64 j] wz fun e w' => e = .returned (.bool true) ∧ wz = w') := fun ra rc wz h => by have := HHAS.out _ (HLD.out t).2 ra rc j wz h; rwa [decide_eq_true (show j ∈ und n (pr L n p) t by rw [mem_und' HEJ.out]; exact h2)] at this
                      have HC3 : Hid (∀ ra rc wz, Reads wz ra (und n (pr L n p) t) → Calls Try.prog 28 #[.slice ra (und n (pr L n p) t).length rc, .int .i64 m] wz fun e w' => e = .returned (.bool true) ∧ wz = w') := fun ra rc wz h => by have := HHAS.out _ (HLD.out t).2 ra rc m wz h; rwa [decide_eq_true (show m ∈ und n (pr L n p) t by rw [mem_und' (HMM.out.2.2 (HMM.out.1 t h1 h2).1).2.2]; exact (HMM.out.1 t h1 h2).2)] at this
                      have HRT := Lib.hid (HRX.out true (both_yes hbt h1 h2))
                      clear hbt h1 h2 HRX
                      generalize und n (pr L n p) t = C1 at *
                      go_wp2_with fail
                      refine (HNAt.out wr HBwr.out).mono ?_; rintro e w4 ⟨vw4, rfl, huw4, hbw4⟩
                      have HBw4 : Hid (Below W.heap.size W w4) := HBwr.out.trans (hbw4.mono HBwr.out.size)
                      obtain ⟨raw4, rcw4, rfl, -, hrw4⟩ := huw4.reads HI1.out
                      have HRw4 := Lib.hid hrw4
                      clear huw4 hbw4 hrw4
                      go_wp2_with fail
                      refine (HC1.out _ _ w4 HRw4.out).mono ?_; rintro e w7 ⟨rfl, rfl⟩
                      go_wp2_with fail
                      refine (HC2.out _ _ w4 HRw4.out).mono ?_; rintro e w7 ⟨rfl, rfl⟩
                      go_wp2_with fail
                      refine (HC3.out _ _ w4 HRw4.out).mono ?_; rintro e w7 ⟨rfl, rfl⟩
                      go_wp2_with fail
                      all_goals go_roundw
                      · (first | exact HRT.out _ HBw4.out | (rw [e3]; exact HRT.out _ HBw4.out))
                      · (first | exact HMT.out | (rw [e3]; exact HMT.out))
                    · have HC1 : Hid (∀ ra rc wz, Reads wz ra (und n (pr L n p) t) → Calls Try.prog 28 #[.slice ra (und n (pr L n p) t).length rc, .int .i64 k] wz fun e w' => e = .returned (.bool true) ∧ wz = w') := fun ra rc wz h => by have := HHAS.out _ (HLD.out t).2 ra rc k wz h; rwa [decide_eq_true (show k ∈ und n (pr L n p) t by rw [mem_und' HEK.out]; exact h1)] at this
                      have HC2 : Hid (∀ ra rc wz, Reads wz ra (und n (pr L n p) t) → Calls Try.prog 28 #[.slice ra (und n (pr L n p) t).length rc, .int .i64 j] wz fun e w' => e = .returned (.bool false) ∧ wz = w') := fun ra rc wz h => by have := HHAS.out _ (HLD.out t).2 ra rc j wz h; rwa [decide_eq_false (show ¬ j ∈ und n (pr L n p) t by rw [mem_und' HEJ.out]; exact h2)] at this
                      have HRT := Lib.hid (HRX.out bt (both_no hbt (fun q => h2 q.2)))
                      clear hbt h1 h2 HRX
                      generalize und n (pr L n p) t = C1 at *
                      go_wp2_with fail
                      refine (HNAt.out wr HBwr.out).mono ?_; rintro e w4 ⟨vw4, rfl, huw4, hbw4⟩
                      have HBw4 : Hid (Below W.heap.size W w4) := HBwr.out.trans (hbw4.mono HBwr.out.size)
                      obtain ⟨raw4, rcw4, rfl, -, hrw4⟩ := huw4.reads HI1.out
                      have HRw4 := Lib.hid hrw4
                      clear huw4 hbw4 hrw4
                      go_wp2_with fail
                      refine (HC1.out _ _ w4 HRw4.out).mono ?_; rintro e w7 ⟨rfl, rfl⟩
                      go_wp2_with fail
                      refine (HC2.out _ _ w4 HRw4.out).mono ?_; rintro e w7 ⟨rfl, rfl⟩
                      go_wp2_with fail
                      all_goals go_roundw
                      · (first | exact HRT.out _ HBw4.out | (rw [e3]; exact HRT.out _ HBw4.out))
                      · (first | exact HMT.out | (rw [e3]; exact HMT.out))
                  · have HC1 : Hid (∀ ra rc wz, Reads wz ra (und n (pr L n p) t) → Calls Try.prog 28 #[.slice ra (und n (pr L n p) t).length rc, .int .i64 k] wz fun e w' => e = .returned (.bool false) ∧ wz = w') := fun ra rc wz h => by have := HHAS.out _ (HLD.out t).2 ra rc k wz h; rwa [decide_eq_false (show ¬ k ∈ und n (pr L n p) t by rw [mem_und' HEK.out]; exact h1)] at this
                    have HRT := Lib.hid (HRX.out bt (both_no hbt (fun q => h1 q.1)))
                    clear hbt h1 HRX
                    generalize und n (pr L n p) t = C1 at *
                    go_wp2_with fail
                    refine (HNAt.out wr HBwr.out).mono ?_; rintro e w4 ⟨vw4, rfl, huw4, hbw4⟩
                    have HBw4 : Hid (Below W.heap.size W w4) := HBwr.out.trans (hbw4.mono HBwr.out.size)
                    obtain ⟨raw4, rcw4, rfl, -, hrw4⟩ := huw4.reads HI1.out
                    have HRw4 := Lib.hid hrw4
                    clear huw4 hbw4 hrw4
                    go_wp2_with fail
                    refine (HC1.out _ _ w4 HRw4.out).mono ?_; rintro e w7 ⟨rfl, rfl⟩
                    go_wp2_with fail
                    all_goals go_roundw
                    · (first | exact HRT.out _ HBw4.out | (rw [e3]; exact HRT.out _ HBw4.out))
                    · (first | exact HMT.out | (rw [e3]; exact HMT.out))
                · have t2 : decide (t ≤ n) = false := decide_eq_false hlt
                  have HBF : Hid ((m = 0 → bt = false) ∧ (m ≠ 0 → bt = true)) := both_end HFO.out hbt (by omega) HMM.out.2.1 HMM.out.2.2
                  have hms := HMS.out wr HBwr.out
                  clear hb hlt ht0 ht1 hbt
                  by_cases h0 : m = 0
                  · have hbf := HBF.out.1 h0
                    clear HBF
                    subst hbf
                    subst h0
                    go_wp2_with fail
                    refine hms.mono ?_; clear hms; rintro e w4 ⟨rfl, hbw4⟩
                    have HBw4 : Hid (Below W.heap.size W w4) := HBwr.out.trans (hbw4.mono HBwr.out.size)
                    clear hbw4
                    go_wp2_with fail
                    all_goals go_roundw
                    · (first | exact HRJ.out _ HBw4.out | (rw [e2]; exact HRJ.out _ HBw4.out))
                    · (first | exact HMJ.out | (rw [e2]; exact HMJ.out))
                  · have hbf := Lib.hid (HBF.out.2 h0)
                    obtain rfl := hbf.out
                    have q0 : (m != 0) = true := by simpa using h0
                    have HE := Lib.hid (HMM.out.2.2 h0)
                    have HC1 : Hid (∀ ra rc wz, Reads wz ra (und n (pr L n p) m) → Calls Try.prog 28 #[.slice ra (und n (pr L n p) m).length rc, .int .i64 k] wz fun e w' => e = .returned (.bool true) ∧ wz = w') := fun ra rc wz h => by have := HHAS.out _ (HLD.out m).2 ra rc k wz h; rwa [decide_eq_true (show k ∈ und n (pr L n p) m by rw [mem_und' HEK.out]; exact HE.out.1)] at this
                    have HC2 : Hid (∀ ra rc wz, Reads wz ra (und n (pr L n p) m) → Calls Try.prog 28 #[.slice ra (und n (pr L n p) m).length rc, .int .i64 j] wz fun e w' => e = .returned (.bool true) ∧ wz = w') := fun ra rc wz h => by have := HHAS.out _ (HLD.out m).2 ra rc j wz h; rwa [decide_eq_true (show j ∈ und n (pr L n p) m by rw [mem_und' HEJ.out]; exact HE.out.2.1)] at this
                    have HI1 := Lib.hid (HLD.out m).1
                    have HNAm := Lib.hid (fun wz (q : Below W.heap.size W wz) => HNA.out m wz q)
                    clear h0
                    generalize und n (pr L n p) m = C1 at *
                    go_wp2_with fail
                    refine hms.mono ?_; clear hms; rintro e w4 ⟨rfl, hbw4⟩
                    have HBw4 : Hid (Below W.heap.size W w4) := HBwr.out.trans (hbw4.mono HBwr.out.size)
                    clear hbw4
                    go_wp2_with fail
                    refine (HNAm.out w4 HBw4.out).mono ?_; rintro e w5 ⟨vw5, rfl, huw5, hbw5⟩
                    have HBw5 : Hid (Below W.heap.size W w5) := HBw4.out.trans (hbw5.mono HBw4.out.size)
                    obtain ⟨raw5, rcw5, rfl, -, hrw5⟩ := huw5.reads HI1.out
                    have HRw5 := Lib.hid hrw5
                    clear huw5 hbw5 hrw5
                    go_wp2_with fail
                    refine (HC1.out _ _ w5 HRw5.out).mono ?_; rintro e w7 ⟨rfl, rfl⟩
                    go_wp2_with fail
                    refine (HNAm.out w5 HBw5.out).mono ?_; rintro e w6 ⟨vw6, rfl, huw6, hbw6⟩
                    have HBw6 : Hid (Below W.heap.size W w6) := HBw5.out.trans (hbw6.mono HBw5.out.size)
                    obtain ⟨raw6, rcw6, rfl, -, hrw6⟩ := huw6.reads HI1.out
                    have HRw6 := Lib.hid hrw6
                    clear huw6 hbw6 hrw6
                    go_wp2_with fail
                    refine (HC2.out _ _ w6 HRw6.out).mono ?_; rintro e w7 ⟨rfl, rfl⟩
                    go_wp2_with fail
                    all_goals go_roundw
                    · (first | exact HRJ.out _ HBw6.out | (rw [e2]; exact HRJ.out _ HBw6.out))
                    · (first | exact HMJ.out | (rw [e2]; exact HMJ.out))
            · have t1 : decide (j ≤ n) = false := decide_eq_false hlt
              clear hb hlt hj0 hj1
              go_wp2_with fail
              all_goals go_roundw
              · (first | exact HRD.out _ HBj.out | (rw [e1]; exact HRD.out _ HBj.out))
              · (first | exact HM.out | (rw [e1]; exact HM.out))
        · have t0 : decide (k ≤ n) = false := decide_eq_false hlt
          clear hb hlt hk0 hk1
          go_wp2_with fail
          refine (awake19 _).mono ?_; rintro e w9 ⟨rfl, hb9⟩
          go_wp2_with fail
          go_ret
          exact ⟨rfl, HB3.out.trans ((HBk.out.trans (hb9.mono HBk.out.size)).mono HB3.out.size)⟩
    · have d5 : (atE L n p != 0) = true := by simpa using he
      have hca := atno19 a c L.length L n p (atE L n p) w HL.out.1 rfl hl rfl he
      generalize atE L n p = en at *
      clear he g1 hl
      go_enter Try.func6, Try.ntmps6
      go_wp2_with fail
      refine hfew.mono ?_; clear hfew; rintro e w0 ⟨rfl, rfl⟩
      go_wp2_with fail
      refine hca.mono ?_; clear hca; rintro e w1 ⟨rfl, hb1⟩
      have HB1 := Lib.hid hb1
      clear hb1
      go_wp2_with fail
      refine (awake19 _).mono ?_; rintro e w9 ⟨rfl, hb9⟩
      go_wp2_with fail
      go_ret
      exact ⟨rfl, HB1.out.trans (hb9.mono HB1.out.size)⟩
  · have hd : (decide (L.length ≤ 20) && decide (n ≤ 10)) = false := by
      rw [Bool.and_eq_false_iff]
      by_cases q : L.length ≤ 20
      · exact Or.inr (decide_eq_false fun r => g1 ⟨q, r⟩)
      · exact Or.inl (decide_eq_false q)
    rw [hd] at hfew
    clear hd g1
    go_enter Try.func6, Try.ntmps6
    go_wp2_with fail
    refine hfew.mono ?_; clear hfew; rintro e w0 ⟨rfl, rfl⟩
    go_wp2_with fail
    refine (awake19 _).mono ?_; rintro e w9 ⟨rfl, hb9⟩
    go_wp2_with fail
    go_ret
    exact ⟨rfl, HBW.out.trans (hb9.mono HBW.out.size)⟩
end Go.Proofs.Ytebjmnppeohdiaa
