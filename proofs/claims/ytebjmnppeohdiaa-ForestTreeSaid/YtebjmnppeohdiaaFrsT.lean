/-
  ForestTells of layer 19 returns true, whatever stakes and numbers it is given. No conditions.
-/
import Derived.Test.YtebjmnppeohdiaaFrsW
import Derived.Test.YtebjmnppeohdiaaRowQ
import Derived.Deep.QuietTactic
import Derived.BigQuiet
import Derived.WalkSmall
import Derived.Deep.DeepCutAuto
import Derived.Deep.RegionHeld3
namespace Go.Proofs.Ytebjmnppeohdiaa
open Go.RowKit
set_option linter.unusedSimpArgs false
set_option linter.unusedVariables false

theorem rdq_in19 {w : World} {a : Option Addr} {c : Nat} {L : List K4} (h : Go.RowsIn.QuadS w a c L) : RdQ w a L ∧ L.length ≤ c ∧ (a = none → c = 0) := by
  refine ⟨⟨fun s hs => ?_, fun i hi => ?_⟩, h.1, h.2.1⟩
  · obtain ⟨j, hj, rfl⟩ := List.getElem_of_mem hs
    obtain ⟨b, off, _, _, _, _, _, r1, r2, r3, r4⟩ := h.2.2 j hj
    rw [show L.getD j (0, 0, 0, 0) = L[j] from get4 hj] at r1 r2 r3 r4
    exact ⟨r1, r2, r3, r4⟩
  · obtain ⟨b, off, k1, k2, k3, k4, k5, _⟩ := h.2.2 i hi
    exact ⟨b, off, k1, k2, k3, k4, k5⟩
set_option maxHeartbeats 16000000 in
set_option maxRecDepth 100000 in
theorem tells19 (a : Option Addr) (c : Nat) (L : List K4) (n p : Int) (w : World) (hr : Go.RowsIn.QuadS w a c L) (hn0 : InR n) :
    Calls Try.prog 3 #[.slice a L.length c, .int .i64 n, .int .i64 p] w fun e w' => e = .returned (.bool true) ∧ Below w.heap.size w w' := by
  have HL := Lib.hid (rdq_in19 hr)
  have HBW := Lib.hid (Below.refl w.heap.size w)
  clear hr
  by_cases g1 : 20 < L.length
  · have d1 : decide ((20 : Int) < (L.length : Int)) = true := decide_eq_true (by omega)
    have d2 : decide (20 < L.length) = true := decide_eq_true g1
    go_enter Try.func3, Try.ntmps3
    go_wp2_with fail
    refine (awake19 _).mono ?_; rintro e w9 ⟨rfl, hb9⟩
    go_wp2_with fail
    go_ret
    exact ⟨rfl, HBW.out.trans (hb9.mono HBW.out.size)⟩
  · have d1 : decide ((20 : Int) < (L.length : Int)) = false := decide_eq_false (by omega)
    have d2 : decide (20 < L.length) = false := decide_eq_false g1
    by_cases g2 : 10 < n ∧ n ≤ 40
    · have d3 : decide (10 < n) = true := decide_eq_true g2.1
      have d4 : decide (n ≤ 40) = true := decide_eq_true g2.2
      go_enter Try.func3, Try.ntmps3
      go_wp2_with fail
      refine (awake19 _).mono ?_; rintro e w9 ⟨rfl, hb9⟩
      go_wp2_with fail
      go_ret
      exact ⟨rfl, HBW.out.trans (hb9.mono HBW.out.size)⟩
    · obtain ⟨D, hD, hDn⟩ : ∃ D, decide (10 < n) = D ∧ (D = true → decide (n ≤ 40) = false) := ⟨_, rfl, fun q => decide_eq_false fun r => g2 ⟨of_decide_eq_true q, r⟩⟩
      have hl : L.length ≤ 1000000 := by omega
      by_cases he : atE L n p = 0
      · have HNB : Hid (0 ≤ n ∧ n ≤ 10) := by
          have := (atE_zero he).1
          constructor
          · omega
          · omega
        have d3 : decide (10 < n) = false := decide_eq_false (by have := HNB.out; omega)
        have hca := at19 a c L.length L n p w HL.out.1 rfl hl he
        have HRA : Hid (∀ wz, Below w.heap.size w wz → Calls Try.prog 9 #[.slice a L.length c, .int .i64 n, .int .i64 p] wz fun e w' => e = .returned (.tuple #[fV a c L n p, .int .i64 0]) ∧ Below wz.heap.size wz w') := fun wz q => r19at_yes a c L n p wz (HL.out.1.below q) hl HL.out.2.1 he
        have HFO : Hid (FOk n (pr L n p)) := pr_ok p (at_len he) (atE_zero he).2.2
        have HSO : Hid (∀ x, 0 ≤ sr L n p x ∧ sr L n p x ≤ 10000) := sr_ok p (at_len he) (atE_zero he).2.2
        have HLL := Lib.hid hl
        clear he g1 g2 hl hD hDn D
        go_enter Try.func3, Try.ntmps3
        go_wp2_with fail
        refine hca.mono ?_; clear hca; rintro e w1 ⟨B, rfl, hFB, -, hb1⟩
        have HB1 := Lib.hid hb1
        have HFB1 := Lib.hid hFB
        have hra := HRA.out w1 hb1
        clear hFB hb1 HRA
        go_wp2_with fail
        refine hra.mono ?_; clear hra; rintro e w2 ⟨rfl, hb2⟩
        have HB2 : Hid (Below w.heap.size w w2) := HB1.out.trans (hb2.mono HB1.out.size)
        have hb3 := below1 w2 (fC a c L n p)
        have HFB := Lib.hid ((HFB1.out.below hb2).below hb3)
        have HY := Lib.hid (Lies.new w2 a c L n p)
        have HB3 : Hid (Below w.heap.size w (w2.alloc (fC a c L n p))) := HB2.out.trans (hb3.mono HB2.out.size)
        clear hb2 hb3 HB2 HB1 HFB1 d1 d2 d3
        obtain ⟨c0, c1, c2⟩ := HY.out
        go_wp2_with fail
        generalize hW : w2.alloc (fC a c L n p) = W at *
        generalize hZ : w2.heap.size = z0 at *
        have HWZ := Lib.hid (And.intro hW hZ)
        clear hW hZ c0 c1 c2
        have HPA : Hid (∀ x wz, Below W.heap.size W wz → Calls Try.prog 10 #[ptr B, .int .i64 x] wz fun e w' => e = .returned (.int .i64 ((pr L n p) x)) ∧ Below wz.heap.size wz w') := fun x wz q => parent_c (HFB.out.below q) x
        have HPB : Hid (∀ x wz, Below W.heap.size W wz → Calls Try.prog 11 #[fV a c L n p, .int .i64 x] wz fun e w' => e = .returned (.int .i64 ((pr L n p) x)) ∧ Below wz.heap.size wz w') := fun x wz q => r19parent a c L n p x wz (HL.out.1.below (HB3.out.trans (q.mono HB3.out.size))) HLL.out
        have HSA : Hid (∀ x wz, Below W.heap.size W wz → Calls Try.prog 12 #[ptr B, .int .i64 x] wz fun e w' => e = .returned (.int .i64 ((sr L n p) x)) ∧ Below wz.heap.size wz w') := fun x wz q => share_c (HFB.out.below q) x
        have HSB : Hid (∀ x wz, Below W.heap.size W wz → Calls Try.prog 13 #[fV a c L n p, .int .i64 x] wz fun e w' => e = .returned (.int .i64 ((sr L n p) x)) ∧ Below wz.heap.size wz w') := fun x wz q => r19share a c L n p x wz (HL.out.1.below (HB3.out.trans (q.mono HB3.out.size))) HLL.out
        have HCA : Hid (∀ x wz, Below W.heap.size W wz → Calls Try.prog 15 #[ptr B, .int .i64 x] wz fun e w' => ∃ v, e = .returned v ∧ Own w' wz.heap.size v (chl n (pr L n p) x) ∧ Below wz.heap.size wz w') := fun x wz q => children_c (HFB.out.below q) x
        have HCB : Hid (∀ x wz, Below W.heap.size W wz → Calls Try.prog 16 #[fV a c L n p, .int .i64 x] wz fun e w' => ∃ v, e = .returned v ∧ Own w' wz.heap.size v (chl n (pr L n p) x) ∧ Below wz.heap.size wz w') := fun x wz q => r19children a c L n p x wz (HL.out.1.below (HB3.out.trans (q.mono HB3.out.size))) HLL.out (by have := HNB.out; omega)
        have HUA : Hid (∀ x wz, Below W.heap.size W wz → Calls Try.prog 17 #[ptr B, .int .i64 x] wz fun e w' => ∃ v, e = .returned v ∧ Own w' wz.heap.size v (up n (pr L n p) ((pr L n p) x)) ∧ Below wz.heap.size wz w') := fun x wz q => up_c (HFB.out.below q) HFO.out x
        have HUB : Hid (∀ x wz, Below W.heap.size W wz → Calls Try.prog 18 #[fV a c L n p, .int .i64 x] wz fun e w' => ∃ v, e = .returned v ∧ Own w' wz.heap.size v (up n (pr L n p) ((pr L n p) x)) ∧ Below wz.heap.size wz w') := fun x wz q => r19up a c L n p x wz (HL.out.1.below (HB3.out.trans (q.mono HB3.out.size))) HLL.out (by have := HNB.out; omega) HFO.out
        have HNA : Hid (∀ x wz, Below W.heap.size W wz → Calls Try.prog 19 #[ptr B, .int .i64 x] wz fun e w' => ∃ v, e = .returned v ∧ Own w' wz.heap.size v (und n (pr L n p) x) ∧ Below wz.heap.size wz w') := fun x wz q => unders_c (HFB.out.below q) HFO.out x
        have HNB2 : Hid (∀ x wz, Below W.heap.size W wz → Calls Try.prog 20 #[fV a c L n p, .int .i64 x] wz fun e w' => ∃ v, e = .returned v ∧ Own w' wz.heap.size v (und n (pr L n p) x) ∧ Below wz.heap.size wz w') := fun x wz q => r19under a c L n p x wz (HL.out.1.below (HB3.out.trans (q.mono HB3.out.size))) HLL.out (by have := HNB.out; omega) HFO.out
        have HRA2 : Hid (∀ wz, Below W.heap.size W wz → Calls Try.prog 21 #[ptr B] wz fun e w' => ∃ v, e = .returned v ∧ Own w' wz.heap.size v (rts n (pr L n p)) ∧ Below wz.heap.size wz w') := fun wz q => roots_c (HFB.out.below q)
        have HRB2 : Hid (∀ wz, Below W.heap.size W wz → Calls Try.prog 22 #[fV a c L n p] wz fun e w' => ∃ v, e = .returned v ∧ Own w' wz.heap.size v (rts n (pr L n p)) ∧ Below wz.heap.size wz w') := fun wz q => r19roots a c L n p wz (HL.out.1.below (HB3.out.trans (q.mono HB3.out.size))) HLL.out (by have := HNB.out; omega)
        have HSM : Hid (∀ (M : List Int), M.length ≤ 1000 → ∀ a2 a3 c2 c3 wz, Reads wz a2 M → Reads wz a3 M → Calls Try.prog 14 #[.slice a2 M.length c2, .slice a3 M.length c3] wz fun e w' => e = .returned (.bool true) ∧ Below wz.heap.size wz w') := fun M hm a2 a3 c2 c3 wz h2 h3 => by
          have := same_any a2 a3 c2 c3 M M wz h2 h3 (by omega)
          rwa [decide_eq_true rfl] at this
        have HLN : Hid (∀ x, (∀ z ∈ chl n (pr L n p) x, InR z) ∧ (chl n (pr L n p) x).length ≤ 1000) := fun x => by
          have := HNB.out
          unfold chl
          split
          · exact ⟨flt_in (by omega) _, by have := flt_len n.toNat (fun i => pr L n p i == x); omega⟩
          · exact ⟨fun z hz => (by cases hz), by simp⟩
        have HLU : Hid (∀ x, (∀ z ∈ up n (pr L n p) x, InR z) ∧ (up n (pr L n p) x).length ≤ 1000) := fun x => ⟨up_inR HFO.out (by have := HNB.out; omega) x, by have := ups_len HFO.out x; have := HNB.out; omega⟩
        have HLD : Hid (∀ x, (∀ z ∈ und n (pr L n p) x, InR z) ∧ (und n (pr L n p) x).length ≤ 1000) := fun x => ⟨flt_in (by have := HNB.out; omega) _, by have := flt_len n.toNat (fun i => decide (x ∈ up n (pr L n p) i)); have := HNB.out; unfold und; omega⟩
        have HLR : Hid ((∀ z ∈ rts n (pr L n p), InR z) ∧ (rts n (pr L n p)).length ≤ 1000) := ⟨flt_in (by have := HNB.out; omega) _, by have := flt_len n.toNat (fun i => pr L n p i == 0); have := HNB.out; unfold rts; omega⟩
        have eN : wrap64 (n + 1) = n + 1 := by have := HNB.out; unfold wrap64; omega
        go_loopw [11] (fun vi wr => ∃ k : Int, -1 ≤ k ∧ k ≤ n + 2 ∧ vi = .int .i64 k ∧ Below W.heap.size W wr) (fun vi _ => (n + 2 - RowKit.intOf vi).toNat)
        case atStart => exact ⟨-1, by omega, by have := HNB.out; omega, rfl, by first | exact Below.refl _ _ | (rw [HWZ.out.1]; exact Below.refl _ _)⟩
        case round =>
          obtain ⟨k, hk0, hk1, rfl, hb⟩ := hrel
          have K := Lib.hid hb
          obtain ⟨c0, c1, c2⟩ := HY.out.below hb
          by_cases hlt : k ≤ n + 1
          · have t0 : decide (k ≤ n + 1) = true := decide_eq_true hlt
            have e1 : wrap64 (k + 1) = k + 1 := by have := HNB.out; unfold wrap64; omega
            have HRD : Hid (∀ w', Below W.heap.size W w' → ∃ k' : Int, -1 ≤ k' ∧ k' ≤ n + 2 ∧ Value.int .i64 (k + 1) = .int .i64 k' ∧ Below W.heap.size W w') := fun w' h => ⟨k + 1, by omega, by omega, rfl, h⟩
            have HM : Hid ((n + 2 - (k + 1)).toNat < (n + 2 - k).toNat) := by show _ < _; omega
            have HPAk := Lib.hid (fun wz q => HPA.out k wz q)
            have HPBk := Lib.hid (fun wz q => HPB.out k wz q)
            have HSAk := Lib.hid (fun wz q => HSA.out k wz q)
            have HSBk := Lib.hid (fun wz q => HSB.out k wz q)
            have HCAk := Lib.hid (fun wz q => HCA.out k wz q)
            have HCBk := Lib.hid (fun wz q => HCB.out k wz q)
            have HUAk := Lib.hid (fun wz q => HUA.out k wz q)
            have HUBk := Lib.hid (fun wz q => HUB.out k wz q)
            have HNAk := Lib.hid (fun wz q => HNA.out k wz q)
            have HNB2k := Lib.hid (fun wz q => HNB2.out k wz q)
            have HI1 := Lib.hid (HLN.out k)
            have HI2 := Lib.hid (HLU.out (pr L n p k))
            have HI3 := Lib.hid (HLD.out k)
            clear HPA HPB HSA HSB HCA HCB HUA HUB HNA HNB2 HLN HLU HLD HLR HRA2 HRB2 hb hlt hk0 hk1
            generalize chl n (pr L n p) k = C1 at *
            generalize up n (pr L n p) (pr L n p k) = C2 at *
            generalize und n (pr L n p) k = C3 at *
            generalize sr L n p k = s1 at *
            generalize pr L n p k = u1 at *
            go_wp2_with fail
            go_region_held3 (fun wz => wz.cell? ⟨z0, 0, none⟩ = some (.slice a L.length c) ∧ wz.cell? ⟨z0, 1, none⟩ = some (.int .i64 n) ∧ wz.cell? ⟨z0, 2, none⟩ = some (.int .i64 p))
              (first | exact HY.out.below K.out | exact HY.out.below K.out.drew)
              (first
                | (go_at_call 10; (with_reducible first | refine (HPAk.out _ K.out).mono ?_ | refine (HPAk.out _ K.out.drew).mono ?_); rintro e wn ⟨rfl, hbn⟩; (first | replace K := Lib.hid (K.out.trans (hbn.mono K.out.size)) | replace K := Lib.hid (K.out.drew.trans (hbn.mono K.out.drew.size))); clear hbn)
                | (go_at_call 11; (with_reducible first | refine (HPBk.out _ K.out).mono ?_ | refine (HPBk.out _ K.out.drew).mono ?_); rintro e wn ⟨rfl, hbn⟩; (first | replace K := Lib.hid (K.out.trans (hbn.mono K.out.size)) | replace K := Lib.hid (K.out.drew.trans (hbn.mono K.out.drew.size))); clear hbn)
                | (go_at_call 12; (with_reducible first | refine (HSAk.out _ K.out).mono ?_ | refine (HSAk.out _ K.out.drew).mono ?_); rintro e wn ⟨rfl, hbn⟩; (first | replace K := Lib.hid (K.out.trans (hbn.mono K.out.size)) | replace K := Lib.hid (K.out.drew.trans (hbn.mono K.out.drew.size))); clear hbn)
                | (go_at_call 13; (with_reducible first | refine (HSBk.out _ K.out).mono ?_ | refine (HSBk.out _ K.out.drew).mono ?_); rintro e wn ⟨rfl, hbn⟩; (first | replace K := Lib.hid (K.out.trans (hbn.mono K.out.size)) | replace K := Lib.hid (K.out.drew.trans (hbn.mono K.out.drew.size))); clear hbn)
                | (go_at_call 15; (with_reducible first | refine (HCAk.out _ K.out).mono ?_ | refine (HCAk.out _ K.out.drew).mono ?_); rintro e wn ⟨v, rfl, hu, hbn⟩; (first | replace K := Lib.hid (K.out.trans (hbn.mono K.out.size)) | replace K := Lib.hid (K.out.drew.trans (hbn.mono K.out.drew.size))); obtain ⟨aU, cU, rfl, -, hrU⟩ := hu.reads HI1.out.1; have U := Lib.hid hrU; clear hbn hu hrU)
                | (go_at_call 16; (with_reducible first | refine (HCBk.out _ K.out).mono ?_ | refine (HCBk.out _ K.out.drew).mono ?_); rintro e wn ⟨v, rfl, hu, hbn⟩; (first | replace K := Lib.hid (K.out.trans (hbn.mono K.out.size)) | replace K := Lib.hid (K.out.drew.trans (hbn.mono K.out.drew.size))); obtain ⟨aV, cV, rfl, -, hrV⟩ := hu.reads HI1.out.1; have V := Lib.hid hrV; replace U := Lib.hid (by first | exact U.out.below hbn | exact (U.out.below (Below.refl _ _).drew).below hbn); clear hbn hu hrV)
                | (go_at_call 17; (with_reducible first | refine (HUAk.out _ K.out).mono ?_ | refine (HUAk.out _ K.out.drew).mono ?_); rintro e wn ⟨v, rfl, hu, hbn⟩; (first | replace K := Lib.hid (K.out.trans (hbn.mono K.out.size)) | replace K := Lib.hid (K.out.drew.trans (hbn.mono K.out.drew.size))); obtain ⟨aU, cU, rfl, -, hrU⟩ := hu.reads HI2.out.1; have U := Lib.hid hrU; clear hbn hu hrU)
                | (go_at_call 18; (with_reducible first | refine (HUBk.out _ K.out).mono ?_ | refine (HUBk.out _ K.out.drew).mono ?_); rintro e wn ⟨v, rfl, hu, hbn⟩; (first | replace K := Lib.hid (K.out.trans (hbn.mono K.out.size)) | replace K := Lib.hid (K.out.drew.trans (hbn.mono K.out.drew.size))); obtain ⟨aV, cV, rfl, -, hrV⟩ := hu.reads HI2.out.1; have V := Lib.hid hrV; replace U := Lib.hid (by first | exact U.out.below hbn | exact (U.out.below (Below.refl _ _).drew).below hbn); clear hbn hu hrV)
                | (go_at_call 19; (with_reducible first | refine (HNAk.out _ K.out).mono ?_ | refine (HNAk.out _ K.out.drew).mono ?_); rintro e wn ⟨v, rfl, hu, hbn⟩; (first | replace K := Lib.hid (K.out.trans (hbn.mono K.out.size)) | replace K := Lib.hid (K.out.drew.trans (hbn.mono K.out.drew.size))); obtain ⟨aU, cU, rfl, -, hrU⟩ := hu.reads HI3.out.1; have U := Lib.hid hrU; clear hbn hu hrU)
                | (go_at_call 20; (with_reducible first | refine (HNB2k.out _ K.out).mono ?_ | refine (HNB2k.out _ K.out.drew).mono ?_); rintro e wn ⟨v, rfl, hu, hbn⟩; (first | replace K := Lib.hid (K.out.trans (hbn.mono K.out.size)) | replace K := Lib.hid (K.out.drew.trans (hbn.mono K.out.drew.size))); obtain ⟨aV, cV, rfl, -, hrV⟩ := hu.reads HI3.out.1; have V := Lib.hid hrV; replace U := Lib.hid (by first | exact U.out.below hbn | exact (U.out.below (Below.refl _ _).drew).below hbn); clear hbn hu hrV)
                | (go_at_call 14; (with_reducible first | refine (HSM.out _ HI1.out.2 _ _ _ _ _ U.out V.out).mono ?_ | refine (HSM.out _ HI2.out.2 _ _ _ _ _ U.out V.out).mono ?_ | refine (HSM.out _ HI3.out.2 _ _ _ _ _ U.out V.out).mono ?_); rintro e wn ⟨rfl, hbn⟩; (first | replace K := Lib.hid (K.out.trans (hbn.mono K.out.size)) | replace K := Lib.hid (K.out.drew.trans (hbn.mono K.out.drew.size))); clear hbn)
              )
            all_goals go_wp2_with fail
            all_goals go_roundw
            · (first | exact HRD.out _ K.out | (rw [e1]; exact HRD.out _ K.out))
            · (first | exact HM.out | (rw [e1]; exact HM.out))
          · have t0 : decide (k ≤ n + 1) = false := decide_eq_false hlt
            have HRAk := Lib.hid (fun wz q => HRA2.out wz q)
            have HRBk := Lib.hid (fun wz q => HRB2.out wz q)
            have HAW : Hid (∀ wz, Below W.heap.size W wz → Calls Try.prog 7 #[] wz fun e w' => e = .returned (.bool true) ∧ Below wz.heap.size wz w') := fun wz _ => awake19 wz
            clear HPA HPB HSA HSB HCA HCB HUA HUB HNA HNB2 HLN HLU HLD HRA2 HRB2 hb hlt hk0 hk1
            generalize rts n (pr L n p) = C1 at *
            go_wp2_with fail
            go_region_held3 (fun wz => wz.cell? ⟨z0, 0, none⟩ = some (.slice a L.length c) ∧ wz.cell? ⟨z0, 1, none⟩ = some (.int .i64 n) ∧ wz.cell? ⟨z0, 2, none⟩ = some (.int .i64 p))
              (first | exact HY.out.below K.out | exact HY.out.below K.out.drew)
              (first
                | (go_at_call 21; (with_reducible first | refine (HRAk.out _ K.out).mono ?_ | refine (HRAk.out _ K.out.drew).mono ?_); rintro e wn ⟨v, rfl, hu, hbn⟩; (first | replace K := Lib.hid (K.out.trans (hbn.mono K.out.size)) | replace K := Lib.hid (K.out.drew.trans (hbn.mono K.out.drew.size))); obtain ⟨aU, cU, rfl, -, hrU⟩ := hu.reads HLR.out.1; have U := Lib.hid hrU; clear hbn hu hrU)
                | (go_at_call 22; (with_reducible first | refine (HRBk.out _ K.out).mono ?_ | refine (HRBk.out _ K.out.drew).mono ?_); rintro e wn ⟨v, rfl, hu, hbn⟩; (first | replace K := Lib.hid (K.out.trans (hbn.mono K.out.size)) | replace K := Lib.hid (K.out.drew.trans (hbn.mono K.out.drew.size))); obtain ⟨aV, cV, rfl, -, hrV⟩ := hu.reads HLR.out.1; have V := Lib.hid hrV; replace U := Lib.hid (by first | exact U.out.below hbn | exact (U.out.below (Below.refl _ _).drew).below hbn); clear hbn hu hrV)
                | (go_at_call 14; (with_reducible first | refine (HSM.out _ HLR.out.2 _ _ _ _ _ U.out V.out).mono ?_); rintro e wn ⟨rfl, hbn⟩; (first | replace K := Lib.hid (K.out.trans (hbn.mono K.out.size)) | replace K := Lib.hid (K.out.drew.trans (hbn.mono K.out.drew.size))); clear hbn)
                | (go_at_call 7; (with_reducible first | refine (HAW.out _ K.out).mono ?_ | refine (HAW.out _ K.out.drew).mono ?_); rintro e wn ⟨rfl, hbn⟩; (first | replace K := Lib.hid (K.out.trans (hbn.mono K.out.size)) | replace K := Lib.hid (K.out.drew.trans (hbn.mono K.out.drew.size))); clear hbn)
              )
            all_goals go_wp2_with fail
            all_goals go_ret
            all_goals exact ⟨by first | rfl | trivial, by first | exact HB3.out.trans (K.out.mono HB3.out.size) | exact HB3.out.trans (K.out.drew.mono HB3.out.size)⟩
      · have d5 : (atE L n p != 0) = true := by simpa using he
        have hca := atno19 a c L.length L n p (atE L n p) w HL.out.1 rfl hl rfl he
        have HRA : Hid (∀ wz, Below w.heap.size w wz → Calls Try.prog 9 #[.slice a L.length c, .int .i64 n, .int .i64 p] wz fun e w' => e = .returned (.tuple #[.agg #[.slice none 0 0, .int .i64 0, .int .i64 0], .int .i64 (atE L n p)]) ∧ Below wz.heap.size wz w') := fun wz q => r19at_no a c L n p wz (HL.out.1.below q) hl HL.out.2.1 he
        generalize atE L n p = en at *
        cases D with
        | true =>
          have d4 := hDn rfl
          clear he g1 g2 hl hDn
          go_enter Try.func3, Try.ntmps3
          go_wp2_with fail
          refine hca.mono ?_; clear hca; rintro e w1 ⟨rfl, hb1⟩
          have HB1 := Lib.hid hb1
          have hra := HRA.out w1 hb1
          clear hb1 HRA
          go_wp2_with fail
          refine hra.mono ?_; clear hra; rintro e w2 ⟨rfl, hb2⟩
          have HB2 : Hid (Below w.heap.size w w2) := HB1.out.trans (hb2.mono HB1.out.size)
          have HB3 : Hid (Below w.heap.size w (w2.alloc (.cells #[.slice none 0 0, .int .i64 0, .int .i64 0] 29))) := HB2.out.trans ((below1 w2 _).mono HB2.out.size)
          clear hb2
          go_wp2_with fail
          refine (awake19 _).mono ?_; rintro e w9 ⟨rfl, hb9⟩
          go_wp2_with fail
          go_ret
          exact ⟨rfl, HB3.out.trans (hb9.mono HB3.out.size)⟩
        | false =>
          clear he g1 g2 hl hDn
          go_enter Try.func3, Try.ntmps3
          go_wp2_with fail
          refine hca.mono ?_; clear hca; rintro e w1 ⟨rfl, hb1⟩
          have HB1 := Lib.hid hb1
          have hra := HRA.out w1 hb1
          clear hb1 HRA
          go_wp2_with fail
          refine hra.mono ?_; clear hra; rintro e w2 ⟨rfl, hb2⟩
          have HB2 : Hid (Below w.heap.size w w2) := HB1.out.trans (hb2.mono HB1.out.size)
          have HB3 : Hid (Below w.heap.size w (w2.alloc (.cells #[.slice none 0 0, .int .i64 0, .int .i64 0] 29))) := HB2.out.trans ((below1 w2 _).mono HB2.out.size)
          clear hb2
          go_wp2_with fail
          refine (awake19 _).mono ?_; rintro e w9 ⟨rfl, hb9⟩
          go_wp2_with fail
          go_ret
          exact ⟨rfl, HB3.out.trans (hb9.mono HB3.out.size)⟩
end Go.Proofs.Ytebjmnppeohdiaa
