/-
  AccountLeaves of layer 20 returns true, whatever accounts it is given. No conditions.
-/
import Derived.Test.YteendpdidkekkaaAccQ
import Derived.Deep.QuietTactic
import Derived.BigQuiet
import Derived.WalkSmall
import Derived.Deep.DeepCutAuto
import Derived.Deep.RegionHeld3
namespace Go.Proofs.Yteendpdidkekkaa
open Go.RowKit
set_option linter.unusedSimpArgs false
set_option linter.unusedVariables false

set_option maxHeartbeats 16000000 in
set_option maxRecDepth 100000 in
theorem leaves20_law (a : Option Addr) (c : Nat) (L : List AcT) (w : World) (hr : Go.RowsIn.QuadB w a c L) :
    Calls Try.prog 5 #[.slice a L.length c] w fun e w' => e = .returned (.bool true) ∧ Below w.heap.size w w' := by
  have HL := Lib.hid (rdA_in hr)
  have HK0 := Lib.hid (Below.refl w.heap.size w)
  clear hr
  by_cases g1 : 20 < L.length
  · have d1 : decide ((20 : Int) < (L.length : Int)) = true := decide_eq_true (by omega)
    have d2 : decide (20 < L.length) = true := decide_eq_true g1
    clear g1
    go_enter Try.func5, Try.ntmps5
    go_wp2_with fail
    refine (awake20 _).mono ?_; rintro e w99 ⟨rfl, hb99⟩
    go_wp2_with fail
    go_ret
    exact ⟨rfl, HK0.out.trans (hb99.mono HK0.out.size)⟩
  · have d1 : decide ((20 : Int) < (L.length : Int)) = false := decide_eq_false (by omega)
    have d2 : decide (20 < L.length) = false := decide_eq_false g1
    have HN : Hid (L.length ≤ 1000) := by show _ ≤ _; omega
    have hck := check_a a c L w HL.out.1 HL.out.2.1 HN.out
    clear g1
    by_cases he : ckE L = 0
    · have HOK := Lib.hid (ck_ok he).1.fok
      rw [he] at hck
      have HUA : Hid (∀ x X, Below w.heap.size w X → Calls Try.prog 20 #[.slice a L.length c, .int .i64 x] X fun e w' => ∃ v, e = .returned v ∧ Own w' X.heap.size v (unl L.length (pa L) x) ∧ Below X.heap.size X w') := fun x X q => under_a a c L x X (HL.out.1.below q) HN.out
      have HCA : Hid (∀ x X, Below w.heap.size w X → Calls Try.prog 12 #[.slice a L.length c, .int .i64 x] X fun e w' => ∃ v, e = .returned v ∧ Own w' X.heap.size v (chs L.length (pa L) x) ∧ Below X.heap.size X w') := fun x X q => children_a a c L x X (HL.out.1.below q) HN.out
      have HLA : Hid (∀ x X, Below w.heap.size w X → Calls Try.prog 14 #[.slice a L.length c, .int .i64 x] X fun e w' => e = .returned (.bool (lfa L.length (pa L) x)) ∧ Below X.heap.size X w') := fun x X q => leaf_a a c L x X (HL.out.1.below q) HN.out
      have HPA : Hid (∀ x X, Below w.heap.size w X → Calls Try.prog 18 #[.slice a L.length c, .int .i64 x] X fun e w' => ∃ v, e = .returned v ∧ Own w' X.heap.size v (ups L.length (pa L) x) ∧ Below X.heap.size X w') := fun x X q => up_a a c L x X (HL.out.1.below q) HN.out
      generalize ckV L = cv at *
      clear he HL
      go_enter Try.func5, Try.ntmps5
      generalize pa L = f at *
      generalize L.length = n at *
      go_wp2_with fail
      refine hck.mono ?_; clear hck; rintro e w1 ⟨rfl, hb1⟩
      have HB1 := Lib.hid hb1
      clear hb1 HK0
      go_wp2_with fail
      go_loopw [5] (fun vi wr => ∃ k : Int, 1 ≤ k ∧ k ≤ (n : Int) + 1 ∧ vi = .int .i64 k ∧ Below w.heap.size w wr) (fun vi _ => ((n : Int) + 1 - RowKit.intOf vi).toNat)
      case atStart => exact ⟨1, by omega, by omega, rfl, HB1.out⟩
      case round =>
        obtain ⟨k, hk0, hk1, rfl, hb⟩ := hrel
        have HB0 := Lib.hid hb
        by_cases hlt : k ≤ (n : Int)
        · have t0 : decide (k ≤ (n : Int)) = true := decide_eq_true hlt
          have hn := HN.out
          have e1 : wrap64 (k + 1) = k + 1 := by unfold wrap64; omega
          have HRD : Hid (∀ w', Below w.heap.size w w' → ∃ k' : Int, 1 ≤ k' ∧ k' ≤ (n : Int) + 1 ∧ Value.int .i64 (k + 1) = .int .i64 k' ∧ Below w.heap.size w w') := fun w' h => ⟨k + 1, by omega, by omega, rfl, h⟩
          have HMK : Hid (((n : Int) + 1 - RowKit.intOf (.int .i64 (k + 1))).toNat < ((n : Int) + 1 - RowKit.intOf (.int .i64 k)).toNat) := by show _ < _; simp [RowKit.intOf]; omega
          have hek : Ent (n : Int) k := ⟨hk0, hlt⟩
          have HKR : Hid (InR k) := by show InR k; unfold InR; omega
          have hu := HUA.out k wr hb
          have HCK := Lib.hid (HCA.out k)
          have HLK := Lib.hid (HLA.out k)
          rw [chs_fam hek] at HCK
          rw [lfa_fam hek] at HLK
          have HUL : Hid ((unl n f k).length ≤ 1000) := Nat.le_trans (unl_few _ _ _) hn
          have HUI : Hid (∀ z ∈ unl n f k, InR z) := unl_in hn _ _
          have HFL : Hid ((fam n f k).length ≤ 1000) := Nat.le_trans (fam_len _ _ _) hn
          have HFN : Hid (∀ z ∈ fam n f k, InR z) := flt_in hn _
          have HFI : Hid (∀ x ∈ fam n f k, ∀ z ∈ unl n f x, z ∈ unl n f k) := fun x hx => unl_sub HOK.out hek hx
          have HUF : Hid (∀ z ∈ unl n f k, Ent (n : Int) z ∧ lfa n f z = true ∧ (z = k ∨ k ∈ ups n f z)) := fun z hz => unl_facts HOK.out hek hz
          have HG : Hid (∀ j, j < (fam n f k).length → (gat n f ((fam n f k).take (j + 1))).length = (gat n f ((fam n f k).take j)).length + (unl n f ((fam n f k).getD j 0)).length) := fun j hj => gat_step HOK.out hj
          have HGL : Hid (∀ K, (gat n f K).length ≤ n) := gat_len n f
          have tU : (((unl n f k).length : Int) == 0) = false := by have := unl_pos HOK.out hek; rw [beq_eq_false_iff_ne]; omega
          have HU0 : Hid (0 < (unl n f k).length) := unl_pos HOK.out hek
          clear hb hk0 hk1 hlt hn
          by_cases hf : fam n f k = []
          · have HU1 : Hid (unl n f k = [k]) := unl_leaf HOK.out hek hf
            rw [decide_eq_true hf] at HLK
            have HF0 : Hid ((fam n f k).length = 0) := by show _ = _; rw [hf]; rfl
            have tF : (((fam n f k).length : Int) == 0) = true := by rw [beq_iff_eq, HF0.out]; rfl
            generalize unl n f k = U at *
            generalize fam n f k = F at *
            clear hf hek
            go_wp2_with fail
            refine hu.mono ?_; clear hu; rintro e w2 ⟨vu, rfl, hou, hb2⟩
            have HB2 : Hid (Below w.heap.size w w2) := HB0.out.trans (hb2.mono HB0.out.size)
            obtain ⟨ua, uc, rfl, -, hru⟩ := hou.reads HUI.out
            have hc3 := HCK.out w2 HB2.out
            have HR2 := Lib.hid hru
            clear hou hb2 hru HB0 HCK
            go_wp2_with fail
            refine hc3.mono ?_; clear hc3; rintro e w3 ⟨vf, rfl, hof, hb3⟩
            have HB3 : Hid (Below w.heap.size w w3) := HB2.out.trans (hb3.mono HB2.out.size)
            obtain ⟨fa, fc, rfl, -, hrf⟩ := hof.reads HFN.out
            have HR3 := Lib.hid (And.intro (HR2.out.below hb3) hrf)
            have hl4 := HLK.out w3 HB3.out
            clear hof hb3 hrf HB2 HR2
            go_wp2_with fail
            refine hl4.mono ?_; clear hl4; rintro e w4 ⟨rfl, hb4⟩
            have HB4 : Hid (Below w.heap.size w w4) := HB3.out.trans (hb4.mono HB3.out.size)
            have HR4 := Lib.hid (And.intro (HR3.out.1.below hb4) (HR3.out.2.below hb4))
            clear hb4 HB3 HR3
            have hl5 := HLK.out w4 HB4.out
            go_wp2_with fail
            refine hl5.mono ?_; clear hl5; rintro e w5 ⟨rfl, hb5⟩
            have HB5 : Hid (Below w.heap.size w w5) := HB4.out.trans (hb5.mono HB4.out.size)
            have HR5 := Lib.hid (And.intro (HR4.out.1.below hb5) (HR4.out.2.below hb5))
            clear hb5 HB4 HR4 HLK
            have hnb := below1 w5 (.cells #[.int .i64 k] 3)
            have hsm := same20 ua (some ⟨w5.heap.size, 0, none⟩) uc 1 U.length 1 U [k] (w5.alloc (.cells #[.int .i64 k] 3)) (HR5.out.1.below hnb) (lit20 w5 [k] (fun z hz => by rw [List.mem_singleton.1 hz]; exact HKR.out)) rfl rfl HU1.out (by have := HUL.out; omega)
            have HB6 : Hid (Below w.heap.size w (w5.alloc (.cells #[.int .i64 k] 3))) := HB5.out.trans (hnb.mono HB5.out.size)
            have HR6 := Lib.hid (And.intro (HR5.out.1.below hnb) (HR5.out.2.below hnb))
            clear hnb HB5 HR5
            go_wp2_with fail
            refine hsm.mono ?_; clear hsm; rintro e wS ⟨rfl, hbS⟩
            have HBS : Hid (Below w.heap.size w wS) := HB6.out.trans (hbS.mono HB6.out.size)
            have HRU := Lib.hid (HR6.out.1.below hbS)
            have HRF := Lib.hid (HR6.out.2.below hbS)
            clear hbS HB6 HR6
            go_wp2_with fail
            go_loopw [8, 9] (fun vn vi wr => ∃ j : Nat, j ≤ F.length ∧ vi = .int .i64 (j : Int) ∧ vn = .int .i64 (((gat n f (F.take j)).length : Nat) : Int) ∧ Below wS.heap.size wS wr) (fun _ vi _ => F.length - (RowKit.intOf vi).toNat)
            case atStart => exact ⟨0, Nat.zero_le _, rfl, by rw [List.take_zero, gat_nil]; rfl, Below.refl _ _⟩
            case round =>
              obtain ⟨j, hj, rfl, rfl, hb⟩ := hrel
              have HBj := Lib.hid hb
              have HBw : Hid (Below w.heap.size w wr) := HBS.out.trans (hb.mono HBS.out.size)
              by_cases hlt : j < F.length
              · have := HF0.out; omega
              · obtain rfl : j = F.length := by omega
                have hd0 : decide ((F.length : Int) < (F.length : Int)) = false := decide_eq_false (by omega)
                have d5 : decide ((0 : Int) < (F.length : Int)) = false := decide_eq_false (by have := HF0.out; omega)
                have d5n : decide (0 < F.length) = false := decide_eq_false (by have := HF0.out; omega)
                generalize (gat n f (F.take F.length)).length = g1 at *
                have HUB := Lib.hid (HRU.out.below hb)
                clear hb hlt hj HBj
                generalize wr = wT at *
                go_wp2_with fail
                go_loopw [12] (fun vi wr => ∃ j : Nat, j ≤ U.length ∧ vi = .int .i64 (j : Int) ∧ Below wT.heap.size wT wr) (fun vi _ => U.length - (RowKit.intOf vi).toNat)
                case atStart => exact ⟨0, Nat.zero_le _, rfl, Below.refl _ _⟩
                case round =>
                  obtain ⟨j, hj, rfl, hb⟩ := hrel
                  have HBj := Lib.hid hb
                  have HBr : Hid (Below w.heap.size w wr) := HBw.out.trans (hb.mono HBw.out.size)
                  by_cases hlt : j < U.length
                  · obtain ⟨h1, h2, h3⟩ := HUF.out (U.getD j 0) (by rw [getD_lt _ _ hlt]; exact List.getElem_mem hlt)
                    obtain ⟨bu, ou, hua, hcu⟩ := (HUB.out.below hb).2 j hlt
                    have hcu' : wr.cell? ⟨bu, ou + j, none⟩ = some (.int .i64 (U.getD j 0)) := hcu
                    subst hua
                    have i0 : (0 : Int) ≤ (j : Int) := by omega
                    have i1 : (j : Int) < (U.length : Int) := by omega
                    have hul := HUL.out
                    have e3 : wrap64 ((j : Int) + 1) = (j : Int) + 1 := by unfold wrap64; omega
                    have HRI : Hid (∀ w', Below wT.heap.size wT w' → ∃ i' : Nat, i' ≤ U.length ∧ Value.int .i64 ((j : Int) + 1) = .int .i64 (i' : Int) ∧ Below wT.heap.size wT w') := fun w' h => ⟨j + 1, by omega, by rw [Int.natCast_add]; rfl, h⟩
                    have HMI : Hid (U.length - (RowKit.intOf (.int .i64 ((j : Int) + 1))).toNat < U.length - (RowKit.intOf (.int .i64 (j : Int))).toNat) := by show _ < _; simp [RowKit.intOf]; omega
                    have hla := HLA.out (U.getD j 0) wr HBr.out
                    rw [h2] at hla
                    have HUPS : Hid ((ups n f (U.getD j 0)).length ≤ 1000 ∧ ∀ z ∈ ups n f (U.getD j 0), InR z) := ⟨Nat.le_trans (ups_few _ _ _) HN.out, ups_in HN.out⟩
                    have HPX := Lib.hid (HPA.out (U.getD j 0))
                    generalize U.getD j 0 = x at *
                    clear hb hlt hj hcu hul h1 h2
                    go_wp2_with fail
                    refine hla.mono ?_; clear hla; rintro e w8 ⟨rfl, hb8⟩
                    have HB8 : Hid (Below wT.heap.size wT w8) := HBj.out.trans (hb8.mono HBj.out.size)
                    have HBr8 : Hid (Below w.heap.size w w8) := HBr.out.trans (hb8.mono HBr.out.size)
                    clear hb8 hcu'
                    by_cases hx : x = k
                    · have q2 : (x == k) = true := by simpa using hx
                      have q2' : (x != k) = false := by simpa using hx
                      clear hx h3
                      go_wp2_with fail
                      go_roundw
                      · first | exact HRI.out _ HB8.out | (rw [e3]; exact HRI.out _ HB8.out)
                      · first | exact HMI.out | (rw [e3]; exact HMI.out)
                    · have q2 : (x == k) = false := by simpa using hx
                      have q2' : (x != k) = true := by simpa using hx
                      have hpx := HPX.out w8 HBr8.out
                      have hin := decide_eq_true (h3.resolve_left hx)
                      generalize ups n f x = M at *
                      clear hx h3 HPX
                      go_wp2_with fail
                      refine hpx.mono ?_; clear hpx; rintro e w9 ⟨vm, rfl, hom, hb9⟩
                      have HB9 : Hid (Below wT.heap.size wT w9) := HB8.out.trans (hb9.mono HB8.out.size)
                      obtain ⟨ma, mc, rfl, -, hrm⟩ := hom.reads HUPS.out.2
                      have hh := has_any ma mc M k w9 hrm (by have := HUPS.out.1; omega)
                      rw [hin] at hh
                      clear hom hb9 hrm hin
                      go_wp2_with fail
                      refine hh.mono ?_; clear hh; rintro e wn ⟨rfl, rfl⟩
                      go_wp2_with fail
                      go_roundw
                      · first | exact HRI.out _ HB9.out | (rw [e3]; exact HRI.out _ HB9.out)
                      · first | exact HMI.out | (rw [e3]; exact HMI.out)
                  · obtain rfl : j = U.length := by omega
                    have hd0 : decide ((U.length : Int) < (U.length : Int)) = false := decide_eq_false (by omega)
                    clear hb hlt hj
                    go_wp2_with fail
                    go_roundw
                    · first | exact HRD.out _ HBr.out | (rw [e1]; exact HRD.out _ HBr.out)
                    · first | exact HMK.out | (rw [e1]; exact HMK.out)
          · have HGU : Hid ((gat n f (fam n f k)).length = (unl n f k).length) := by show _ = _; rw [gat_all HOK.out hek hf]
            rw [decide_eq_false hf] at HLK
            have HF0 : Hid (0 < (fam n f k).length) := List.length_pos_iff.2 hf
            have tF : (((fam n f k).length : Int) == 0) = false := by have := HF0.out; rw [beq_eq_false_iff_ne]; omega
            generalize unl n f k = U at *
            generalize fam n f k = F at *
            clear hf hek
            go_wp2_with fail
            refine hu.mono ?_; clear hu; rintro e w2 ⟨vu, rfl, hou, hb2⟩
            have HB2 : Hid (Below w.heap.size w w2) := HB0.out.trans (hb2.mono HB0.out.size)
            obtain ⟨ua, uc, rfl, -, hru⟩ := hou.reads HUI.out
            have hc3 := HCK.out w2 HB2.out
            have HR2 := Lib.hid hru
            clear hou hb2 hru HB0 HCK
            go_wp2_with fail
            refine hc3.mono ?_; clear hc3; rintro e w3 ⟨vf, rfl, hof, hb3⟩
            have HB3 : Hid (Below w.heap.size w w3) := HB2.out.trans (hb3.mono HB2.out.size)
            obtain ⟨fa, fc, rfl, -, hrf⟩ := hof.reads HFN.out
            have HR3 := Lib.hid (And.intro (HR2.out.below hb3) hrf)
            have hl4 := HLK.out w3 HB3.out
            clear hof hb3 hrf HB2 HR2
            go_wp2_with fail
            refine hl4.mono ?_; clear hl4; rintro e w4 ⟨rfl, hb4⟩
            have HB4 : Hid (Below w.heap.size w w4) := HB3.out.trans (hb4.mono HB3.out.size)
            have HR4 := Lib.hid (And.intro (HR3.out.1.below hb4) (HR3.out.2.below hb4))
            clear hb4 HB3 HR3
            have hl5 := HLK.out w4 HB4.out
            go_wp2_with fail
            refine hl5.mono ?_; clear hl5; rintro e wS ⟨rfl, hb5⟩
            have HBS : Hid (Below w.heap.size w wS) := HB4.out.trans (hb5.mono HB4.out.size)
            have HRU := Lib.hid (HR4.out.1.below hb5)
            have HRF := Lib.hid (HR4.out.2.below hb5)
            clear hb5 HB4 HR4 HLK
            go_wp2_with fail
            go_loopw [8, 9] (fun vn vi wr => ∃ j : Nat, j ≤ F.length ∧ vi = .int .i64 (j : Int) ∧ vn = .int .i64 (((gat n f (F.take j)).length : Nat) : Int) ∧ Below wS.heap.size wS wr) (fun _ vi _ => F.length - (RowKit.intOf vi).toNat)
            case atStart => exact ⟨0, Nat.zero_le _, rfl, by rw [List.take_zero, gat_nil]; rfl, Below.refl _ _⟩
            case round =>
              obtain ⟨j, hj, rfl, rfl, hb⟩ := hrel
              have HBj := Lib.hid hb
              have HBw : Hid (Below w.heap.size w wr) := HBS.out.trans (hb.mono HBS.out.size)
              by_cases hlt : j < F.length
              · have hgs := HG.out j hlt
                have hgl := HGL.out (F.take j)
                have hgl2 := HGL.out (F.take (j + 1))
                have hfm := HFI.out (F.getD j 0) (by rw [getD_lt _ _ hlt]; exact List.getElem_mem hlt)
                obtain ⟨bf, of, hfa, hcf⟩ := (HRF.out.below hb).2 j hlt
                have hcf' : wr.cell? ⟨bf, of + j, none⟩ = some (.int .i64 (F.getD j 0)) := hcf
                subst hfa
                have i0 : (0 : Int) ≤ (j : Int) := by omega
                have i1 : (j : Int) < (F.length : Int) := by omega
                have hn := HN.out
                have hfl := HFL.out
                have e3 : wrap64 ((j : Int) + 1) = (j : Int) + 1 := by unfold wrap64; omega
                have hcu := HUA.out (F.getD j 0) wr HBw.out
                have HZL : Hid ((unl n f (F.getD j 0)).length ≤ 1000 ∧ ∀ z ∈ unl n f (F.getD j 0), InR z) := ⟨Nat.le_trans (unl_few _ _ _) hn, unl_in hn _ _⟩
                have E4 : Hid (wrap64 ((((gat n f (F.take j)).length : Nat) : Int) + (((unl n f (F.getD j 0)).length : Nat) : Int)) = (((gat n f (F.take (j + 1))).length : Nat) : Int)) := by show _ = _; unfold wrap64; omega
                have HRJ : Hid (∀ w', Below wS.heap.size wS w' → ∃ j' : Nat, j' ≤ F.length ∧ Value.int .i64 ((j : Int) + 1) = .int .i64 (j' : Int) ∧ Value.int .i64 (((gat n f (F.take (j + 1))).length : Nat) : Int) = .int .i64 (((gat n f (F.take j')).length : Nat) : Int) ∧ Below wS.heap.size wS w') := fun w' h => ⟨j + 1, by omega, by rw [Int.natCast_add]; rfl, rfl, h⟩
                have HMJ : Hid (F.length - (RowKit.intOf (.int .i64 ((j : Int) + 1))).toNat < F.length - (RowKit.intOf (.int .i64 (j : Int))).toNat) := by show _ < _; simp [RowKit.intOf]; omega
                clear hgs hgl hgl2 hcf hn hfl
                generalize (gat n f (F.take (j + 1))).length = g2 at *
                generalize (gat n f (F.take j)).length = g1 at *
                generalize F.getD j 0 = x at *
                have HZS : Hid (∀ z ∈ unl n f x, z ∈ U) := hfm
                generalize unl n f x = Z at *
                clear hb hlt hj hfm
                go_wp2_with fail
                refine hcu.mono ?_; clear hcu; rintro e w7 ⟨vz, rfl, hoz, hb7⟩
                have HB7 : Hid (Below wS.heap.size wS w7) := HBj.out.trans (hb7.mono HBj.out.size)
                obtain ⟨za, zc, rfl, -, hrz⟩ := hoz.reads HZL.out.2
                have HRZ := Lib.hid hrz
                have HUZ := Lib.hid (HRU.out.below HB7.out)
                clear hoz hb7 hrz hcf'
                go_wp2_with fail
                go_loopw [11] (fun vi wr => ∃ i : Nat, i ≤ Z.length ∧ vi = .int .i64 (i : Int) ∧ Below w7.heap.size w7 wr) (fun vi _ => Z.length - (RowKit.intOf vi).toNat)
                case atStart => exact ⟨0, Nat.zero_le _, rfl, Below.refl _ _⟩
                case round =>
                  obtain ⟨i, hi, rfl, hb⟩ := hrel
                  have HBi := Lib.hid hb
                  by_cases hlt : i < Z.length
                  · obtain ⟨bz, oz, hza, hcz⟩ := (HRZ.out.below hb).2 i hlt
                    have hcz' : wr.cell? ⟨bz, oz + i, none⟩ = some (.int .i64 (Z.getD i 0)) := hcz
                    subst hza
                    have hzm := HZS.out (Z.getD i 0) (by rw [getD_lt _ _ hlt]; exact List.getElem_mem hlt)
                    have hh := has_any ua uc U (Z.getD i 0) wr (HUZ.out.below hb) (by have := HUL.out; omega)
                    rw [decide_eq_true hzm] at hh
                    have k0 : (0 : Int) ≤ (i : Int) := by omega
                    have k1 : (i : Int) < (Z.length : Int) := by omega
                    have hzl := HZL.out.1
                    have e5 : wrap64 ((i : Int) + 1) = (i : Int) + 1 := by unfold wrap64; omega
                    have HRI : Hid (∀ w', Below w7.heap.size w7 w' → ∃ i' : Nat, i' ≤ Z.length ∧ Value.int .i64 ((i : Int) + 1) = .int .i64 (i' : Int) ∧ Below w7.heap.size w7 w') := fun w' h => ⟨i + 1, by omega, by rw [Int.natCast_add]; rfl, h⟩
                    have HMI : Hid (Z.length - (RowKit.intOf (.int .i64 ((i : Int) + 1))).toNat < Z.length - (RowKit.intOf (.int .i64 (i : Int))).toNat) := by show _ < _; simp [RowKit.intOf]; omega
                    generalize Z.getD i 0 = z at *
                    clear hb hlt hi hzm hcz hzl
                    go_wp2_with fail
                    refine hh.mono ?_; clear hh; rintro e wn ⟨rfl, rfl⟩
                    go_wp2_with fail
                    go_roundw
                    · first | exact HRI.out _ HBi.out | (rw [e5]; exact HRI.out _ HBi.out)
                    · first | exact HMI.out | (rw [e5]; exact HMI.out)
                  · obtain rfl : i = Z.length := by omega
                    have hd0 : decide ((Z.length : Int) < (Z.length : Int)) = false := decide_eq_false (by omega)
                    have HBe : Hid (Below wS.heap.size wS wr) := HB7.out.trans (hb.mono HB7.out.size)
                    clear hb hlt hi
                    go_wp2_with fail
                    go_roundw
                    · rw [E4.out]; first | exact HRJ.out _ HBe.out | (rw [e3]; exact HRJ.out _ HBe.out)
                    · first | exact HMJ.out | (rw [e3]; exact HMJ.out)
              · obtain rfl : j = F.length := by omega
                have hd0 : decide ((F.length : Int) < (F.length : Int)) = false := decide_eq_false (by omega)
                have d5 : decide ((0 : Int) < (F.length : Int)) = true := decide_eq_true (by have := HF0.out; omega)
                have d5n : decide (0 < F.length) = true := decide_eq_true (by have := HF0.out; omega)
                have hgu := HGU.out
                have q5 : ((((gat n f (F.take F.length)).length : Nat) : Int) == (U.length : Int)) = true := by rw [List.take_of_length_le (Nat.le_refl _), beq_iff_eq]; omega
                have q5' : ((((gat n f (F.take F.length)).length : Nat) : Int) != (U.length : Int)) = false := by simpa using q5
                clear hgu
                generalize (gat n f (F.take F.length)).length = g1 at *
                have HUB := Lib.hid (HRU.out.below hb)
                clear hb hlt hj HBj
                generalize wr = wT at *
                go_wp2_with fail
                go_loopw [12] (fun vi wr => ∃ j : Nat, j ≤ U.length ∧ vi = .int .i64 (j : Int) ∧ Below wT.heap.size wT wr) (fun vi _ => U.length - (RowKit.intOf vi).toNat)
                case atStart => exact ⟨0, Nat.zero_le _, rfl, Below.refl _ _⟩
                case round =>
                  obtain ⟨j, hj, rfl, hb⟩ := hrel
                  have HBj := Lib.hid hb
                  have HBr : Hid (Below w.heap.size w wr) := HBw.out.trans (hb.mono HBw.out.size)
                  by_cases hlt : j < U.length
                  · obtain ⟨h1, h2, h3⟩ := HUF.out (U.getD j 0) (by rw [getD_lt _ _ hlt]; exact List.getElem_mem hlt)
                    obtain ⟨bu, ou, hua, hcu⟩ := (HUB.out.below hb).2 j hlt
                    have hcu' : wr.cell? ⟨bu, ou + j, none⟩ = some (.int .i64 (U.getD j 0)) := hcu
                    subst hua
                    have i0 : (0 : Int) ≤ (j : Int) := by omega
                    have i1 : (j : Int) < (U.length : Int) := by omega
                    have hul := HUL.out
                    have e3 : wrap64 ((j : Int) + 1) = (j : Int) + 1 := by unfold wrap64; omega
                    have HRI : Hid (∀ w', Below wT.heap.size wT w' → ∃ i' : Nat, i' ≤ U.length ∧ Value.int .i64 ((j : Int) + 1) = .int .i64 (i' : Int) ∧ Below wT.heap.size wT w') := fun w' h => ⟨j + 1, by omega, by rw [Int.natCast_add]; rfl, h⟩
                    have HMI : Hid (U.length - (RowKit.intOf (.int .i64 ((j : Int) + 1))).toNat < U.length - (RowKit.intOf (.int .i64 (j : Int))).toNat) := by show _ < _; simp [RowKit.intOf]; omega
                    have hla := HLA.out (U.getD j 0) wr HBr.out
                    rw [h2] at hla
                    have HUPS : Hid ((ups n f (U.getD j 0)).length ≤ 1000 ∧ ∀ z ∈ ups n f (U.getD j 0), InR z) := ⟨Nat.le_trans (ups_few _ _ _) HN.out, ups_in HN.out⟩
                    have HPX := Lib.hid (HPA.out (U.getD j 0))
                    generalize U.getD j 0 = x at *
                    clear hb hlt hj hcu hul h1 h2
                    go_wp2_with fail
                    refine hla.mono ?_; clear hla; rintro e w8 ⟨rfl, hb8⟩
                    have HB8 : Hid (Below wT.heap.size wT w8) := HBj.out.trans (hb8.mono HBj.out.size)
                    have HBr8 : Hid (Below w.heap.size w w8) := HBr.out.trans (hb8.mono HBr.out.size)
                    clear hb8 hcu'
                    by_cases hx : x = k
                    · have q2 : (x == k) = true := by simpa using hx
                      have q2' : (x != k) = false := by simpa using hx
                      clear hx h3
                      go_wp2_with fail
                      go_roundw
                      · first | exact HRI.out _ HB8.out | (rw [e3]; exact HRI.out _ HB8.out)
                      · first | exact HMI.out | (rw [e3]; exact HMI.out)
                    · have q2 : (x == k) = false := by simpa using hx
                      have q2' : (x != k) = true := by simpa using hx
                      have hpx := HPX.out w8 HBr8.out
                      have hin := decide_eq_true (h3.resolve_left hx)
                      generalize ups n f x = M at *
                      clear hx h3 HPX
                      go_wp2_with fail
                      refine hpx.mono ?_; clear hpx; rintro e w9 ⟨vm, rfl, hom, hb9⟩
                      have HB9 : Hid (Below wT.heap.size wT w9) := HB8.out.trans (hb9.mono HB8.out.size)
                      obtain ⟨ma, mc, rfl, -, hrm⟩ := hom.reads HUPS.out.2
                      have hh := has_any ma mc M k w9 hrm (by have := HUPS.out.1; omega)
                      rw [hin] at hh
                      clear hom hb9 hrm hin
                      go_wp2_with fail
                      refine hh.mono ?_; clear hh; rintro e wn ⟨rfl, rfl⟩
                      go_wp2_with fail
                      go_roundw
                      · first | exact HRI.out _ HB9.out | (rw [e3]; exact HRI.out _ HB9.out)
                      · first | exact HMI.out | (rw [e3]; exact HMI.out)
                  · obtain rfl : j = U.length := by omega
                    have hd0 : decide ((U.length : Int) < (U.length : Int)) = false := decide_eq_false (by omega)
                    clear hb hlt hj
                    go_wp2_with fail
                    go_roundw
                    · first | exact HRD.out _ HBr.out | (rw [e1]; exact HRD.out _ HBr.out)
                    · first | exact HMK.out | (rw [e1]; exact HMK.out)
        · have t0 : decide (k ≤ (n : Int)) = false := decide_eq_false hlt
          clear hb hlt hk0 hk1
          go_wp2_with fail
          refine (awake20 _).mono ?_; rintro e w99 ⟨rfl, hb99⟩
          go_wp2_with fail
          go_ret
          exact ⟨rfl, HB0.out.trans (hb99.mono HB0.out.size)⟩
    · have t0 : (ckE L == 0) = false := by rw [beq_eq_false_iff_ne]; exact he
      have t0' : (ckE L != 0) = true := by simpa using he
      generalize ckE L = x0 at *
      generalize ckV L = cv at *
      clear he
      go_enter Try.func5, Try.ntmps5
      go_wp2_with fail
      refine hck.mono ?_; clear hck; rintro e w1 ⟨rfl, hb1⟩
      have HB1 := Lib.hid hb1
      clear hb1 HK0
      go_wp2_with fail
      refine (awake20 _).mono ?_; rintro e w99 ⟨rfl, hb99⟩
      go_wp2_with fail
      go_ret
      exact ⟨rfl, HB1.out.trans (hb99.mono HB1.out.size)⟩
end Go.Proofs.Yteendpdidkekkaa
