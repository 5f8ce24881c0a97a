/-
  AccountTells of layer 20 returns true, whatever accounts and number it is given. No conditions.
-/
import Derived.Test.YteendpdidkekkaaAccW
import Derived.Test.YteendpdidkekkaaRowH
import Derived.Deep.QuietTactic
import Derived.BigQuiet
import Derived.WalkSmall
import Derived.Deep.DeepCutAuto
import Derived.Deep.RegionHeld3
namespace Go.Proofs.Yteendpdidkekkaa
open Go.RowKit
set_option linter.unusedSimpArgs false
set_option linter.unusedVariables false

theorem rdA_in {w : World} {a : Option Addr} {c : Nat} {L : List AcT} (h : Go.RowsIn.QuadB w a c L) : RdA w a L ∧ L.length ≤ c ∧ (a = none → c = 0) := by
  refine ⟨⟨fun s hs => ?_, fun i hi => ?_⟩, h.1, h.2.1⟩
  · obtain ⟨j, hj, rfl⟩ := List.getElem_of_mem hs
    obtain ⟨b, off, _, _, _, _, _, r1, r2⟩ := h.2.2 j hj
    rw [show L.getD j (0, 0, false, false) = L[j] from getA hj] at r1 r2
    exact ⟨r1, r2⟩
  · obtain ⟨b, off, k1, k2, k3, k4, k5, _⟩ := h.2.2 i hi
    exact ⟨b, off, k1, k2, k3, k4, k5⟩
theorem chs_in {n : Nat} (hn : n ≤ 1000) (f : Int → Int) (a : Int) : ∀ z ∈ chs n f a, InR z := fun z hz => by
  unfold chs at hz
  split at hz
  · exact flt_in hn _ z hz
  · cases hz
theorem unl_in {n : Nat} (hn : n ≤ 1000) (f : Int → Int) (a : Int) : ∀ z ∈ unl n f a, InR z := fun z hz => by
  unfold unl at hz
  split at hz
  · exact flt_in hn _ z hz
  · cases hz
theorem lvs_in {n : Nat} (hn : n ≤ 1000) (f : Int → Int) : ∀ z ∈ lvs n f, InR z := flt_in hn _
theorem chs_few (n : Nat) (f : Int → Int) (a : Int) : (chs n f a).length ≤ n := by unfold chs; split; exact flt_len _ _; exact Nat.zero_le _
theorem unl_few (n : Nat) (f : Int → Int) (a : Int) : (unl n f a).length ≤ n := by unfold unl; split; exact flt_len _ _; exact Nat.zero_le _
theorem lvs_few (n : Nat) (f : Int → Int) : (lvs n f).length ≤ n := flt_len _ _
set_option maxHeartbeats 16000000 in
set_option maxRecDepth 100000 in
theorem tells20 (a : Option Addr) (c : Nat) (L : List AcT) (y : Int) (w : World) (hr : Go.RowsIn.QuadB w a c L) :
    Calls Try.prog 3 #[.slice a L.length c, .int .i64 y] w fun e w' => e = .returned (.bool true) ∧ Below w.heap.size w w' := by
  have HL := Lib.hid (rdA_in hr)
  have HK0 := Lib.hid (Below.refl w.heap.size w)
  clear hr
  by_cases g1 : 70 < L.length
  · have d1 : decide ((70 : Int) < (L.length : Int)) = true := decide_eq_true (by omega)
    have d2 : decide (70 < L.length) = true := decide_eq_true g1
    clear g1
    go_enter Try.func3, Try.ntmps3
    go_wp2_with fail
    refine (awake20 _).mono ?_; rintro e w99 ⟨rfl, hb99⟩
    go_wp2_with fail
    go_ret
    exact ⟨rfl, HK0.out.trans (hb99.mono HK0.out.size)⟩
  · have d1 : decide ((70 : Int) < (L.length : Int)) = false := decide_eq_false (by omega)
    have d2 : decide (70 < L.length) = false := decide_eq_false g1
    have HN : Hid (L.length ≤ 1000) := by show _ ≤ _; omega
    clear g1
    go_enter Try.func3, Try.ntmps3
    go_wp2_with fail
    refine (check_a a c L _ (HL.out.1.below HK0.out) HL.out.2.1 HN.out).mono ?_; rintro e w1 ⟨rfl, hb1⟩
    have HK1 : Hid (Below w.heap.size w w1) := HK0.out.trans (hb1.mono HK0.out.size)
    clear hb1
    go_wp2_with fail
    refine (r20check a c L _ (HL.out.1.below HK1.out) HN.out).mono ?_; rintro e w2 ⟨rfl, hb2⟩
    have HK2 : Hid (Below w.heap.size w w2) := HK1.out.trans (hb2.mono HK1.out.size)
    clear hb2
    go_wp2_with fail
    refine (children_a a c L y _ (HL.out.1.below HK2.out) HN.out).mono ?_; rintro e w3 ⟨u3, rfl, ho3, hb3⟩
    have HK3 : Hid (Below w.heap.size w w3) := HK2.out.trans (hb3.mono HK2.out.size)
    obtain ⟨ra3, rc3, rfl, -, hr3⟩ := ho3.reads (chs_in HN.out _ _)
    have HR3 := Lib.hid hr3
    clear ho3 hr3
    clear hb3
    go_wp2_with fail
    refine (r20children a c L y _ (HL.out.1.below HK3.out) HN.out).mono ?_; rintro e w4 ⟨u4, rfl, ho4, hb4⟩
    have HK4 : Hid (Below w.heap.size w w4) := HK3.out.trans (hb4.mono HK3.out.size)
    obtain ⟨ra4, rc4, rfl, -, hr4⟩ := ho4.reads (chs_in HN.out _ _)
    have HR4 := Lib.hid (And.intro (HR3.out.below hb4) hr4)
    clear ho4 hr4 HR3
    clear hb4
    go_wp2_with fail
    refine (same20 ra3 ra4 rc3 rc4 _ _ _ _ _ HR4.out.1 HR4.out.2 rfl rfl rfl (by have := chs_few L.length (pa L) y; have := HN.out; omega)).mono ?_; rintro e w5 ⟨rfl, hb5⟩
    have HK5 : Hid (Below w.heap.size w w5) := HK4.out.trans (hb5.mono HK4.out.size)
    clear HR4
    clear hb5
    go_wp2_with fail
    refine (leaf_a a c L y _ (HL.out.1.below HK5.out) HN.out).mono ?_; rintro e w6 ⟨rfl, hb6⟩
    have HK6 : Hid (Below w.heap.size w w6) := HK5.out.trans (hb6.mono HK5.out.size)
    clear hb6
    go_wp2_with fail
    refine (r20leaf a c L y _ (HL.out.1.below HK6.out) HN.out).mono ?_; rintro e w7 ⟨rfl, hb7⟩
    have HK7 : Hid (Below w.heap.size w w7) := HK6.out.trans (hb7.mono HK6.out.size)
    clear hb7
    go_wp2_with fail
    refine (leaves_a a c L _ (HL.out.1.below HK7.out) HN.out).mono ?_; rintro e w8 ⟨u8, rfl, ho8, hb8⟩
    have HK8 : Hid (Below w.heap.size w w8) := HK7.out.trans (hb8.mono HK7.out.size)
    obtain ⟨ra8, rc8, rfl, -, hr8⟩ := ho8.reads (lvs_in HN.out _)
    have HR8 := Lib.hid hr8
    clear ho8 hr8
    clear hb8
    go_wp2_with fail
    refine (r20leaves a c L _ (HL.out.1.below HK8.out) HN.out).mono ?_; rintro e w9 ⟨u9, rfl, ho9, hb9⟩
    have HK9 : Hid (Below w.heap.size w w9) := HK8.out.trans (hb9.mono HK8.out.size)
    obtain ⟨ra9, rc9, rfl, -, hr9⟩ := ho9.reads (lvs_in HN.out _)
    have HR9 := Lib.hid (And.intro (HR8.out.below hb9) hr9)
    clear ho9 hr9 HR8
    clear hb9
    go_wp2_with fail
    refine (same20 ra8 ra9 rc8 rc9 _ _ _ _ _ HR9.out.1 HR9.out.2 rfl rfl rfl (by have := lvs_few L.length (pa L); have := HN.out; omega)).mono ?_; rintro e w10 ⟨rfl, hb10⟩
    have HK10 : Hid (Below w.heap.size w w10) := HK9.out.trans (hb10.mono HK9.out.size)
    clear HR9
    clear hb10
    go_wp2_with fail
    refine (up_a a c L y _ (HL.out.1.below HK10.out) HN.out).mono ?_; rintro e w11 ⟨u11, rfl, ho11, hb11⟩
    have HK11 : Hid (Below w.heap.size w w11) := HK10.out.trans (hb11.mono HK10.out.size)
    obtain ⟨ra11, rc11, rfl, -, hr11⟩ := ho11.reads (ups_in HN.out)
    have HR11 := Lib.hid hr11
    clear ho11 hr11
    clear hb11
    go_wp2_with fail
    refine (r20up a c L y _ (HL.out.1.below HK11.out) HN.out).mono ?_; rintro e w12 ⟨u12, rfl, ho12, hb12⟩
    have HK12 : Hid (Below w.heap.size w w12) := HK11.out.trans (hb12.mono HK11.out.size)
    obtain ⟨ra12, rc12, rfl, -, hr12⟩ := ho12.reads (ups_in HN.out)
    have HR12 := Lib.hid (And.intro (HR11.out.below hb12) hr12)
    clear ho12 hr12 HR11
    clear hb12
    go_wp2_with fail
    refine (same20 ra11 ra12 rc11 rc12 _ _ _ _ _ HR12.out.1 HR12.out.2 rfl rfl rfl (by have := ups_few L.length (pa L) y; have := HN.out; omega)).mono ?_; rintro e w13 ⟨rfl, hb13⟩
    have HK13 : Hid (Below w.heap.size w w13) := HK12.out.trans (hb13.mono HK12.out.size)
    clear HR12
    clear hb13
    go_wp2_with fail
    refine (under_a a c L y _ (HL.out.1.below HK13.out) HN.out).mono ?_; rintro e w14 ⟨u14, rfl, ho14, hb14⟩
    have HK14 : Hid (Below w.heap.size w w14) := HK13.out.trans (hb14.mono HK13.out.size)
    obtain ⟨ra14, rc14, rfl, -, hr14⟩ := ho14.reads (unl_in HN.out _ _)
    have HR14 := Lib.hid hr14
    clear ho14 hr14
    clear hb14
    go_wp2_with fail
    refine (r20under a c L y _ (HL.out.1.below HK14.out) HN.out).mono ?_; rintro e w15 ⟨u15, rfl, ho15, hb15⟩
    have HK15 : Hid (Below w.heap.size w w15) := HK14.out.trans (hb15.mono HK14.out.size)
    obtain ⟨ra15, rc15, rfl, -, hr15⟩ := ho15.reads (unl_in HN.out _ _)
    have HR15 := Lib.hid (And.intro (HR14.out.below hb15) hr15)
    clear ho15 hr15 HR14
    clear hb15
    go_wp2_with fail
    refine (same20 ra14 ra15 rc14 rc15 _ _ _ _ _ HR15.out.1 HR15.out.2 rfl rfl rfl (by have := unl_few L.length (pa L) y; have := HN.out; omega)).mono ?_; rintro e w16 ⟨rfl, hb16⟩
    have HK16 : Hid (Below w.heap.size w w16) := HK15.out.trans (hb16.mono HK15.out.size)
    clear HR15
    clear hb16
    go_wp2_with fail
    refine (awake20 _).mono ?_; rintro e w99 ⟨rfl, hb99⟩
    go_wp2_with fail
    go_ret
    exact ⟨rfl, HK16.out.trans (hb99.mono HK16.out.size)⟩
end Go.Proofs.Yteendpdidkekkaa
