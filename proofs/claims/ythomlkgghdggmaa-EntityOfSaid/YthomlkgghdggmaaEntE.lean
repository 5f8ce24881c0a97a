/-
  The landed Add and Of of layer 17. No conditions besides rows of at most 1000000.
-/
import Derived.Test.YthomlkgghdggmaaEntC
import Derived.Test.YthomlkgghdggmaaEntD
namespace Go.Proofs.Ythomlkgghdggmaa
open Go.RowKit
set_option linter.unusedSimpArgs false
set_option linter.unusedVariables false

set_option maxHeartbeats 4000000 in
set_option maxRecDepth 100000 in
theorem add_e (a : Option Addr) (c : Nat) (L : List Int) (z : Int) (hn : L.length ≤ 1000000) (w : World) (hL : Reads w a L) (ca : a = none → c = 0) (hz : InR z) :
    Calls Try.prog 11 #[.slice a L.length c, .int .i64 z] w fun e w' => ∃ v, e = .returned (.tuple #[v, .int .i64 (addE L z)]) ∧ Own w' w.heap.size v (addL L z) ∧ Below w.heap.size w w' := by
  have hb := below1 w (.cells #[.int .i64 8] 3)
  have hy := beyond1 (w := w.alloc (.cells #[.int .i64 8] 3)) (mb := w.heap.size) (most := 8) (by simp) z
  have HB := Lib.hid hb
  by_cases h : Mon z
  · rw [decide_eq_true (show 1 ≤ z ∧ z ≤ 8 from h)] at hy
    by_cases hl : L.length < 40
    · have HV : Hid (addE L z = 0 ∧ addL L z = L ++ [z]) := ⟨by unfold addE; rw [if_pos h, if_pos hl], by unfold addL; rw [if_pos ⟨h, hl⟩]⟩
      have d1 : decide ((40 : Int) ≤ (L.length : Int)) = false := decide_eq_false (by omega)
      have d2 : decide (40 ≤ L.length) = false := decide_eq_false (by omega)
      obtain ⟨W, hW⟩ : ∃ W, W = ((w.alloc (.cells #[.int .i64 8] 3)).alloc (.cells #[.int .i64 z] 3)).alloc (.cells #[.slice a L.length c, .slice (some ⟨w.heap.size + 1, 0, none⟩) 1 1] 22) := ⟨_, rfl⟩
      have hbW : Below w.heap.size w W := by rw [hW]; exact below3 _ _ _ _
      have hc := concat_v (w.heap.size + 2) (w.heap.size + 1) a c L z (by omega) W (hL.below hbW) ca hz (by rw [hW]; simp [go_sem]) (by rw [hW]; simp [go_sem]) (by rw [hW]; simp [go_sem])
      rw [hW] at hc
      have HW := Lib.hid hbW; have HWE := Lib.hid hW
      clear hL hbW hW hb h ca
      go_enter Try.func11, Try.ntmps11
      go_wp2_with fail
      refine (beyond_c _ _).mono ?_; rintro e w1 ⟨rfl, rfl⟩
      go_wp2_with fail
      refine hy.mono ?_; rintro e w1 ⟨rfl, rfl⟩
      go_wp2_with fail
      refine hc.mono ?_; rintro e w1 ⟨v, rfl, ho, hb⟩
      rw [← HWE.out] at ho hb
      have HO := Lib.hid (And.intro ho hb); clear ho hb
      go_wp2_with fail
      go_ret2
      rw [HV.out.1, HV.out.2]
      exact ⟨v, rfl, HO.out.1.lower HW.out.size, HW.out.trans (HO.out.2.mono HW.out.size)⟩
    · have HV : Hid (addE L z = 3 ∧ addL L z = []) := ⟨by unfold addE; rw [if_pos h, if_neg hl], by unfold addL; rw [if_neg (fun q => hl q.2)]⟩
      have d1 : decide ((40 : Int) ≤ (L.length : Int)) = true := decide_eq_true (by omega)
      have d2 : decide (40 ≤ L.length) = true := decide_eq_true (by omega)
      clear hL hb h ca
      go_enter Try.func11, Try.ntmps11
      go_wp2_with fail
      refine (beyond_c _ _).mono ?_; rintro e w1 ⟨rfl, rfl⟩
      go_wp2_with fail
      refine hy.mono ?_; rintro e w1 ⟨rfl, rfl⟩
      go_wp2_with fail
      go_ret2
      rw [HV.out.1, HV.out.2]
      exact ⟨_, rfl, Own.nil _ _, HB.out⟩
  · rw [decide_eq_false (show ¬ (1 ≤ z ∧ z ≤ 8) from h)] at hy
    have HV : Hid (addE L z = 23 ∧ addL L z = []) := ⟨by unfold addE; rw [if_neg h], by unfold addL; rw [if_neg (fun q => h q.1)]⟩
    clear hL hb h ca
    go_enter Try.func11, Try.ntmps11
    go_wp2_with fail
    refine (beyond_c _ _).mono ?_; rintro e w1 ⟨rfl, rfl⟩
    go_wp2_with fail
    refine hy.mono ?_; rintro e w1 ⟨rfl, rfl⟩
    go_wp2_with fail
    go_ret2
    rw [HV.out.1, HV.out.2]
    exact ⟨_, rfl, Own.nil _ _, HB.out⟩

set_option maxHeartbeats 4000000 in
set_option maxRecDepth 100000 in
theorem of_e (a : Option Addr) (c : Nat) (L : List Int) (a' : Option Addr) (c' : Nat) (M : List Int) (hn : L.length ≤ 1000000) (hm : M.length ≤ 1000000) (w : World) (hL : Reads w a L) (hM : Reads w a' M) :
    Calls Try.prog 14 #[.slice a L.length c, .slice a' M.length c'] w fun e w' => ∃ v, e = .returned v ∧ Own w' w.heap.size v (ofL L M) ∧ Below w.heap.size w w' := by
  have hb := below1 w (.cells #[.slice a' M.length c'] 22)
  have hs := sorted_v w.heap.size a' c' M hm _ (by simp) (hM.below hb)
  have HM := Lib.hid hM.1
  have HB := Lib.hid hb
  have HL := Lib.hid (hL.below hb)
  clear hL hM hb
  obtain ⟨S, hS⟩ : ∃ S, S = M.mergeSort (fun x y => decide (x ≤ y)) := ⟨_, rfl⟩
  have hSp : S.Perm M := by rw [hS]; exact perm_sort M
  have HSP : Hid (∀ z, z ∈ S ↔ z ∈ M) := fun z => hSp.mem_iff
  have HSL : Hid (S.length ≤ 1000000) := by show _ ≤ _; rw [hSp.length_eq]; exact hm
  have HSS : Hid (S.Pairwise (· ≤ ·)) := by show List.Pairwise _ _; rw [hS]; exact sorted_sort M
  rw [← hS] at hs
  clear hS hSp
  obtain ⟨w0, hw0⟩ : ∃ w0, w0 = w := ⟨_, rfl⟩
  suffices h : Calls Try.prog 14 #[.slice a L.length c, .slice a' M.length c'] w fun e w' => ∃ v, e = .returned v ∧ Own w' w0.heap.size v (ofL L M) ∧ Below w0.heap.size w0 w' by rw [hw0] at h; exact h
  have HW0 := Lib.hid hw0; clear hw0
  obtain ⟨o0, ho0⟩ : ∃ o0, o0 = ofL L M := ⟨_, rfl⟩
  rw [← ho0]
  have HO0 := Lib.hid ho0; clear ho0
  go_enter Try.func14, Try.ntmps14
  go_wp2_with fail
  refine (values_c _ _ _ _).mono ?_; rintro e w1 ⟨rfl, rfl⟩
  go_wp2_with fail
  refine hs.mono ?_; rintro e w2 ⟨v2, rfl, ho2, hb2⟩
  obtain ⟨a2, c2, rfl, _, hR2⟩ := ho2.reads (fun z hz => HM.out z ((HSP.out z).1 hz))
  have HR2 := Lib.hid hR2
  have HL2 := Lib.hid (HL.out.below hb2)
  have HB2 : Hid (Below w0.heap.size w0 w2) := by show Below _ _ _; rw [HW0.out]; exact HB.out.trans (hb2.mono HB.out.size)
  clear ho2 hb2 hR2 HL HB hs
  go_wp2_with fail
  go_loopw [6, 16] (fun u i wr => ∃ k : Nat, k ≤ L.length ∧ i = .int .i64 (k : Int) ∧ Own wr w2.heap.size u (ofK L M k) ∧ Below w2.heap.size w2 wr) (fun _ i _ => L.length - (RowKit.intOf i).toNat)
  case atStart => exact ⟨0, Nat.zero_le _, rfl, Own.nil _ _, Below.refl _ _⟩
  case round =>
    obtain ⟨k, hk, rfl, ho, hb⟩ := hrel
    by_cases hlt : k < L.length
    · obtain ⟨b, off, rfl, hc⟩ := (HL2.out.below hb).2 k hlt
      have i0 : (0 : Int) ≤ (k : Int) := by omega
      have i1 : (k : Int) < (L.length : Int) := by omega
      have e1 : wrap64 ((k : Int) + 1) = (k : Int) + 1 := by unfold wrap64; omega
      have hsr := search_v a2 c2 S (L.getD k 0) HSL.out wr (HR2.out.below hb) HSS.out
      have HLN : Hid ((ofK L M k).length ≤ k) := ofK_len L M k
      have HIN : Hid (∀ z ∈ ofK L M k, InR z) := ofK_in (by omega)
      have HO := Lib.hid ho
      have HBR := Lib.hid hb
      clear ho hb
      by_cases hm : L.getD k 0 ∈ M
      · have HK : Hid (ofK L M (k + 1) = ofK L M k ++ [(k : Int) + 1]) := ofK_yes hm
        rw [decide_eq_true ((HSP.out _).2 hm)] at hsr
        clear hm
        generalize L.getD k 0 = z at *
        go_wp2_with fail
        refine hsr.mono ?_; rintro e w4 ⟨i, rfl, hb4⟩
        have hO4 := HO.out.below hb4
        have HB4 := Lib.hid (HBR.out.trans (hb4.mono HBR.out.size))
        have hsz := HB4.out.size
        obtain ⟨a4, c4, rfl⟩ := (hO4.sl HIN.out).form
        clear hb4 hsr
        go_wp2_with (at_builtin; refine wp_push w4 rfl (.tmp 28) (.tmp 31) rfl w2.heap.size _ _ ((k : Int) + 1) rfl hO4 rfl (by have := HLN.out; omega) hsz ?_; intro v5 w5 ho5 hb5)
        go_roundw
        · exact ⟨k + 1, by omega, by go_num, by rw [HK.out]; exact ho5, HB4.out.trans hb5⟩
        · simp [RowKit.intOf]; omega
      · have HK : Hid (ofK L M (k + 1) = ofK L M k) := ofK_no hm
        rw [decide_eq_false (fun q => hm ((HSP.out _).1 q))] at hsr
        clear hm
        generalize L.getD k 0 = z at *
        go_wp2_with fail
        refine hsr.mono ?_; rintro e w4 ⟨i, rfl, hb4⟩
        have HO4 := Lib.hid (HO.out.below hb4)
        have HB4 := Lib.hid (HBR.out.trans (hb4.mono HBR.out.size))
        clear hb4 hsr
        go_wp2_with fail
        go_roundw
        · exact ⟨k + 1, by omega, by go_num, by rw [HK.out]; exact HO4.out, HB4.out⟩
        · simp [RowKit.intOf]; omega
    · obtain rfl : k = L.length := by omega
      have hd0 : decide ((L.length : Int) < (L.length : Int)) = false := decide_eq_false (by omega)
      have HO := Lib.hid ho; have HBR := Lib.hid hb
      clear ho hb
      go_wp2_with fail
      go_ret
      refine ⟨_, rfl, ?_, HB2.out.trans (HBR.out.mono HB2.out.size)⟩
      rw [HO0.out]
      exact HO.out.lower HB2.out.size
end Go.Proofs.Ythomlkgghdggmaa
