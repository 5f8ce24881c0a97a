/-
  InternCuts of layer 8 answers true over a table's contracts, for whatever texts and number. The conditions: the contracts.
-/
import Derived.Test.YteeonglebimnlaaIntA
import Derived.Deep.DeepCutAuto
import Derived.Deep.RegionHeld3
namespace Go.Proofs.Yteeonglebimnlaa
open Go.RowKit
set_option linter.unusedSimpArgs false
set_option linter.unusedVariables false

/-- The contracts of a table of texts. -/
abbrev TabS := TabCon Try.prog ByteArray (fun s => .string s) (fun s => s.size ≤ maxLen) ⟨#[]⟩ 17 18 0 0 20 19 False False True
/-- A slice of texts reads so. -/
def ReadsT (w : World) (a : Option Addr) (l : List ByteArray) : Prop := ∀ i, i < l.length → ∃ b off, a = some ⟨b, off, none⟩ ∧ w.cell? ⟨b, off + i, none⟩ = some (.string (l.getD i ⟨#[]⟩)) ∧ (l.getD i ⟨#[]⟩).size ≤ maxLen

theorem gid_len {κ : Type} [DecidableEq κ] (K : List κ) (m : Int) (k : κ) : (gidK K m k).length ≤ K.length + 1 := by
  unfold gidK; split
  · omega
  · split
    · omega
    · simp
theorem cut_step {κ : Type} [DecidableEq κ] {KA KB : List κ} (s : κ) (n : Int) (h : KB = gcut KA n) (hl : KA.length < 300) :
    (gidN KA 300 s < n → gidK KB 300 s = gcut (gidK KA 300 s) n) ∧ (¬ gidN KA 300 s < n → KB = gcut (gidK KA 300 s) n) := by
  subst h
  unfold gidN gidK gcut
  by_cases hs : s ∈ KA
  · rw [if_pos hs, if_pos hs]
    refine ⟨fun q => ?_, fun _ => rfl⟩
    have hi : KA.idxOf s < KA.length := List.idxOf_lt_length_of_mem hs
    have : s ∈ KA.take n.toNat := by
      rw [List.mem_take_iff_getElem]
      refine ⟨KA.idxOf s, by omega, ?_⟩
      exact List.getElem_idxOf hi
    rw [if_pos this]
  · have h3 : ¬ (300 : Int) ≤ (KA.length : Int) := by omega
    rw [if_neg hs, if_neg hs, if_neg h3, if_neg h3]
    constructor
    · intro q
      have e : KA.take n.toNat = KA := List.take_of_length_le (by omega)
      rw [e, if_neg hs, if_neg h3, List.take_of_length_le (by simp; omega)]
    · intro q
      rw [List.take_append_of_le_length (by omega)]

/-- What holds at the first loop's head. -/
structure CuRel (T : TabS) (w : World) (A B : Nat) (n : Int) (z : Nat) (i : Value) (wr : World) : Prop where
  out : ∃ (k : Nat) (KA KB : List ByteArray) (FA FB : Nat → Prop), k ≤ z ∧ i = .int .i64 (k : Int) ∧ T.Rep wr A 300 KA FA ∧ T.Rep wr B 300 KB FB ∧ (∀ j, FA j → ¬ FB j) ∧ Below w.heap.size w wr ∧ (∀ j, FA j → w.heap.size ≤ j) ∧ (∀ j, FB j → w.heap.size ≤ j) ∧ KB = gcut KA n ∧ KA.length ≤ k
/-- .. at the second one's. -/
structure CuRel2 (T : TabS) (w : World) (A B : Nat) (z : Nat) (i : Value) (wr : World) : Prop where
  out : ∃ (k : Nat) (K : List ByteArray) (FA FB : Nat → Prop), k ≤ z ∧ i = .int .i64 (k : Int) ∧ T.Rep wr A 300 K FA ∧ T.Rep wr B 300 K FB ∧ (∀ j, FA j → ¬ FB j) ∧ Below w.heap.size w wr ∧ (∀ j, FA j → w.heap.size ≤ j) ∧ (∀ j, FB j → w.heap.size ≤ j)

set_option maxHeartbeats 8000000 in
set_option maxRecDepth 100000 in
theorem cuts8 (TI : TabI) (hN : NilS) (T : TabS) (a a' : Option Addr) (c c' : Nat) (l l' : List ByteArray) (n : Int) (w : World) (hl : ReadsT w a l) (hl' : ReadsT w a' l') (hn : InR n) :
    Calls Try.prog 5 #[.slice a l.length c, .slice a' l'.length c', .int .i64 n] w fun e w' => e = .returned (.bool true) ∧ Below w.heap.size w w' := by
  have haw := i_awake TI hN
  have hA := T.new_ok 300 w (by decide) (by decide)
  have hB := fun w => T.new_ok 300 w (by decide) (by decide)
  have HL := Lib.hid hl; have HL' := Lib.hid hl'; have HNN := Lib.hid hn
  clear hl hl' hn
  go_enter Try.func5, Try.ntmps5
  go_wp2_with fail
  refine hA.mono ?_; rintro e w1 ⟨A, FA, rfl, hRA, hb1, hFA⟩
  clear hA
  go_wp2_with fail
  refine (hB _).mono ?_; rintro e w2 ⟨B, FB, rfl, hRB, hb2, hFB⟩
  clear hB
  have HB2 := Lib.hid (hb1.trans (hb2.mono hb1.size))
  have H0 : Hid (CuRel T w A B n l.length (.int .i64 0) w2) := ⟨⟨0, [], [], FA, FB, Nat.zero_le _, rfl, T.below hRA hb2, hRB, fun j q r => by have := T.foot hRA j q; have := hFB j r; omega, HB2.out, hFA, fun j q => Nat.le_trans hb1.size (hFB j q), by simp [gcut], by simp⟩⟩
  clear hRA hRB hb1 hb2 hFA hFB
  by_cases h1 : 100 < l.length
  · go_wp2_with fail
    refine (haw _).mono ?_; rintro e w3 ⟨rfl, hb3⟩
    go_wp2_with fail
    go_ret
    exact ⟨rfl, HB2.out.trans (hb3.mono HB2.out.size)⟩
  · by_cases h2 : 100 < l'.length
    · go_wp2_with fail
      refine (haw _).mono ?_; rintro e w3 ⟨rfl, hb3⟩
      go_wp2_with fail
      go_ret
      exact ⟨rfl, HB2.out.trans (hb3.mono HB2.out.size)⟩
    · have HZ := Lib.hid (And.intro h1 h2)
      go_wp2_with fail
      go_loopw [11] (fun i wr => CuRel T w A B n l.length i wr) (fun i _ => l.length - (intOf i).toNat)
      case atStart => exact H0.out
      case round =>
        clear H0
        obtain ⟨k, KA, KB, FA, FB, hk, rfl, hRA, hRB, hD, hbw, hFA, hFB, hKB, hKl⟩ := hrel.out
        clear hrel
        have HBW := Lib.hid hbw; have HD := Lib.hid hD; have HFA := Lib.hid hFA; have HFB := Lib.hid hFB; have HRA := Lib.hid hRA; have HRB := Lib.hid hRB
        by_cases hlt : k < l.length
        · obtain ⟨b, off, rfl, hc1, hs⟩ := HL.out k hlt
          have hcw := (HBW.out.cell (p := ⟨b, off + k, none⟩) (World.block_lt_of_cell? w _ hc1)).trans hc1
          have HC : Hid (∀ wy, Below w.heap.size w wy → wy.cell? ⟨b, off + k, none⟩ = some (.string (l.getD k ⟨#[]⟩))) := fun wy h => (h.cell (p := ⟨b, off + k, none⟩) (World.block_lt_of_cell? w _ hc1)).trans hc1
          generalize l.getD k ⟨#[]⟩ = s at *
          have i0 : (0 : Int) ≤ (k : Int) := by omega
          have i1 : (k : Int) < (l.length : Int) := by omega
          have hst := cut_step s n hKB (by have := HZ.out.1; omega)
          have hgl := gid_len KA 300 s
          have HST := Lib.hid hst; have HGL : Hid ((gidK KA 300 s).length ≤ k + 1) := by show _ ≤ _; omega
          have HLT := Lib.hid hlt; have HSS := Lib.hid hs
          have hid1 := T.id s hRA hs
          clear hst hgl hKB hKl hk hRA hRB hD hbw hFA hFB hc1 hs hlt
          go_wp2_with fail
          refine hid1.mono ?_; rintro e w3 ⟨rfl, FA', hRA', ht, hF'⟩
          have HRA' := Lib.hid hRA'
          have HRB' := Lib.hid (T.turn HRB.out ht (fun j q r => HD.out j r q))
          have HBW' := Lib.hid (HBW.out.trans (ht.below HFA.out HBW.out.size))
          have HFA' : Hid (∀ j, FA' j → w.heap.size ≤ j) := fun j q => (hF' j q).elim (HFA.out j) (fun q => Nat.le_trans HBW.out.size q)
          have HD' : Hid (∀ j, FA' j → ¬ FB j) := fun j q r => (hF' j q).elim (fun q => HD.out j q r) (fun q => by have := T.foot HRB.out j r; omega)
          clear hRA' ht hF' hid1 hcw HRA HRB HBW HFA HD
          by_cases hx : gidN KA 300 s < n
          · have hcw := HC.out _ HBW'.out
            have hid2 := T.id s HRB'.out HSS.out
            have HE := Lib.hid (HST.out.1 hx)
            clear HST
            go_wp2_with fail
            refine hid2.mono ?_; rintro e w4 ⟨rfl, FB', hRB2, ht, hF'⟩
            have HRA2 := Lib.hid (T.turn HRA'.out ht HD'.out)
            have HBW2 := Lib.hid (HBW'.out.trans (ht.below HFB.out HBW'.out.size))
            have HFB2 : Hid (∀ j, FB' j → w.heap.size ≤ j) := fun j q => (hF' j q).elim (HFB.out j) (fun q => Nat.le_trans HBW'.out.size q)
            have HD2 : Hid (∀ j, FA' j → ¬ FB' j) := fun j q r => (hF' j r).elim (fun r => HD'.out j q r) (fun r => by have := T.foot HRA'.out j q; omega)
            have HRB2 := Lib.hid hRB2
            clear ht hF' hid2 hcw hRB2
            go_wp2_with fail
            go_roundw
            · exact ⟨⟨k + 1, _, _, _, _, by have := HLT.out; omega, by go_num, HRA2.out, HRB2.out, HD2.out, HBW2.out, HFA'.out, HFB2.out, HE.out, HGL.out⟩⟩
            · have := HLT.out; simp [intOf]; omega
          · have HE := Lib.hid (HST.out.2 (by omega))
            have hx' : decide (gidN KA 300 s < n) = false := decide_eq_false hx
            clear HST
            go_wp2_with fail
            go_roundw
            · exact ⟨⟨k + 1, _, _, _, _, by have := HLT.out; omega, by go_num, HRA'.out, HRB'.out, HD'.out, HBW'.out, HFA'.out, HFB.out, HE.out, HGL.out⟩⟩
            · have := HLT.out; simp [intOf]; omega
        · obtain rfl : k = l.length := by omega
          have hct := T.cut trivial n hRA HNN.out
          have HKB := Lib.hid hKB
          clear hk hlt hRA hRB hD hbw hFA hFB hKB hKl
          go_wp2_with fail
          refine hct.mono ?_; rintro e w3 ⟨rfl, FA', hRA', ht, hF'⟩
          have HRA' := Lib.hid hRA'
          have HRB' := Lib.hid (T.turn HRB.out ht (fun j q r => HD.out j r q))
          have HBW' := Lib.hid (HBW.out.trans (ht.below HFA.out HBW.out.size))
          have HFA' : Hid (∀ j, FA' j → w.heap.size ≤ j) := fun j q => (hF' j q).elim (HFA.out j) (fun q => Nat.le_trans HBW.out.size q)
          have HD' : Hid (∀ j, FA' j → ¬ FB j) := fun j q r => (hF' j q).elim (fun q => HD.out j q r) (fun q => by have := T.foot HRB.out j r; omega)
          obtain rfl : KB = gcut KA n := HKB.out
          clear hRA' ht hF' hct HRA HRB HBW HFA HD HKB
          have hl1 := T.len HRA'.out
          go_wp2_with fail
          refine hl1.mono ?_; rintro e w4 ⟨rfl, hb4⟩
          have hl2 := T.len (T.below HRB'.out hb4)
          clear hl1
          by_cases hneg : n < 0
          · have d1 : decide (n < 0) = true := decide_eq_true hneg
            have hz : gcut KA n = [] := by unfold gcut; rw [show n.toNat = 0 by omega]; rfl
            rw [hz] at hl2 HRA' HRB'
            clear hneg
            go_wp2_with fail
            refine hl2.mono ?_; rintro e w5 ⟨rfl, hb5⟩
            have hl3 := T.len (T.below (T.below HRA'.out hb4) hb5)
            have hg : (gcut KA n).length = 0 := by rw [hz]; rfl
            clear hl2
            go_wp2_with fail
            refine hl3.mono ?_; rintro e w6 ⟨rfl, hb6⟩
            have J6 := (hb4.trans (hb5.mono hb4.size)).trans (hb6.mono (Nat.le_trans hb4.size hb5.size))
            clear hb4 hb5 hb6 hl3 hz hg
            go_wp2_with fail
            have HK := Lib.hid (show T.Rep w6 A 300 ([] : List ByteArray) FA' from T.below HRA'.out J6)
            have H2 : Hid (CuRel2 T w A B l'.length (.int .i64 0) w6) := ⟨⟨0, ([] : List ByteArray), FA', FB, Nat.zero_le _, rfl, HK.out, T.below HRB'.out J6, HD'.out, HBW'.out.trans (J6.mono HBW'.out.size), HFA'.out, HFB.out⟩⟩
            clear HK HRA' HRB' HD' HBW' HFA' HFB
            go_loopw [14] (fun i wr => CuRel2 T w A B l'.length i wr) (fun i _ => l'.length - (intOf i).toNat)
            case atStart => exact H2.out
            case round =>
              clear H2
              obtain ⟨k, K, FA, FB, hk, rfl, hRA, hRB, hD, hbw, hFA, hFB⟩ := hrel.out
              clear hrel
              have HBW := Lib.hid hbw; have HD := Lib.hid hD; have HFA := Lib.hid hFA; have HFB := Lib.hid hFB; have HRA := Lib.hid hRA; have HRB := Lib.hid hRB
              by_cases hlt : k < l'.length
              · obtain ⟨b, off, rfl, hc1, hs⟩ := HL'.out k hlt
                have hcw := (HBW.out.cell (p := ⟨b, off + k, none⟩) (World.block_lt_of_cell? w _ hc1)).trans hc1
                have HC : Hid (∀ wy, Below w.heap.size w wy → wy.cell? ⟨b, off + k, none⟩ = some (.string (l'.getD k ⟨#[]⟩))) := fun wy h => (h.cell (p := ⟨b, off + k, none⟩) (World.block_lt_of_cell? w _ hc1)).trans hc1
                generalize l'.getD k ⟨#[]⟩ = s at *
                have i0 : (0 : Int) ≤ (k : Int) := by omega
                have i1 : (k : Int) < (l'.length : Int) := by omega
                have HLT := Lib.hid hlt; have HSS := Lib.hid hs
                have hid1 := T.id s hRA hs
                clear hk hRA hRB hD hbw hFA hFB hc1 hs hlt
                go_wp2_with fail
                refine hid1.mono ?_; rintro e w3 ⟨rfl, FA', hRA', ht, hF'⟩
                have HRA' := Lib.hid hRA'
                have HRB' := Lib.hid (T.turn HRB.out ht (fun j q r => HD.out j r q))
                have HBW' := Lib.hid (HBW.out.trans (ht.below HFA.out HBW.out.size))
                have HFA' : Hid (∀ j, FA' j → w.heap.size ≤ j) := fun j q => (hF' j q).elim (HFA.out j) (fun q => Nat.le_trans HBW.out.size q)
                have HD' : Hid (∀ j, FA' j → ¬ FB j) := fun j q r => (hF' j q).elim (fun q => HD.out j q r) (fun q => by have := T.foot HRB.out j r; omega)
                clear hRA' ht hF' hid1 hcw HRA HRB HBW HFA HD
                have hcw := HC.out _ HBW'.out
                have hid2 := T.id s HRB'.out HSS.out
                go_wp2_with fail
                refine hid2.mono ?_; rintro e w4 ⟨rfl, FB', hRB2, ht, hF'⟩
                have HRA2 := Lib.hid (T.turn HRA'.out ht HD'.out)
                have HBW2 := Lib.hid (HBW'.out.trans (ht.below HFB.out HBW'.out.size))
                have HFB2 : Hid (∀ j, FB' j → w.heap.size ≤ j) := fun j q => (hF' j q).elim (HFB.out j) (fun q => Nat.le_trans HBW'.out.size q)
                have HD2 : Hid (∀ j, FA' j → ¬ FB' j) := fun j q r => (hF' j r).elim (fun r => HD'.out j q r) (fun r => by have := T.foot HRA'.out j q; omega)
                have HRB2 := Lib.hid hRB2
                clear ht hF' hid2 hcw hRB2
                go_wp2_with fail
                go_roundw
                · exact ⟨⟨k + 1, _, _, _, by have := HLT.out; omega, by go_num, HRA2.out, HRB2.out, HD2.out, HBW2.out, HFA'.out, HFB2.out⟩⟩
                · have := HLT.out; simp [intOf]; omega
              · obtain rfl : k = l'.length := by omega
                have hl1 := T.len hRA
                clear hk hlt hRA hRB hD hbw hFA hFB
                go_wp2_with fail
                refine hl1.mono ?_; rintro e w3 ⟨rfl, hb3⟩
                have hl2 := T.len (T.below HRB.out hb3)
                go_wp2_with fail
                refine hl2.mono ?_; rintro e w4 ⟨rfl, hb4⟩
                go_wp2_with fail
                refine (haw _).mono ?_; rintro e w5 ⟨rfl, hb5⟩
                go_wp2_with fail
                go_ret
                exact ⟨rfl, HBW.out.trans (((hb3.trans (hb4.mono hb3.size)).trans (hb5.mono (Nat.le_trans hb3.size hb4.size))).mono HBW.out.size)⟩
          · have d1 : decide (n < 0) = false := decide_eq_false hneg
            generalize gcut KA n = K0 at *
            clear hneg
            go_wp2_with fail
            refine hl2.mono ?_; rintro e w5 ⟨rfl, hb5⟩
            have J6 := hb4.trans (hb5.mono hb4.size)
            clear hb4 hb5 hl2
            go_wp2_with fail
            have HK := Lib.hid (show T.Rep w5 A 300 K0 FA' from T.below HRA'.out J6)
            have H2 : Hid (CuRel2 T w A B l'.length (.int .i64 0) w5) := ⟨⟨0, K0, FA', FB, Nat.zero_le _, rfl, HK.out, T.below HRB'.out J6, HD'.out, HBW'.out.trans (J6.mono HBW'.out.size), HFA'.out, HFB.out⟩⟩
            clear HK HRA' HRB' HD' HBW' HFA' HFB
            go_loopw [14] (fun i wr => CuRel2 T w A B l'.length i wr) (fun i _ => l'.length - (intOf i).toNat)
            case atStart => exact H2.out
            case round =>
              clear H2
              obtain ⟨k, K, FA, FB, hk, rfl, hRA, hRB, hD, hbw, hFA, hFB⟩ := hrel.out
              clear hrel
              have HBW := Lib.hid hbw; have HD := Lib.hid hD; have HFA := Lib.hid hFA; have HFB := Lib.hid hFB; have HRA := Lib.hid hRA; have HRB := Lib.hid hRB
              by_cases hlt : k < l'.length
              · obtain ⟨b, off, rfl, hc1, hs⟩ := HL'.out k hlt
                have hcw := (HBW.out.cell (p := ⟨b, off + k, none⟩) (World.block_lt_of_cell? w _ hc1)).trans hc1
                have HC : Hid (∀ wy, Below w.heap.size w wy → wy.cell? ⟨b, off + k, none⟩ = some (.string (l'.getD k ⟨#[]⟩))) := fun wy h => (h.cell (p := ⟨b, off + k, none⟩) (World.block_lt_of_cell? w _ hc1)).trans hc1
                generalize l'.getD k ⟨#[]⟩ = s at *
                have i0 : (0 : Int) ≤ (k : Int) := by omega
                have i1 : (k : Int) < (l'.length : Int) := by omega
                have HLT := Lib.hid hlt; have HSS := Lib.hid hs
                have hid1 := T.id s hRA hs
                clear hk hRA hRB hD hbw hFA hFB hc1 hs hlt
                go_wp2_with fail
                refine hid1.mono ?_; rintro e w3 ⟨rfl, FA', hRA', ht, hF'⟩
                have HRA' := Lib.hid hRA'
                have HRB' := Lib.hid (T.turn HRB.out ht (fun j q r => HD.out j r q))
                have HBW' := Lib.hid (HBW.out.trans (ht.below HFA.out HBW.out.size))
                have HFA' : Hid (∀ j, FA' j → w.heap.size ≤ j) := fun j q => (hF' j q).elim (HFA.out j) (fun q => Nat.le_trans HBW.out.size q)
                have HD' : Hid (∀ j, FA' j → ¬ FB j) := fun j q r => (hF' j q).elim (fun q => HD.out j q r) (fun q => by have := T.foot HRB.out j r; omega)
                clear hRA' ht hF' hid1 hcw HRA HRB HBW HFA HD
                have hcw := HC.out _ HBW'.out
                have hid2 := T.id s HRB'.out HSS.out
                go_wp2_with fail
                refine hid2.mono ?_; rintro e w4 ⟨rfl, FB', hRB2, ht, hF'⟩
                have HRA2 := Lib.hid (T.turn HRA'.out ht HD'.out)
                have HBW2 := Lib.hid (HBW'.out.trans (ht.below HFB.out HBW'.out.size))
                have HFB2 : Hid (∀ j, FB' j → w.heap.size ≤ j) := fun j q => (hF' j q).elim (HFB.out j) (fun q => Nat.le_trans HBW'.out.size q)
                have HD2 : Hid (∀ j, FA' j → ¬ FB' j) := fun j q r => (hF' j r).elim (fun r => HD'.out j q r) (fun r => by have := T.foot HRA'.out j q; omega)
                have HRB2 := Lib.hid hRB2
                clear ht hF' hid2 hcw hRB2
                go_wp2_with fail
                go_roundw
                · exact ⟨⟨k + 1, _, _, _, by have := HLT.out; omega, by go_num, HRA2.out, HRB2.out, HD2.out, HBW2.out, HFA'.out, HFB2.out⟩⟩
                · have := HLT.out; simp [intOf]; omega
              · obtain rfl : k = l'.length := by omega
                have hl1 := T.len hRA
                clear hk hlt hRA hRB hD hbw hFA hFB
                go_wp2_with fail
                refine hl1.mono ?_; rintro e w3 ⟨rfl, hb3⟩
                have hl2 := T.len (T.below HRB.out hb3)
                go_wp2_with fail
                refine hl2.mono ?_; rintro e w4 ⟨rfl, hb4⟩
                go_wp2_with fail
                refine (haw _).mono ?_; rintro e w5 ⟨rfl, hb5⟩
                go_wp2_with fail
                go_ret
                exact ⟨rfl, HBW.out.trans (((hb3.trans (hb4.mono hb3.size)).trans (hb5.mono (Nat.le_trans hb3.size hb4.size))).mono HBW.out.size)⟩
end Go.Proofs.Yteeonglebimnlaa
