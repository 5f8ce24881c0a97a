/-
  What the document's own functions of layer 17 (gavelkindref17) answer. No conditions besides rows of at most 1000000.
-/
import Derived.Test.YthomlkgghdggmaaEntM
import Derived.Test.YthomlkgghdggmaaRefHs1
import Derived.Test.YthomlkgghdggmaaWideM
namespace Go.Proofs.Ythomlkgghdggmaa
open Go.RowKit
set_option linter.unusedSimpArgs false
set_option linter.unusedVariables false

theorem r17money (z : Int) (w : World) :
    Calls Try.prog 19 #[.int .i64 z] w fun e w' => e = .returned (.bool (decide (Mon z))) ∧ w' = w := by
  by_cases h1 : 1 ≤ z
  · have d1 : decide (1 ≤ z) = true := decide_eq_true h1
    have hr : decide (z ≤ 8) = decide (Mon z) := by
      by_cases h2 : z ≤ 8
      · rw [decide_eq_true h2, decide_eq_true (show Mon z from ⟨h1, h2⟩)]
      · rw [decide_eq_false h2, decide_eq_false (fun q : Mon z => h2 q.2)]
    generalize decide (Mon z) = r at *
    go_enter Try.func19, Try.ntmps19
    go_wp2_with fail
    go_ret
    exact ⟨rfl, rfl⟩
  · have d1 : decide (1 ≤ z) = false := decide_eq_false h1
    rw [decide_eq_false (fun q : Mon z => h1 q.1)]
    go_enter Try.func19, Try.ntmps19
    go_wp2_with fail
    go_ret
    exact ⟨rfl, rfl⟩

set_option maxHeartbeats 1000000 in
set_option maxRecDepth 100000 in
theorem r17check (a : Option Addr) (c : Nat) (L : List Int) (w : World) (hL : Reads w a L) (hn : L.length ≤ 1000000) :
    Calls Try.prog 8 #[.slice a L.length c] w fun e w' => e = .returned (.tuple #[.int .i64 (chkV L), .int .i64 (chkE L)]) ∧ w' = w := by
  by_cases h40 : 40 < L.length
  · have d1 : decide (40 < L.length) = true := decide_eq_true h40
    have d2 : decide ((40 : Int) < (L.length : Int)) = true := decide_eq_true (by omega)
    rw [show chkV L = 0 from if_pos h40, show chkE L = 3 from if_pos h40]
    clear hL
    go_enter Try.func8, Try.ntmps8
    go_wp2_with fail
    go_ret2
    exact ⟨rfl, rfl⟩
  · have d1 : decide (40 < L.length) = false := decide_eq_false h40
    have d2 : decide ((40 : Int) < (L.length : Int)) = false := decide_eq_false (by omega)
    have hV : Hid (chkV L = (badAt L : Int) ∧ chkE L = if badAt L < L.length then 23 else 0) := ⟨if_neg h40, if_neg h40⟩
    have HL := Lib.hid hL; clear hL
    go_enter Try.func8, Try.ntmps8
    go_wp2_with fail
    go_loopw [4] (fun i wr => ∃ k : Nat, k ≤ L.length ∧ i = .int .i64 (k : Int) ∧ (∀ j, j < k → Mon (L.getD j 0)) ∧ wr = w) (fun i _ => L.length - (RowKit.intOf i).toNat)
    case atStart => exact ⟨0, Nat.zero_le _, rfl, fun j hj => by omega, rfl⟩
    case round =>
      obtain ⟨k, hk, rfl, hok, rfl⟩ := hrel
      have HK := Lib.hid hok; clear hok
      by_cases hlt : k < L.length
      · obtain ⟨b, off, rfl, hc⟩ := HL.out.2 k hlt
        have i0 : (0 : Int) ≤ (k : Int) := by omega
        have i1 : (k : Int) < (L.length : Int) := by omega
        have e1 : wrap64 ((k : Int) + 1) = (k : Int) + 1 := by unfold wrap64; omega
        have hw := r17money (L.getD k 0) wr
        by_cases hm : Mon (L.getD k 0)
        · rw [decide_eq_true hm] at hw
          have HM : Hid (Mon (L.getD k 0)) := hm
          clear hm
          obtain ⟨z, hz⟩ : ∃ z, L.getD k 0 = z := ⟨_, rfl⟩
          rw [hz] at hw hc
          clear hz
          go_wp2_with fail
          refine hw.mono ?_; rintro e w1 ⟨rfl, rfl⟩
          go_wp2_with fail
          go_roundw
          · exact ⟨k + 1, by omega, by go_num, fun j hj => by
              rcases Nat.lt_or_ge j k with q | q
              · exact HK.out j q
              · rw [show j = k by omega]; exact HM.out, by first | rfl | trivial⟩
          · simp [RowKit.intOf]; omega
        · rw [decide_eq_false hm] at hw
          have hk2 : Hid (badAt L = k) := badAt_is hk HK.out (Or.inr hm)
          clear hm
          obtain ⟨z, hz⟩ : ∃ z, L.getD k 0 = z := ⟨_, rfl⟩
          rw [hz] at hw hc
          clear hz
          have HLT := Lib.hid hlt
          go_wp2_with fail
          refine hw.mono ?_; rintro e w1 ⟨rfl, rfl⟩
          go_wp2_with fail
          go_ret2
          exact ⟨by rw [hV.out.1, hV.out.2, hk2.out, if_pos HLT.out]; rfl, rfl⟩
      · obtain rfl : k = L.length := by omega
        have hk2 : Hid (badAt L = L.length) := badAt_is (Nat.le_refl _) HK.out (Or.inl rfl)
        have hd0 : decide ((L.length : Int) < (L.length : Int)) = false := decide_eq_false (by omega)
        go_wp2_with fail
        go_ret2
        exact ⟨by rw [hV.out.1, hV.out.2, hk2.out, if_neg (Nat.lt_irrefl _)]; rfl, rfl⟩

set_option maxHeartbeats 1000000 in
set_option maxRecDepth 100000 in
theorem r17cur (a : Option Addr) (c : Nat) (L : List Int) (n : Int) (w : World) (hL : Reads w a L) (hn : L.length ≤ 1000000) (hi : InR n) :
    Calls Try.prog 10 #[.slice a L.length c, .int .i64 n] w fun e w' => e = .returned (.tuple #[.int .i64 (curV L n), .int .i64 (curE L n)]) ∧ w' = w := by
  by_cases h : 1 ≤ n ∧ n ≤ (L.length : Int)
  · rw [show curV L n = L.getD (n - 1).toNat 0 from if_pos h, show curE L n = 0 from if_pos h]
    obtain ⟨k, hk⟩ : ∃ k : Nat, n = (k : Int) + 1 := ⟨(n - 1).toNat, by omega⟩
    have hlt : k < L.length := by omega
    obtain ⟨b, off, rfl, hc⟩ := hL.2 k hlt
    rw [show (n - 1).toNat = k by omega]
    have i0 : (0 : Int) ≤ (k : Int) := by omega
    have i1 : (k : Int) < (L.length : Int) := by omega
    have hw1 : wrap64 (n - 1) = (k : Int) := by unfold wrap64; omega
    have hw2 : IntKind.i64.wrap (n - 1) = (k : Int) := by simp [IntKind.wrap, IntKind.signed, IntKind.bits]; omega
    have d1 : decide (n < 1) = false := decide_eq_false (by omega)
    have d2 : decide ((L.length : Int) < n) = false := decide_eq_false (by omega)
    obtain ⟨z, hz'⟩ : ∃ z, L.getD k 0 = z := ⟨_, rfl⟩
    rw [hz'] at hc ⊢
    clear hz' hk h hL
    go_enter Try.func10, Try.ntmps10
    go_wp2_with fail
    go_ret2
    exact ⟨rfl, rfl⟩
  · rw [show curV L n = 0 from if_neg h, show curE L n = 20 from if_neg h]
    by_cases h1 : n < 1
    · have d1 : decide (n < 1) = true := decide_eq_true h1
      clear hL h
      go_enter Try.func10, Try.ntmps10
      go_wp2_with fail
      go_ret2
      exact ⟨rfl, rfl⟩
    · have d1 : decide (n < 1) = false := decide_eq_false h1
      have d2 : decide ((L.length : Int) < n) = true := decide_eq_true (by omega)
      clear hL h
      go_enter Try.func10, Try.ntmps10
      go_wp2_with fail
      go_ret2
      exact ⟨rfl, rfl⟩

set_option maxHeartbeats 1000000 in
set_option maxRecDepth 100000 in
theorem r17add (a : Option Addr) (c : Nat) (L : List Int) (z : Int) (hn : L.length ≤ 1000000) (w : World) (hL : Reads w a L) (ca : a = none → c = 0) :
    Calls Try.prog 12 #[.slice a L.length c, .int .i64 z] w fun e w' => ∃ v, e = .returned (.tuple #[v, .int .i64 (addE L z)]) ∧ Own w' w.heap.size v (addL L z) ∧ Below w.heap.size w w' := by
  have hy := r17money z w
  by_cases h : Mon z
  · rw [decide_eq_true h] at hy
    by_cases hl : L.length < 40
    · have HV : Hid (addE L z = 0 ∧ addL L z = L ++ [z]) := ⟨by unfold addE; rw [if_pos h, if_pos hl], by unfold addL; rw [if_pos ⟨h, hl⟩]⟩
      have d1 : decide ((40 : Int) ≤ (L.length : Int)) = false := decide_eq_false (by omega)
      have d2 : decide (40 ≤ L.length) = false := decide_eq_false (by omega)
      have HL := Lib.hid hL; have HC := Lib.hid ca
      clear hL h ca
      go_enter Try.func12, Try.ntmps12
      go_wp2_with fail
      refine hy.mono ?_; rintro e w1 ⟨rfl, rfl⟩
      go_wp2_with (first
        | (at_builtin; refine wp_cat (w1.alloc (.cells #[] 3)) rfl (.tmp 12) (.tmp 13) rfl w1.heap.size _ [] L a c rfl (Own.lit w1) rfl (HL.out.alloc _) HC.out (by simp; omega) (by simp) ?_; intro v7 w7 hown7 hb7; simp only [List.nil_append] at hown7; have hb17 := ((Below.refl _ w1).alloc (Nat.le_refl _) (.cells #[] 3)).trans hb7)
        | (at_builtin; refine wp_push w7 rfl (.tmp 14) (.tmp 16) rfl w1.heap.size _ L z rfl hown7 rfl (by omega) hb17.size ?_; intro v8 w8 hown8 hb8))
      go_ret2
      rw [HV.out.1, HV.out.2]
      exact ⟨_, rfl, hown8, hb17.trans hb8⟩
    · have HV : Hid (addE L z = 3 ∧ addL L z = []) := ⟨by unfold addE; rw [if_pos h, if_neg hl], by unfold addL; rw [if_neg (fun q => hl q.2)]⟩
      have d1 : decide ((40 : Int) ≤ (L.length : Int)) = true := decide_eq_true (by omega)
      have d2 : decide (40 ≤ L.length) = true := decide_eq_true (by omega)
      clear hL h ca
      go_enter Try.func12, Try.ntmps12
      go_wp2_with fail
      refine hy.mono ?_; rintro e w1 ⟨rfl, rfl⟩
      go_wp2_with fail
      go_ret2
      rw [HV.out.1, HV.out.2]
      exact ⟨_, rfl, Own.nil _ _, Below.refl _ _⟩
  · rw [decide_eq_false h] at hy
    have HV : Hid (addE L z = 23 ∧ addL L z = []) := ⟨by unfold addE; rw [if_neg h], by unfold addL; rw [if_neg (fun q => h q.1)]⟩
    clear hL h ca
    go_enter Try.func12, Try.ntmps12
    go_wp2_with fail
    refine hy.mono ?_; rintro e w1 ⟨rfl, rfl⟩
    go_wp2_with fail
    go_ret2
    rw [HV.out.1, HV.out.2]
    exact ⟨_, rfl, Own.nil _ _, Below.refl _ _⟩

set_option maxHeartbeats 1000000 in
set_option maxRecDepth 100000 in
theorem r17of (a : Option Addr) (c : Nat) (L : List Int) (a' : Option Addr) (c' : Nat) (M : List Int) (hn : L.length ≤ 1000000) (hm : M.length ≤ 1000000) (w : World) (hL : Reads w a L) (hM : Reads w a' M) :
    Calls Try.prog 15 #[.slice a L.length c, .slice a' M.length c'] w fun e w' => ∃ v, e = .returned v ∧ Own w' w.heap.size v (ofL L M) ∧ Below w.heap.size w w' := by
  have HL := Lib.hid hL; have HM := Lib.hid hM
  clear hL hM
  obtain ⟨o0, ho0⟩ : ∃ o0, o0 = ofL L M := ⟨_, rfl⟩
  rw [← ho0]
  have HO0 := Lib.hid ho0; clear ho0
  go_enter Try.func15, Try.ntmps15
  go_wp2_with fail
  go_loopw [5, 6] (fun u i wr => ∃ k : Nat, k ≤ L.length ∧ i = .int .i64 (k : Int) ∧ Own wr w.heap.size u (ofK L M k) ∧ Below w.heap.size w wr) (fun _ i _ => L.length - (RowKit.intOf i).toNat)
  case atStart => exact ⟨0, Nat.zero_le _, rfl, Own.nil _ _, Below.refl _ _⟩
  case round =>
    obtain ⟨k, hk, rfl, ho, hb⟩ := hrel
    by_cases hlt : k < L.length
    · obtain ⟨b, off, rfl, hc⟩ := (HL.out.below hb).2 k hlt
      have i0 : (0 : Int) ≤ (k : Int) := by omega
      have i1 : (k : Int) < (L.length : Int) := by omega
      have e1 : wrap64 ((k : Int) + 1) = (k : Int) + 1 := by unfold wrap64; omega
      have hsr := has_any a' c' M (L.getD k 0) wr (HM.out.below hb) (by omega)
      have HLN : Hid ((ofK L M k).length ≤ k) := ofK_len L M k
      have HIN : Hid (∀ z ∈ ofK L M k, InR z) := ofK_in (by omega)
      have HBR := Lib.hid hb
      have hsz := hb.size
      obtain ⟨a4, c4, rfl⟩ := (ho.sl HIN.out).form
      clear hb
      by_cases hm : L.getD k 0 ∈ M
      · have HK : Hid (ofK L M (k + 1) = ofK L M k ++ [(k : Int) + 1]) := ofK_yes hm
        rw [decide_eq_true hm] at hsr
        clear hm
        generalize L.getD k 0 = z at *
        go_wp2_with fail
        refine hsr.mono ?_; rintro e w4 ⟨rfl, rfl⟩
        clear hsr
        go_wp2_with (at_builtin; refine wp_push wr rfl (.tmp 19) (.tmp 22) rfl w.heap.size _ _ ((k : Int) + 1) rfl ho rfl (by have := HLN.out; omega) hsz ?_; intro v5 w5 ho5 hb5)
        go_roundw
        · exact ⟨k + 1, by omega, by go_num, by rw [HK.out]; exact ho5, HBR.out.trans hb5⟩
        · simp [RowKit.intOf]; omega
      · have HK : Hid (ofK L M (k + 1) = ofK L M k) := ofK_no hm
        rw [decide_eq_false hm] at hsr
        clear hm
        generalize L.getD k 0 = z at *
        go_wp2_with fail
        refine hsr.mono ?_; rintro e w4 ⟨rfl, rfl⟩
        clear hsr
        go_wp2_with fail
        go_roundw
        · exact ⟨k + 1, by omega, by go_num, by rw [HK.out]; exact ho, HBR.out⟩
        · simp [RowKit.intOf]; omega
    · obtain rfl : k = L.length := by omega
      have hd0 : decide ((L.length : Int) < (L.length : Int)) = false := decide_eq_false (by omega)
      have HO := Lib.hid ho; have HBR := Lib.hid hb
      clear ho hb
      go_wp2_with fail
      go_ret
      refine ⟨_, rfl, ?_, HBR.out⟩
      rw [HO0.out]
      exact HO.out
end Go.Proofs.Ythomlkgghdggmaa
