/-
  What share's own Check answers, for whatever share. No conditions besides. What share's closure and the library's IndexFunc, ContainsFunc (over that closure), Index and Contains answer, for whatever slice of numbers. No conditions besides.
-/
import Derived.Test.YtebjmnppeohdiaaChecked
import Derived.Test.YtebjmnppeohdiaaRt1
namespace Go.Proofs.Ytebjmnppeohdiaa
open Go.RowKit
set_option linter.unusedSimpArgs false
set_option linter.unusedVariables false

/- What share's own Check answers, for whatever share. No conditions besides. -/
set_option maxHeartbeats 400000 in
theorem h_check (s : Int) (w : World) :
    Calls Try.prog 52 #[.int .i64 s] w fun e w' => e = .returned (.int .i64 (shc s)) ∧ w = w' := by
  rcases Int.lt_or_le s 0 with h1 | h1
  · rw [shc_no (by unfold OkS; omega)]
    go_enter Try.func52, Try.ntmps52
    go_wp2_with fail
    go_ret
    exact ⟨rfl, rfl⟩
  · have d1 : decide (s < 0) = false := decide_eq_false (by omega)
    rcases Int.lt_or_le 10000 s with h2 | h2
    · rw [shc_no (by unfold OkS; omega)]
      go_enter Try.func52, Try.ntmps52
      go_wp2_with fail
      go_ret
      exact ⟨rfl, rfl⟩
    · rw [shc_ok (by unfold OkS; omega)]
      have d2 : decide (10000 < s) = false := decide_eq_false (by omega)
      go_enter Try.func52, Try.ntmps52
      go_wp2_with fail
      go_ret
      exact ⟨rfl, rfl⟩

/- What share's closure and the library's IndexFunc, ContainsFunc (over that closure), Index and Contains answer, for whatever slice of numbers. No conditions besides. -/
theorem all_take {L : List Int} {k : Nat} (h : k < L.length) (p : Int → Prop) : (∀ s ∈ L.take (k + 1), p s) ↔ (∀ s ∈ L.take k, p s) ∧ p (L.getD k 0) := by
  rw [List.take_succ_eq_append_getElem h, getD_lt _ _ h]
  constructor
  · intro q
    exact ⟨fun s hs => q s (List.mem_append_left _ hs), q _ (List.mem_append_right _ (by simp))⟩
  · rintro ⟨q1, q2⟩ s hs
    rcases List.mem_append.mp hs with hs | hs
    · exact q1 s hs
    · simp at hs; rw [hs]; exact q2

set_option maxHeartbeats 400000 in
theorem h_wrong (s : Int) (w : World) :
    Calls Try.prog 51 #[.int .i64 s] w fun e w' => e = .returned (.bool (! decide (OkS s))) ∧ w = w' := by
  have hc := h_check s
  by_cases h : OkS s
  · rw [shc_ok h] at hc
    rw [decide_eq_true h]
    go_enter Try.func51, Try.ntmps51
    go_wp2_with fail
    refine (hc _).mono ?_; rintro e w0 ⟨rfl, rfl⟩
    go_wp2_with fail
    go_ret
    exact ⟨rfl, rfl⟩
  · rw [shc_no h] at hc
    rw [decide_eq_false h]
    go_enter Try.func51, Try.ntmps51
    go_wp2_with fail
    refine (hc _).mono ?_; rintro e w0 ⟨rfl, rfl⟩
    go_wp2_with fail
    go_ret
    exact ⟨rfl, rfl⟩

set_option maxHeartbeats 1000000 in
theorem h_indexf (a : Option Addr) (c : Nat) (L : List Int) (w : World) (hL : Reads w a L) (hn : (L.length : Int) ≤ 9223372036854775807) :
    Calls Try.prog 46 #[.slice a L.length c, .func (.func 51) #[] #[]] w fun e w' => (∃ i : Int, e = .returned (.int .i64 i) ∧ (0 ≤ i ↔ ¬ ∀ s ∈ L, OkS s)) ∧ w = w' := by
  have HL := Lib.hid hL; clear hL
  go_enter Try.func46, Try.ntmps46
  go_wp2_with fail
  go_loopw [8] (fun i wr => ∃ k : Nat, k ≤ L.length ∧ i = .int .i64 (k : Int) ∧ (∀ s ∈ L.take k, OkS s) ∧ w = wr) (fun i _ => L.length - (intOf i).toNat)
  case atStart => exact ⟨0, Nat.zero_le _, rfl, by simp, rfl⟩
  case round =>
    obtain ⟨k, hk, rfl, hok, rfl⟩ := hrel
    by_cases hlt : k < L.length
    · obtain ⟨b, off, rfl, hc⟩ := HL.out.2 k hlt
      have i0 : (0 : Int) ≤ (k : Int) := by omega
      have i1 : (k : Int) < (L.length : Int) := by omega
      have HM := Lib.hid (all_take hlt OkS)
      have HK := Lib.hid hok; clear hok
      have hw := h_wrong (L.getD k 0)
      have HZ : Hid (L.getD k 0 ∈ L) := by show _ ∈ _; rw [getD_lt _ _ hlt]; exact List.getElem_mem hlt
      generalize L.getD k 0 = z at *
      by_cases hs : OkS z
      · rw [decide_eq_true hs] at hw
        have HS := Lib.hid hs; clear hs
        go_wp2_with fail
        refine (hw _).mono ?_; rintro e w1 ⟨rfl, rfl⟩
        go_wp2_with fail
        go_roundw
        · exact ⟨k + 1, by omega, by go_num, HM.out.mpr ⟨HK.out, HS.out⟩, by first | rfl | trivial⟩
        · simp [intOf]; omega
      · rw [decide_eq_false hs] at hw
        have HS := Lib.hid hs; clear hs
        go_wp2_with fail
        refine (hw _).mono ?_; rintro e w1 ⟨rfl, rfl⟩
        go_wp2_with fail
        go_ret
        exact ⟨⟨k, rfl, ⟨fun _ q => HS.out (q _ HZ.out), fun _ => by omega⟩⟩, rfl⟩
    · obtain rfl : k = L.length := by omega
      rw [List.take_length] at hok
      have HK := Lib.hid hok; clear hok
      have hd0 : decide ((L.length : Int) < (L.length : Int)) = false := decide_eq_false (by omega)
      go_wp2_with fail
      go_ret
      exact ⟨⟨-1, rfl, ⟨fun q => by omega, fun q => absurd HK.out q⟩⟩, rfl⟩

set_option maxHeartbeats 1000000 in
theorem h_index (a : Option Addr) (c : Nat) (L : List Int) (w : World) (hL : Reads w a L) (hn : (L.length : Int) ≤ 9223372036854775807) :
    Calls Try.prog 43 #[.slice a L.length c, .int .i64 0] w fun e w' => (∃ i : Int, e = .returned (.int .i64 i) ∧ (0 ≤ i ↔ (0 : Int) ∈ L)) ∧ w = w' := by
  have HL := Lib.hid hL; clear hL
  go_enter Try.func43, Try.ntmps43
  go_wp2_with fail
  go_loopw [8] (fun i wr => ∃ k : Nat, k ≤ L.length ∧ i = .int .i64 (k : Int) ∧ (∀ s ∈ L.take k, s ≠ 0) ∧ w = wr) (fun i _ => L.length - (intOf i).toNat)
  case atStart => exact ⟨0, Nat.zero_le _, rfl, by simp, rfl⟩
  case round =>
    obtain ⟨k, hk, rfl, hok, rfl⟩ := hrel
    by_cases hlt : k < L.length
    · obtain ⟨b, off, rfl, hc⟩ := HL.out.2 k hlt
      have i0 : (0 : Int) ≤ (k : Int) := by omega
      have i1 : (k : Int) < (L.length : Int) := by omega
      have HM := Lib.hid (all_take hlt (· ≠ 0))
      have HK := Lib.hid hok; clear hok
      have HZ : Hid (L.getD k 0 ∈ L) := by show _ ∈ _; rw [getD_lt _ _ hlt]; exact List.getElem_mem hlt
      generalize L.getD k 0 = z at *
      by_cases hs : z = 0
      · subst hs
        go_wp2_with fail
        go_ret
        exact ⟨⟨k, rfl, ⟨fun _ => HZ.out, fun _ => by omega⟩⟩, rfl⟩
      · have he : ((0 : Int) == z) = false := by simpa using fun h => hs h.symm
        have HS := Lib.hid hs; clear hs
        go_wp2_with fail
        go_roundw
        · exact ⟨k + 1, by omega, by go_num, HM.out.mpr ⟨HK.out, HS.out⟩, by first | rfl | trivial⟩
        · simp [intOf]; omega
    · obtain rfl : k = L.length := by omega
      rw [List.take_length] at hok
      have HK := Lib.hid hok; clear hok
      have hd0 : decide ((L.length : Int) < (L.length : Int)) = false := decide_eq_false (by omega)
      go_wp2_with fail
      go_ret
      exact ⟨⟨-1, rfl, ⟨fun q => by omega, fun q => absurd rfl (HK.out _ q)⟩⟩, rfl⟩

theorem h_containsf (a : Option Addr) (c : Nat) (L : List Int) (w : World) (hL : Reads w a L) (hn : (L.length : Int) ≤ 9223372036854775807) :
    Calls Try.prog 53 #[.slice a L.length c, .func (.func 51) #[] #[]] w fun e w' => e = .returned (.bool (! decide (∀ s ∈ L, OkS s))) ∧ w = w' := by
  have hi := h_indexf a c L w hL hn
  clear hL hn
  by_cases h : ∀ s ∈ L, OkS s
  · rw [decide_eq_true h]
    have H := Lib.hid h; clear h
    go_enter Try.func53, Try.ntmps53
    go_wp2_with fail
    refine hi.mono ?_; rintro e w0 ⟨⟨i, rfl, q⟩, rfl⟩
    have d : decide (0 ≤ i) = false := decide_eq_false fun r => q.mp r H.out
    clear q
    go_wp2_with fail
    go_ret
    exact ⟨rfl, rfl⟩
  · rw [decide_eq_false h]
    have H := Lib.hid h; clear h
    go_enter Try.func53, Try.ntmps53
    go_wp2_with fail
    refine hi.mono ?_; rintro e w0 ⟨⟨i, rfl, q⟩, rfl⟩
    have d : decide (0 ≤ i) = true := decide_eq_true (q.mpr H.out)
    clear q
    go_wp2_with fail
    go_ret
    exact ⟨rfl, rfl⟩

theorem h_contains (a : Option Addr) (c : Nat) (L : List Int) (w : World) (hL : Reads w a L) (hn : (L.length : Int) ≤ 9223372036854775807) :
    Calls Try.prog 54 #[.slice a L.length c, .int .i64 0] w fun e w' => e = .returned (.bool (decide ((0 : Int) ∈ L))) ∧ w = w' := by
  have hi := h_index a c L w hL hn
  clear hL hn
  by_cases h : (0 : Int) ∈ L
  · rw [decide_eq_true h]
    have H := Lib.hid h; clear h
    go_enter Try.func54, Try.ntmps54
    go_wp2_with fail
    refine hi.mono ?_; rintro e w0 ⟨⟨i, rfl, q⟩, rfl⟩
    have d : decide (0 ≤ i) = true := decide_eq_true (q.mpr H.out)
    clear q
    go_wp2_with fail
    go_ret
    exact ⟨rfl, rfl⟩
  · rw [decide_eq_false h]
    have H := Lib.hid h; clear h
    go_enter Try.func54, Try.ntmps54
    go_wp2_with fail
    refine hi.mono ?_; rintro e w0 ⟨⟨i, rfl, q⟩, rfl⟩
    have d : decide (0 ≤ i) = false := decide_eq_false fun r => H.out (q.mp r)
    clear q
    go_wp2_with fail
    go_ret
    exact ⟨rfl, rfl⟩
end Go.Proofs.Ytebjmnppeohdiaa
