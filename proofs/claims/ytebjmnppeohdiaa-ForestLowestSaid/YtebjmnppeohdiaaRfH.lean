/-
  One step further in a list of numbers. No Go function is walked here. What the document's own SameInts (gavelkindref01) answers, for whatever slices of numbers. No conditions besides. What the document's own Has (gavelkindref01) answers, for whatever slices of numbers. No conditions besides.
-/
import Derived.Test.YtebjmnppeohdiaaBtR
import Derived.Deep.QuietTactic
import Derived.BigQuiet
import Derived.WalkSmall
namespace Go.Proofs.Ytebjmnppeohdiaa
open Go.RowKit
set_option linter.unusedSimpArgs false
set_option linter.unusedVariables false

/- One step further in a list of numbers. No Go function is walked here. -/
theorem take_step {L : List Int} {k : Nat} (h : k < L.length) (p : Int → Prop) : (∀ s ∈ L.take (k + 1), p s) ↔ (∀ s ∈ L.take k, p s) ∧ p (L.getD k 0) := by
  rw [List.take_succ_eq_append_getElem h, getD_lt _ _ h]
  constructor
  · intro q
    exact ⟨fun s hs => q s (List.mem_append_left _ hs), q _ (List.mem_append_right _ (by simp))⟩
  · rintro ⟨q1, q2⟩ s hs
    rcases List.mem_append.mp hs with hs | hs
    · exact q1 s hs
    · simp at hs; rw [hs]; exact q2

/- What the document's own SameInts (gavelkindref01) answers, for whatever slices of numbers. No conditions besides. -/
theorem take_eq_step {L M : List Int} {k : Nat} (h : k < L.length) (h' : k < M.length) (he : L.take k = M.take k) (hz : L.getD k 0 = M.getD k 0) : L.take (k + 1) = M.take (k + 1) := by
  rw [List.take_succ_eq_append_getElem h, List.take_succ_eq_append_getElem h', he]
  rw [getD_lt _ _ h, getD_lt _ _ h'] at hz
  rw [hz]

set_option maxHeartbeats 1000000 in
theorem same_any (a a' : Option Addr) (c c' : Nat) (L M : List Int) (w : World) (hL : Reads w a L) (hM : Reads w a' M) (hn : (L.length : Int) ≤ 9223372036854775807) :
    Calls Try.prog 14 #[.slice a L.length c, .slice a' M.length c'] w fun e w' => e = .returned (.bool (decide (L = M))) ∧ Below w.heap.size w w' := by
  by_cases hl : L.length = M.length
  · have HL := Lib.hid hL; have HM := Lib.hid hM; clear hL hM
    obtain ⟨r, hr⟩ : ∃ r, r = decide (L = M) := ⟨_, rfl⟩
    rw [← hr]
    have HR := Lib.hid hr; clear hr
    rw [← hl]
    have HE := Lib.hid hl; clear hl
    go_enter Try.func14, Try.ntmps14
    go_wp2_with fail
    go_loopw [5] (fun i wr => ∃ k : Nat, k ≤ L.length ∧ i = .int .i64 (k : Int) ∧ L.take k = M.take k ∧ Below w.heap.size w wr) (fun i _ => L.length - (intOf i).toNat)
    case atStart => exact ⟨0, Nat.zero_le _, rfl, by simp, Below.refl _ _⟩
    case round =>
      obtain ⟨k, hk, rfl, hok, hb⟩ := hrel
      by_cases hlt : k < L.length
      · obtain ⟨b, off, rfl, hc⟩ := (HL.out.below hb).2 k hlt
        obtain ⟨b', off', rfl, hc'⟩ := (HM.out.below hb).2 k (by have := HE.out; omega)
        have i0 : (0 : Int) ≤ (k : Int) := by omega
        have i1 : (k : Int) < (L.length : Int) := by omega
        have HK := Lib.hid (take_eq_step (M := M) hlt (by have := HE.out; omega) hok); clear hok
        have HZ : Hid (L.getD k 0 ≠ M.getD k 0 → L ≠ M) := fun q e => q (by rw [e])
        generalize L.getD k 0 = z at *
        generalize M.getD k 0 = y at *
        by_cases hs : z = y
        · subst hs
          go_wp2_with fail
          go_quiet (fail)
          go_wp2_with fail
          go_roundw
          · exact ⟨k + 1, by omega, by go_num, HK.out (by trivial), below_drewN hb _⟩
          · simp [intOf]; omega
        · have he : (z == y) = false := by simpa using hs
          have he' : (z != y) = true := by simpa using hs
          have hr : r = false := by rw [HR.out]; exact decide_eq_false (HZ.out hs)
          subst hr
          clear hs
          go_wp2_with fail
          go_quiet (fail)
          go_wp2_with fail
          go_ret
          exact ⟨rfl, below_drewN hb _⟩
      · obtain rfl : k = L.length := by omega
        rw [List.take_length, HE.out, List.take_length] at hok
        have hr : r = true := by rw [HR.out]; exact decide_eq_true hok
        subst hr
        clear hok
        have hd0 : decide ((L.length : Int) < (L.length : Int)) = false := decide_eq_false (by omega)
        go_wp2_with fail
        go_ret
        exact ⟨rfl, hb⟩
  · have hr : decide (L = M) = false := decide_eq_false fun e => hl (by rw [e])
    rw [hr]
    have hne : ((L.length : Int) != (M.length : Int)) = true := by simp; omega
    clear hr hL hM
    go_enter Try.func14, Try.ntmps14
    go_wp2_with fail
    go_ret
    exact ⟨rfl, Below.refl _ _⟩
/- What the document's own Has (gavelkindref01) answers, for whatever slices of numbers. No conditions besides. -/
set_option maxHeartbeats 1000000 in
theorem has_any (a : Option Addr) (c : Nat) (L : List Int) (v : Int) (w : World) (hL : Reads w a L) (hn : (L.length : Int) ≤ 9223372036854775807) :
    Calls Try.prog 28 #[.slice a L.length c, .int .i64 v] w fun e w' => e = .returned (.bool (decide (v ∈ L))) ∧ w = w' := by
  have HL := Lib.hid hL; clear hL
  obtain ⟨r, hr⟩ : ∃ r, r = decide (v ∈ L) := ⟨_, rfl⟩
  rw [← hr]
  have HR := Lib.hid hr; clear hr
  go_enter Try.func28, Try.ntmps28
  go_wp2_with fail
  go_loopw [5] (fun i wr => ∃ k : Nat, k ≤ L.length ∧ i = .int .i64 (k : Int) ∧ (∀ s ∈ L.take k, s ≠ v) ∧ w = wr) (fun i _ => L.length - (intOf i).toNat)
  case atStart => exact ⟨0, Nat.zero_le _, rfl, by simp, rfl⟩
  case round =>
    obtain ⟨k, hk, rfl, hok, rfl⟩ := hrel
    by_cases hlt : k < L.length
    · obtain ⟨b, off, rfl, hc⟩ := HL.out.2 k hlt
      have i0 : (0 : Int) ≤ (k : Int) := by omega
      have i1 : (k : Int) < (L.length : Int) := by omega
      have HM := Lib.hid (take_step hlt (· ≠ v))
      have HK := Lib.hid hok; clear hok
      have HZ : Hid (L.getD k 0 ∈ L) := by show _ ∈ _; rw [getD_lt _ _ hlt]; exact List.getElem_mem hlt
      generalize L.getD k 0 = z at *
      by_cases hs : z = v
      · subst hs
        have hr : r = true := by rw [HR.out]; exact decide_eq_true HZ.out
        subst hr
        go_wp2_with fail
        go_ret
        exact ⟨rfl, rfl⟩
      · have he : (z == v) = false := by simpa using hs
        have HS := Lib.hid hs; clear hs
        go_wp2_with fail
        go_roundw
        · exact ⟨k + 1, by omega, by go_num, HM.out.mpr ⟨HK.out, HS.out⟩, by first | rfl | trivial⟩
        · simp [intOf]; omega
    · obtain rfl : k = L.length := by omega
      rw [List.take_length] at hok
      have hr : r = false := by rw [HR.out]; exact decide_eq_false fun q => hok _ q rfl
      subst hr
      clear hok
      have hd0 : decide ((L.length : Int) < (L.length : Int)) = false := decide_eq_false (by omega)
      go_wp2_with fail
      go_ret
      exact ⟨rfl, rfl⟩

end Go.Proofs.Ytebjmnppeohdiaa
