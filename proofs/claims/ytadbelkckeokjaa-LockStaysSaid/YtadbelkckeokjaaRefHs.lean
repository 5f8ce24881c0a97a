/-
  What the document's own SameInts (gavelkindref01) answers, for whatever slices of numbers. No conditions besides.
-/
import Derived.Test.YtadbelkckeokjaaRefHs0
import Derived.Deep.QuietTactic
import Derived.BigQuiet
import Derived.WalkSmall
namespace Go.Proofs.Ytadbelkckeokjaa
open Go.RowKit
set_option linter.unusedSimpArgs false
set_option linter.unusedVariables false

theorem take_eq_step {L M : List Int} {k : Nat} (h : k < L.length) (h' : k < M.length) (he : L.take k = M.take k) (hz : L.getD k 0 = M.getD k 0) : L.take (k + 1) = M.take (k + 1) := by
  rw [List.take_succ_eq_append_getElem h, List.take_succ_eq_append_getElem h', he]
  rw [getD_lt _ _ h, getD_lt _ _ h'] at hz
  rw [hz]

set_option maxHeartbeats 1000000 in
theorem same_any (a a' : Option Addr) (c c' : Nat) (L M : List Int) (w : World) (hL : Reads w a L) (hM : Reads w a' M) (hn : (L.length : Int) ≤ 9223372036854775807) :
    Calls Try.prog 9 #[.slice a L.length c, .slice a' M.length c'] w fun e w' => e = .returned (.bool (decide (L = M))) ∧ Below w.heap.size w w' := by
  by_cases hl : L.length = M.length
  · have HL := Lib.hid hL; have HM := Lib.hid hM; clear hL hM
    obtain ⟨r, hr⟩ : ∃ r, r = decide (L = M) := ⟨_, rfl⟩
    rw [← hr]
    have HR := Lib.hid hr; clear hr
    rw [← hl]
    have HE := Lib.hid hl; clear hl
    go_enter Try.func9, Try.ntmps9
    go_wp2_with fail
    go_loopw [5] (fun i wr => ∃ k : Nat, k ≤ L.length ∧ i = .int .i64 (k : Int) ∧ L.take k = M.take k ∧ Below w.heap.size w wr) (fun i _ => L.length - (intOf i).toNat)
    case atStart => exact ⟨0, Nat.zero_le _, rfl, by simp, Below.refl _ _⟩
    case round =>
      obtain ⟨k, hk, rfl, hok, hb⟩ := hrel
      by_cases hlt : k < L.length
      · obtain ⟨b, off, rfl, hc⟩ := (HL.out.below hb).2 k hlt
        obtain ⟨b', off', rfl, hc'⟩ := (HM.out.below hb).2 k (by have := HE.out; omega)
        have i0 : (0 : Int) ≤ (k : Int) := by omega
        have i1 : (k : Int) < (L.length : Int) := by omega
        have HK := Lib.hid (take_eq_step (M := M) hlt (by have := HE.out; omega) hok); clear hok
        have HZ : Hid (L.getD k 0 ≠ M.getD k 0 → L ≠ M) := fun q e => q (by rw [e])
        generalize L.getD k 0 = z at *
        generalize M.getD k 0 = y at *
        by_cases hs : z = y
        · subst hs
          go_wp2_with fail
          go_quiet (fail)
          go_wp2_with fail
          go_roundw
          · exact ⟨k + 1, by omega, by go_num, HK.out (by trivial), below_drewN hb _⟩
          · simp [intOf]; omega
        · have he : (z == y) = false := by simpa using hs
          have he' : (z != y) = true := by simpa using hs
          have hr : r = false := by rw [HR.out]; exact decide_eq_false (HZ.out hs)
          subst hr
          clear hs
          go_wp2_with fail
          go_quiet (fail)
          go_wp2_with fail
          go_ret
          exact ⟨rfl, below_drewN hb _⟩
      · obtain rfl : k = L.length := by omega
        rw [List.take_length, HE.out, List.take_length] at hok
        have hr : r = true := by rw [HR.out]; exact decide_eq_true hok
        subst hr
        clear hok
        have hd0 : decide ((L.length : Int) < (L.length : Int)) = false := decide_eq_false (by omega)
        go_wp2_with fail
        go_ret
        exact ⟨rfl, hb⟩
  · have hr : decide (L = M) = false := decide_eq_false fun e => hl (by rw [e])
    rw [hr]
    have hne : ((L.length : Int) != (M.length : Int)) = true := by simp; omega
    clear hr hL hM
    go_enter Try.func9, Try.ntmps9
    go_wp2_with fail
    go_ret
    exact ⟨rfl, Below.refl _ _⟩
end Go.Proofs.Ytadbelkckeokjaa
