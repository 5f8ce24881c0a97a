/-
  What the document's own Has (gavelkindref01) answers, for whatever slices of numbers. No conditions besides.
-/
import Derived.Test.YteendpdidkekkaaRefHs0
import Derived.Deep.QuietTactic
import Derived.BigQuiet
import Derived.WalkSmall
namespace Go.Proofs.Yteendpdidkekkaa
open Go.RowKit
set_option linter.unusedSimpArgs false
set_option linter.unusedVariables false

set_option maxHeartbeats 1000000 in
theorem has_any (a : Option Addr) (c : Nat) (L : List Int) (v : Int) (w : World) (hL : Reads w a L) (hn : (L.length : Int) ≤ 9223372036854775807) :
    Calls Try.prog 27 #[.slice a L.length c, .int .i64 v] w fun e w' => e = .returned (.bool (decide (v ∈ L))) ∧ w = w' := by
  have HL := Lib.hid hL; clear hL
  obtain ⟨r, hr⟩ : ∃ r, r = decide (v ∈ L) := ⟨_, rfl⟩
  rw [← hr]
  have HR := Lib.hid hr; clear hr
  go_enter Try.func27, Try.ntmps27
  go_wp2_with fail
  go_loopw [5] (fun i wr => ∃ k : Nat, k ≤ L.length ∧ i = .int .i64 (k : Int) ∧ (∀ s ∈ L.take k, s ≠ v) ∧ w = wr) (fun i _ => L.length - (intOf i).toNat)
  case atStart => exact ⟨0, Nat.zero_le _, rfl, by simp, rfl⟩
  case round =>
    obtain ⟨k, hk, rfl, hok, rfl⟩ := hrel
    by_cases hlt : k < L.length
    · obtain ⟨b, off, rfl, hc⟩ := HL.out.2 k hlt
      have i0 : (0 : Int) ≤ (k : Int) := by omega
      have i1 : (k : Int) < (L.length : Int) := by omega
      have HM := Lib.hid (take_step hlt (· ≠ v))
      have HK := Lib.hid hok; clear hok
      have HZ : Hid (L.getD k 0 ∈ L) := by show _ ∈ _; rw [getD_lt _ _ hlt]; exact List.getElem_mem hlt
      generalize L.getD k 0 = z at *
      by_cases hs : z = v
      · subst hs
        have hr : r = true := by rw [HR.out]; exact decide_eq_true HZ.out
        subst hr
        go_wp2_with fail
        go_ret
        exact ⟨rfl, rfl⟩
      · have he : (z == v) = false := by simpa using hs
        have HS := Lib.hid hs; clear hs
        go_wp2_with fail
        go_roundw
        · exact ⟨k + 1, by omega, by go_num, HM.out.mpr ⟨HK.out, HS.out⟩, by first | rfl | trivial⟩
        · simp [intOf]; omega
    · obtain rfl : k = L.length := by omega
      rw [List.take_length] at hok
      have hr : r = false := by rw [HR.out]; exact decide_eq_false fun q => hok _ q rfl
      subst hr
      clear hok
      have hd0 : decide ((L.length : Int) < (L.length : Int)) = false := decide_eq_false (by omega)
      go_wp2_with fail
      go_ret
      exact ⟨rfl, rfl⟩

end Go.Proofs.Yteendpdidkekkaa
