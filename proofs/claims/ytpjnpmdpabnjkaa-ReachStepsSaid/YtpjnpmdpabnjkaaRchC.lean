/-
  The landed package's list of the nodes that are reached. The condition: no more than 20000 steps.
-/
import Derived.Test.YtpjnpmdpabnjkaaRchB
namespace Go.Proofs.Ytpjnpmdpabnjkaa
open Go.RowKit
set_option linter.unusedSimpArgs false
set_option linter.unusedVariables false

set_option maxHeartbeats 1000000 in
theorem found_w (a : Option Addr) (c : Nat) (S : List Int) (w : World) (hr : Reads w a S) (hn : S.length ≤ 20000) :
    Calls Try.prog 24 #[.slice a S.length c] w fun e w' => ∃ u, e = .returned u ∧ Own w' w.heap.size u (fnd S) ∧ Below w.heap.size w w' := by
  have HR := Lib.hid hr
  clear hr
  go_enter Try.func24, Try.ntmps24
  go_wp2_with fail
  go_loopw [3, 8] (fun l i wr => ∃ k : Nat, k ≤ S.length ∧ i = .int .i64 (k : Int) ∧ Own wr w.heap.size l (fndk S k) ∧ Below w.heap.size w wr) (fun _ i _ => S.length - (RowKit.intOf i).toNat)
  case atStart => exact ⟨0, Nat.zero_le _, rfl, Own.nil _ _, Below.refl _ _⟩
  case round =>
    obtain ⟨k, hk, rfl, hown, hb⟩ := hrel
    by_cases hlt : k < S.length
    · obtain ⟨b, off, rfl, hc⟩ := HR.out.2 k hlt
      have hc := (hb.cell (World.block_lt_of_cell? _ _ hc)).trans hc
      have i0 : (0 : Int) ≤ (k : Int) := by omega
      have i1 : (k : Int) < (S.length : Int) := by omega
      have hst := fndk_step S k
      have hle := fndk_len S k
      have hsz := hb.size
      generalize S.getD k 0 = z at *
      have HO := Lib.hid hown; have HB := Lib.hid hb
      clear hown hb
      by_cases hz : z = -1
      · have dz : (z == -1) = true := by simpa using hz
        rw [if_pos hz] at hst
        have HST := Lib.hid hst
        clear hst hz
        go_wp2_with fail
        go_roundw
        · exact ⟨k + 1, by omega, by go_num, by rw [HST.out]; exact HO.out, HB.out⟩
        · simp [RowKit.intOf]; omega
      · have dz : (z == -1) = false := by simpa using hz
        rw [if_neg hz] at hst
        have HST := Lib.hid hst
        clear hst hz
        go_wp2_with
          (at_builtin
           refine wp_push wr rfl (.tmp 15) (.tmp 17) rfl w.heap.size _ (fndk S k) (k : Int) rfl HO.out rfl (by omega) hsz ?_
           intro v4 w4 o4 b4
           have O4 := Lib.hid o4; have B4 := Lib.hid (HB.out.trans b4)
           clear o4 b4)
        go_roundw
        · exact ⟨k + 1, by omega, by go_num, by rw [HST.out]; exact O4.out, B4.out⟩
        · simp [RowKit.intOf]; omega
    · obtain rfl : k = S.length := by omega
      have hd0 : decide ((S.length : Int) < (S.length : Int)) = false := decide_eq_false (by omega)
      have HO := Lib.hid hown; have HB := Lib.hid hb
      clear hown hb
      go_wp2_with fail
      go_ret
      exact ⟨_, rfl, HO.out, HB.out⟩
end Go.Proofs.Ytpjnpmdpabnjkaa
