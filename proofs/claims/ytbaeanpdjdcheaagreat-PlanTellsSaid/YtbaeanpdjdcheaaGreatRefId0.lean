/-
  What the document's own Rising (gavelkindref11) answers, for whatever row. The condition: at most 4 * 10^8 numbers.
-/
import Derived.Test.YtbaeanpdjdcheaaGreatRefIc
namespace Go.Proofs.YtbaeanpdjdcheaaGreat
open Go.RowKit
set_option linter.unusedSimpArgs false
set_option linter.unusedVariables false

theorem rise_take {L : List Int} {k : Nat} (h : k < L.length) : rise (L.take (k + 1)) = wth (rise (L.take k)) (L.getD k 0) := by
  unfold rise
  rw [List.take_succ_eq_append_getElem h, List.foldl_append, getD_lt _ _ h]
  rfl
theorem rise_in : ∀ (L M : List Int), (∀ z ∈ L, InR z) → (∀ z ∈ M, InR z) → ∀ z ∈ L.foldl wth M, InR z
  | [], M, _, hM => hM
  | x :: L, M, hL, hM => rise_in L (wth M x) (fun z hz => hL z (by simp [hz])) (wth_in x (hL x (by simp)) M hM)
theorem rise_len : ∀ (L M : List Int), (L.foldl wth M).length ≤ M.length + L.length
  | [], M => by simp
  | x :: L, M => by
    have h1 := rise_len L (wth M x)
    have h2 := wth_len x M
    simp only [List.foldl_cons, List.length_cons]
    omega

set_option maxHeartbeats 1000000 in
theorem r11rise (a : Option Addr) (c : Nat) (L : List Int) (w : World) (hL : Reads w a L) (hl : L.length ≤ 400000000) :
    Calls Tryz.prog 66 #[.slice a L.length c] w fun e w' => ∃ u, e = .returned u ∧ Sl w' u (rise L) ∧ Below w.heap.size w w' := by
  have HL := Lib.hid hL; clear hL
  go_enter Tryz.func66, Tryz.ntmps66
  go_wp2_with fail
  go_loopw [3, 4] (fun v i wr => ∃ k : Nat, k ≤ L.length ∧ i = .int .i64 (k : Int) ∧ Sl wr v (rise (L.take k)) ∧ Below w.heap.size w wr) (fun _ i _ => L.length - (intOf i).toNat)
  case atStart => exact ⟨0, Nat.zero_le _, rfl, ⟨none, 0, rfl, Nat.zero_le _, fun _ => rfl, fun z hz => by (cases hz), fun i hi => by (cases hi)⟩, Below.refl _ _⟩
  case round =>
    obtain ⟨k, hk, rfl, hs, hb⟩ := hrel
    by_cases hlt : k < L.length
    · obtain ⟨b, off, rfl, hc⟩ := (HL.out.below hb).2 k hlt
      have i0 : (0 : Int) ≤ (k : Int) := by omega
      have i1 : (k : Int) < (L.length : Int) := by omega
      have HM := Lib.hid (rise_take hlt)
      have hlen : (rise (L.take k)).length ≤ 900000000 := by
        have := rise_len (L.take k) []
        rw [List.length_take] at this
        unfold rise
        simp at this ⊢; omega
      have hw := fun w1 (h : Sl w1 u3 (rise (L.take k))) => r11with u3 (rise (L.take k)) (L.getD k 0) w1 h (HL.out.at k hlt) hlen
      clear hlen
      generalize L.getD k 0 = z at *
      generalize rise (L.take k) = R at *
      have HS := Lib.hid hs; clear hs
      go_wp2_with fail
      refine (hw _ HS.out).mono ?_; rintro e w1 ⟨u, rfl, hu, hb1⟩
      replace hb := hb.trans (hb1.mono hb.size)
      have HU := Lib.hid hu; clear hu hw
      go_wp2_with fail
      go_roundw
      · exact ⟨k + 1, by omega, by go_num, by rw [HM.out]; exact HU.out, hb⟩
      · simp [intOf]; omega
    · obtain rfl : k = L.length := by omega
      rw [List.take_length] at hs
      have hd0 : decide ((L.length : Int) < (L.length : Int)) = false := decide_eq_false (by omega)
      have HS := Lib.hid hs; clear hs
      go_wp2_with fail
      go_ret
      exact ⟨_, rfl, HS.out, hb⟩

end Go.Proofs.YtbaeanpdjdcheaaGreat
