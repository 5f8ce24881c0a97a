/-
  The document's Check of layer 18. The condition: a row of at most 1000000.
-/
import Derived.Test.YtebjmnppeohdiaaStkD
import Derived.Deep.QuietTactic
import Derived.BigQuiet
import Derived.WalkSmall
import Derived.Deep.DeepCutAuto
import Derived.Deep.RegionHeld3
namespace Go.Proofs.Ytebjmnppeohdiaa
open Go.RowKit
set_option linter.unusedSimpArgs false
set_option linter.unusedVariables false

set_option maxHeartbeats 2000000 in
set_option maxRecDepth 100000 in
theorem r18check (a : Option Addr) (c : Nat) (L : List K4) (n : Int) (w : World) (hL : RdQ w a L) (hn : L.length ≤ 1000000) (hc : L.length ≤ c) :
    Calls Try.prog 32 #[.slice a L.length c, .int .i64 n] w fun e w' => e = .returned (.tuple #[.int .i64 (chV L n), .int .i64 (chE L n)]) ∧ Below w.heap.size w w' := by
  by_cases h40 : 400 < L.length
  · have d1 : decide (400 < L.length) = true := decide_eq_true h40
    have d2 : decide ((400 : Int) < (L.length : Int)) = true := decide_eq_true (by omega)
    rw [show chV L n = 0 from if_pos h40, show chE L n = 3 from if_pos h40]
    clear hL
    go_enter Try.func32, Try.ntmps32
    go_wp2_with fail
    go_ret2
    exact ⟨rfl, Below.refl _ _⟩
  · have d1 : decide (400 < L.length) = false := decide_eq_false h40
    have d2 : decide ((400 : Int) < (L.length : Int)) = false := decide_eq_false (by omega)
    have hV : Hid (chV L n = (fst18 L n : Int) ∧ chE L n = if fst18 L n < L.length then nxe (L.take (fst18 L n)) (L.getD (fst18 L n) z4) n else 0) := ⟨if_neg h40, if_neg h40⟩
    have HL := Lib.hid hL; clear hL
    go_enter Try.func32, Try.ntmps32
    go_wp2_with fail
    clear d1 d2 h40
    go_loopw [6] (fun i wr => ∃ k : Nat, k ≤ L.length ∧ i = .int .i64 (k : Int) ∧ (∀ j, j < k → nxe (L.take j) (L.getD j z4) n = 0) ∧ Below w.heap.size w wr) (fun i _ => L.length - (RowKit.intOf i).toNat)
    case atStart => exact ⟨0, Nat.zero_le _, rfl, fun j hj => by omega, Below.refl _ _⟩
    case round =>
      obtain ⟨k, hk, rfl, hok, hb⟩ := hrel
      have HK := Lib.hid hok; clear hok
      by_cases hlt : k < L.length
      · obtain ⟨b, off, rfl, -⟩ := HL.out.2 k hlt
        have i0 : (0 : Int) ≤ (k : Int) := by omega
        have i1 : (k : Int) < (L.length : Int) := by omega
        have e1 : wrap64 ((k : Int) + 1) = (k : Int) + 1 := by unfold wrap64; omega
        have j0 : (0 : Int) ≤ (k : Int) + 1 := by omega
        have j1 : k + 1 ≤ c := by omega
        have j2 : (k : Int) + 1 ≤ (c : Int) := by omega
        have hla := r18last (some ⟨b, off, none⟩) c (L.take (k + 1)) k n wr ((HL.out.below hb).take (k + 1)) (by rw [List.length_take]; omega) (by rw [List.length_take]; omega)
        have e2 : (L.take (k + 1)).length = k + 1 := by rw [List.length_take]; omega
        have e3 : (L.take (k + 1)).take k = L.take k := by rw [List.take_take]; congr 1; omega
        have e4 : (L.take (k + 1)).getD k z4 = L.getD k z4 := by rw [get4 (by omega), get4 hlt, List.getElem_take]
        rw [e2, e3, e4] at hla
        have HB := Lib.hid hb
        have HLT := Lib.hid hlt
        obtain ⟨x, hx⟩ : ∃ x, x = nxe (L.take k) (L.getD k z4) n := ⟨_, rfl⟩
        rw [← hx] at hla
        have HX := Lib.hid hx
        clear hx hb e2 e3 e4
        by_cases h0 : x = 0
        · subst h0
          go_wp2_with fail
          refine hla.mono ?_; clear hla; rintro e w4 ⟨rfl, hb4⟩
          have HB4 : Hid (Below w.heap.size w w4) := HB.out.trans (hb4.mono HB.out.size)
          clear hb4
          go_wp2_with fail
          go_roundw
          · exact ⟨k + 1, by omega, by go_num, fun j hj => by
              rcases Nat.lt_or_ge j k with q | q
              · exact HK.out j q
              · rw [show j = k by omega]; exact HX.out.symm, HB4.out⟩
          · simp [RowKit.intOf]; omega
        · have e0 : (x != 0) = true := by simpa using h0
          have hk2 : Hid (fst18 L n = k) := fst18_is hk HK.out (Or.inr (fun q => h0 (HX.out.trans q)))
          clear h0
          go_wp2_with fail
          refine hla.mono ?_; clear hla; rintro e w4 ⟨rfl, hb4⟩
          have HB4 : Hid (Below w.heap.size w w4) := HB.out.trans (hb4.mono HB.out.size)
          clear hb4
          go_wp2_with fail
          go_ret2
          exact ⟨by rw [hV.out.1, hV.out.2, hk2.out, if_pos HLT.out, HX.out] <;> rfl, HB4.out⟩
      · obtain rfl : k = L.length := by omega
        have hk2 : Hid (fst18 L n = L.length) := fst18_is (Nat.le_refl _) HK.out (Or.inl rfl)
        have hd0 : decide ((L.length : Int) < (L.length : Int)) = false := decide_eq_false (by omega)
        have HB := Lib.hid hb; clear hb
        go_wp2_with fail
        go_ret2
        exact ⟨by rw [hV.out.1, hV.out.2, hk2.out, if_neg (Nat.lt_irrefl _)] <;> rfl, HB.out⟩

end Go.Proofs.Ytebjmnppeohdiaa
