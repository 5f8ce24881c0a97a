/-
  What the landed Check of rates answers. The condition: a row of at most 1000000.
-/
import Derived.Test.YtogckefmmjbapaaRtB
namespace Go.Proofs.Ytogckefmmjbapaa
open Go.RowKit
set_option linter.unusedSimpArgs false
set_option linter.unusedVariables false

/-- A counter goes up by one. -/
theorem wrapR {k N : Nat} (h : k < N) (hN : N ≤ 1000000) : wrap64 ((k : Int) + 1) = (k : Int) + 1 := by unfold wrap64; omega
theorem measR {k N : Nat} (h : k < N) : N - (RowKit.intOf (.int .i64 ((k : Int) + 1))).toNat < N - (RowKit.intOf (.int .i64 (k : Int))).toNat := by simp [RowKit.intOf]; omega
set_option maxHeartbeats 4000000 in
set_option maxRecDepth 100000 in
theorem check_r (a : Option Addr) (c : Nat) (L : List RtT) (w : World) (hL : RdR w a L) (hn : L.length ≤ 1000000) :
    Calls Try.prog 7 #[.slice a L.length c] w fun e w' => e = .returned (.tuple #[.int .i64 (rkV L), .int .i64 (rkE L)]) ∧ Below w.heap.size w w' := by
  by_cases hbig : 2000 < L.length
  · have d1 : decide ((2000 : Int) < (L.length : Int)) = true := decide_eq_true (by omega)
    have d2 : decide (2000 < L.length) = true := decide_eq_true hbig
    rw [show rkV L = 0 from if_pos hbig, show rkE L = 3 from if_pos hbig]
    clear hL
    go_enter Try.func7, Try.ntmps7
    go_wp2_with fail
    go_ret2
    exact ⟨rfl, Below.refl _ _⟩
  · have d1 : decide ((2000 : Int) < (L.length : Int)) = false := decide_eq_false (by omega)
    have d2 : decide (2000 < L.length) = false := decide_eq_false hbig
    have HV : Hid (rkV L = (bdR L : Int) ∧ rkE L = if bdR L < L.length then wrR (L.getD (bdR L) zR) else 0) := ⟨if_neg hbig, if_neg hbig⟩
    generalize rkV L = V at *
    generalize rkE L = E at *
    have HL := Lib.hid hL; clear hL
    have HN := Lib.hid hn
    go_enter Try.func7, Try.ntmps7
    go_wp2_with fail
    go_loopw [12] (fun i wr => ∃ k : Nat, k ≤ L.length ∧ i = .int .i64 (k : Int) ∧ (∀ j, j < k → wrR (L.getD j zR) = 0) ∧ Below w.heap.size w wr) (fun i _ => L.length - (RowKit.intOf i).toNat)
    case atStart => exact ⟨0, Nat.zero_le _, rfl, fun j hj => by omega, Below.refl _ _⟩
    case round =>
      clear d1 d2
      obtain ⟨k, hk, rfl, hj, hb⟩ := hrel
      by_cases hlt : k < L.length
      · obtain ⟨b, off, rfl, e0, e1, e2, e3, e4, e5⟩ := (HL.out.below hb).2 k hlt
        have i0 : (0 : Int) ≤ (k : Int) := by omega
        have i1 : (k : Int) < (L.length : Int) := by omega
        have g1 := wrapR hlt hn
        have HM := Lib.hid (And.intro (show k + 1 ≤ L.length from hlt) (measR hlt))
        have HJ : Hid (∀ z, wrR (L.getD k zR) = z → z = 0 → ∀ j, j < k + 1 → wrR (L.getD j zR) = 0) := fun z e0 e1 j hjk => by
          rcases Nat.lt_or_ge j k with q | q
          · exact hj j q
          · rw [show j = k by omega, e0, e1]
        have HE : Hid (∀ z, wrR (L.getD k zR) = z → z ≠ 0 → V = (k : Int) ∧ E = z) := fun z e0 e1 => by
          have hbd : bdR L = k := bdR_is hk hj (Or.inr (by rw [e0]; exact e1))
          rw [HV.out.1, HV.out.2, hbd, if_pos hlt, e0]; exact ⟨rfl, rfl⟩
        have hw := wrong_r (L.getD k zR).1 (L.getD k zR).2.1 (L.getD k zR).2.2.1 (L.getD k zR).2.2.2.1 (L.getD k zR).2.2.2.2.1 (L.getD k zR).2.2.2.2.2
        have HZ : Hid (∃ z, wrR (L.getD k zR) = z ∧ wrR ((L.getD k zR).1, (L.getD k zR).2.1, (L.getD k zR).2.2.1, (L.getD k zR).2.2.2.1, (L.getD k zR).2.2.2.2.1, (L.getD k zR).2.2.2.2.2) = z) := ⟨_, rfl, rfl⟩
        obtain ⟨z, z1, z2⟩ := HZ.out
        rw [z2] at hw
        have HZ1 := Lib.hid z1
        generalize L.getD k zR = s at *
        obtain ⟨a, b', c', d, n, m⟩ := s
        dsimp only at e0 e1 e2 e3 e4 e5 hw
        have HO := Lib.hid (Ow6.new' wr a b' c' d n m)
        have HB := Lib.hid (hb.trans ((below1 wr (objL a b' c' d n m)).mono hb.size))
        obtain ⟨c0, c1, c2, c3, c4, c5⟩ := HO.out.letters
        clear hj hb hk hlt z1 z2 hn hbig HZ
        go_wp2_with fail
        refine (hw _).mono ?_; clear hw; rintro e w1 ⟨rfl, hb1⟩
        have HB1 := Lib.hid (HB.out.trans (hb1.mono HB.out.size))
        clear hb1 c0 c1 c2 c3 c4 c5 e0 e1 e2 e3 e4 e5
        by_cases hz : z = 0
        · have dz : (z != 0) = false := by simpa using hz
          have HJ2 := Lib.hid (HJ.out z HZ1.out hz)
          clear hz
          go_wp2_with fail
          go_roundw
          · exact ⟨k + 1, HM.out.1, by go_num, HJ2.out, HB1.out⟩
          · first | exact HM.out.2 | (rw [g1]; exact HM.out.2)
        · have dz : (z != 0) = true := by simpa using hz
          obtain ⟨v1, v2⟩ := HE.out z HZ1.out hz
          subst v1; subst v2
          clear hz
          go_wp2_with fail
          go_ret2
          exact ⟨rfl, HB1.out⟩
      · obtain rfl : k = L.length := by omega
        have hbd : bdR L = L.length := bdR_is (Nat.le_refl _) hj (Or.inl rfl)
        have v1 : V = (L.length : Int) := by rw [HV.out.1, hbd]
        have v2 : E = 0 := by rw [HV.out.2, hbd, if_neg (Nat.lt_irrefl _)]
        subst v1; subst v2
        have HB := Lib.hid hb
        clear hj hb hlt hbd
        go_wp2_with fail
        go_ret2
        exact ⟨rfl, HB.out⟩
end Go.Proofs.Ytogckefmmjbapaa
