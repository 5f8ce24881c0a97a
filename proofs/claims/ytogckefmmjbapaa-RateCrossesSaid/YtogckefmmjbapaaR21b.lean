/-
  What the document's own Check and Same (gavelkindref21) answer. The condition: a row of at most 1000000.
-/
import Derived.Test.YtogckefmmjbapaaR21a
import Derived.Deep.QuietTactic
import Derived.BigQuiet
import Derived.WalkSmall
namespace Go.Proofs.Ytogckefmmjbapaa
open Go.RowKit
set_option linter.unusedSimpArgs false
set_option linter.unusedVariables false

set_option maxHeartbeats 4000000 in
set_option maxRecDepth 100000 in
theorem r21check (a : Option Addr) (c : Nat) (L : List RtT) (w : World) (hL : RdR w a L) (hn : L.length ≤ 1000000) :
    Calls Try.prog 8 #[.slice a L.length c] w fun e w' => e = .returned (.tuple #[.int .i64 (rkV L), .int .i64 (rkE L)]) ∧ Below w.heap.size w w' := by
  by_cases hbig : 2000 < L.length
  · have d1 : decide ((2000 : Int) < (L.length : Int)) = true := decide_eq_true (by omega)
    have d2 : decide (2000 < L.length) = true := decide_eq_true hbig
    rw [show rkV L = 0 from if_pos hbig, show rkE L = 3 from if_pos hbig]
    clear hL
    go_enter Try.func8, Try.ntmps8
    go_wp2_with fail
    go_ret2
    exact ⟨rfl, Below.refl _ _⟩
  · have d1 : decide ((2000 : Int) < (L.length : Int)) = false := decide_eq_false (by omega)
    have d2 : decide (2000 < L.length) = false := decide_eq_false hbig
    have HV : Hid (rkV L = (bdR L : Int) ∧ rkE L = if bdR L < L.length then wrR (L.getD (bdR L) zR) else 0) := ⟨if_neg hbig, if_neg hbig⟩
    generalize rkV L = V at *
    generalize rkE L = E at *
    have HL := Lib.hid hL; clear hL
    have HN := Lib.hid hn
    go_enter Try.func8, Try.ntmps8
    go_wp2_with fail
    go_loopw [4] (fun i wr => ∃ k : Nat, k ≤ L.length ∧ i = .int .i64 (k : Int) ∧ (∀ j, j < k → wrR (L.getD j zR) = 0) ∧ Below w.heap.size w wr) (fun i _ => L.length - (RowKit.intOf i).toNat)
    case atStart => exact ⟨0, Nat.zero_le _, rfl, fun j hj => by omega, Below.refl _ _⟩
    case round =>
      clear d1 d2
      obtain ⟨k, hk, rfl, hj, hb⟩ := hrel
      by_cases hlt : k < L.length
      · obtain ⟨b, off, rfl, e0, e1, e2, e3, e4, e5⟩ := (HL.out.below hb).2 k hlt
        have i0 : (0 : Int) ≤ (k : Int) := by omega
        have i1 : (k : Int) < (L.length : Int) := by omega
        have g1 := wrapR hlt hn
        have HM := Lib.hid (And.intro (show k + 1 ≤ L.length from hlt) (measR hlt))
        have HJ : Hid (∀ z, wrR (L.getD k zR) = z → z = 0 → ∀ j, j < k + 1 → wrR (L.getD j zR) = 0) := fun z e0 e1 j hjk => by
          rcases Nat.lt_or_ge j k with q | q
          · exact hj j q
          · rw [show j = k by omega, e0, e1]
        have HE : Hid (∀ z, wrR (L.getD k zR) = z → z ≠ 0 → V = (k : Int) ∧ E = z) := fun z e0 e1 => by
          have hbd : bdR L = k := bdR_is hk hj (Or.inr (by rw [e0]; exact e1))
          rw [HV.out.1, HV.out.2, hbd, if_pos hlt, e0]; exact ⟨rfl, rfl⟩
        have hw := r21may (L.getD k zR).1 (L.getD k zR).2.1 (L.getD k zR).2.2.1 (L.getD k zR).2.2.2.1 (L.getD k zR).2.2.2.2.1 (L.getD k zR).2.2.2.2.2
        have HZ : Hid (∃ z, wrR (L.getD k zR) = z ∧ wrR ((L.getD k zR).1, (L.getD k zR).2.1, (L.getD k zR).2.2.1, (L.getD k zR).2.2.2.1, (L.getD k zR).2.2.2.2.1, (L.getD k zR).2.2.2.2.2) = z) := ⟨_, rfl, rfl⟩
        obtain ⟨z, z1, z2⟩ := HZ.out
        rw [z2] at hw
        have HZ1 := Lib.hid z1
        generalize L.getD k zR = s at *
        obtain ⟨a, b', c', d, n, m⟩ := s
        dsimp only at e0 e1 e2 e3 e4 e5 hw
        have HB := Lib.hid hb
        clear hj hb hk hlt z1 z2 hn hbig HZ
        go_wp2_with fail
        refine (hw _).mono ?_; clear hw; rintro e w1 ⟨rfl, hb1⟩
        have HB1 := Lib.hid (HB.out.trans (hb1.mono HB.out.size))
        clear hb1 e0 e1 e2 e3 e4 e5
        by_cases hz : z = 0
        · have dz : (z != 0) = false := by simpa using hz
          have HJ2 := Lib.hid (HJ.out z HZ1.out hz)
          clear hz
          go_wp2_with fail
          go_roundw
          · exact ⟨k + 1, HM.out.1, by go_num, HJ2.out, HB1.out⟩
          · first | exact HM.out.2 | (rw [g1]; exact HM.out.2)
        · have dz : (z != 0) = true := by simpa using hz
          obtain ⟨v1, v2⟩ := HE.out z HZ1.out hz
          subst v1; subst v2
          clear hz
          go_wp2_with fail
          go_ret2
          exact ⟨rfl, HB1.out⟩
      · obtain rfl : k = L.length := by omega
        have hbd : bdR L = L.length := bdR_is (Nat.le_refl _) hj (Or.inl rfl)
        have v1 : V = (L.length : Int) := by rw [HV.out.1, hbd]
        have v2 : E = 0 := by rw [HV.out.2, hbd, if_neg (Nat.lt_irrefl _)]
        subst v1; subst v2
        have HB := Lib.hid hb
        clear hj hb hlt hbd
        go_wp2_with fail
        go_ret2
        exact ⟨rfl, HB.out⟩
theorem take_eqR {L M : List RtT} {k : Nat} (h : k < L.length) (h' : k < M.length) (ht : L.take k = M.take k) (e : L.getD k zR = M.getD k zR) : L.take (k + 1) = M.take (k + 1) := by rw [takeR h, takeR h', ht, e]
set_option maxHeartbeats 4000000 in
set_option maxRecDepth 100000 in
theorem r21same (a a' : Option Addr) (c c' : Nat) (L M : List RtT) (w : World) (hL : RdR w a L) (hM : RdR w a' M) (hn : L.length ≤ 1000000) :
    Calls Try.prog 11 #[.slice a L.length c, .slice a' M.length c'] w fun e w' => e = .returned (.bool (decide (L = M))) ∧ Below w.heap.size w w' := by
  by_cases hl : L.length = M.length
  · have HL := Lib.hid hL; have HM := Lib.hid hM; clear hL hM
    obtain ⟨r, hr⟩ : ∃ r, r = decide (L = M) := ⟨_, rfl⟩
    rw [← hr]
    have HR := Lib.hid hr; clear hr
    rw [← hl]
    have HE := Lib.hid hl; clear hl
    go_enter Try.func11, Try.ntmps11
    go_wp2_with fail
    go_loopw [5] (fun i wr => ∃ k : Nat, k ≤ L.length ∧ i = .int .i64 (k : Int) ∧ L.take k = M.take k ∧ Below w.heap.size w wr) (fun i _ => L.length - (RowKit.intOf i).toNat)
    case atStart => exact ⟨0, Nat.zero_le _, rfl, by simp, Below.refl _ _⟩
    case round =>
      obtain ⟨k, hk, rfl, hok, hb⟩ := hrel
      by_cases hlt : k < L.length
      · obtain ⟨b, off, rfl, c0, c1, c2, c3, c4, c5⟩ := (HL.out.below hb).2 k hlt
        obtain ⟨b', off', rfl, c0', c1', c2', c3', c4', c5'⟩ := (HM.out.below hb).2 k (by have := HE.out; omega)
        have i0 : (0 : Int) ≤ (k : Int) := by omega
        have i1 : (k : Int) < (L.length : Int) := by omega
        have g1 := wrapR hlt hn
        have HMS := Lib.hid (And.intro (show k + 1 ≤ L.length from hlt) (measR hlt))
        have HK : Hid (L.getD k zR = M.getD k zR → L.take (k + 1) = M.take (k + 1)) := fun e => take_eqR hlt (by have := HE.out; omega) hok e
        have HZ : Hid (L.getD k zR ≠ M.getD k zR → L ≠ M) := fun q e => q (by rw [e])
        generalize L.getD k zR = s at *
        generalize M.getD k zR = t at *
        have hes := fun wx => eq_rate s t wx
        have HB := Lib.hid hb; clear hb hok hlt hk
        by_cases hs : s = t
        · rw [decide_eq_true hs] at hes
          have HS := Lib.hid hs; clear hs
          go_wp2_with fail
          go_quiet (fail)
          go_wp2_with fail
          go_roundw
          · exact ⟨k + 1, HMS.out.1, by go_num, HK.out HS.out, below_drewN HB.out _⟩
          · first | exact HMS.out.2 | (rw [g1]; exact HMS.out.2)
        · rw [decide_eq_false hs] at hes
          have hr : r = false := by rw [HR.out]; exact decide_eq_false (HZ.out hs)
          subst hr
          clear hs
          go_wp2_with fail
          go_quiet (fail)
          go_wp2_with fail
          go_ret
          exact ⟨rfl, below_drewN HB.out _⟩
      · obtain rfl : k = L.length := by omega
        rw [List.take_length, HE.out, List.take_length] at hok
        have hr : r = true := by rw [HR.out]; exact decide_eq_true hok
        subst hr
        clear hok
        have hd0 : decide ((L.length : Int) < (L.length : Int)) = false := decide_eq_false (by omega)
        have HB := Lib.hid hb; clear hb
        go_wp2_with fail
        go_ret
        exact ⟨rfl, HB.out⟩
  · have hr : decide (L = M) = false := decide_eq_false fun e => hl (by rw [e])
    rw [hr]
    have hne : ((L.length : Int) != (M.length : Int)) = true := by simp; omega
    clear hr hL hM
    go_enter Try.func11, Try.ntmps11
    go_wp2_with fail
    go_ret
    exact ⟨rfl, Below.refl _ _⟩
end Go.Proofs.Ytogckefmmjbapaa
