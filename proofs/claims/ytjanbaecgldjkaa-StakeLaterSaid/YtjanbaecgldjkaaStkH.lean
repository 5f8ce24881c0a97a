/-
  Whether an entity comes back to itself: what the landed code answers of its holding. The conditions: the holding's rows, at most 100000 stakes.
-/
import Derived.Test.YtjanbaecgldjkaaStkB
import Derived.Test.YtjanbaecgldjkaaStkF
import Derived.Deep.DeepCutAuto
namespace Go.Proofs.Ytjanbaecgldjkaa
open Go.RowKit Go.Maps
set_option linter.unusedSimpArgs false
set_option linter.unusedVariables false

theorem ofE_ok {L : List K4} (hL : ∀ s ∈ L, ok4 s) (x : Int) : ∀ s ∈ ofE L x, ok4 s := fun s hs => hL s (mem_ofE.1 hs).1
theorem wrap_up {k : Nat} (h : k < 100000) : wrap64 ((k : Int) + 1) = (k : Int) + 1 := by unfold wrap64; omega
theorem upv_ofE (L : List K4) (x p : Int) : upv (ofE L x) x p = upv L x p ∧ shv (ofE L x) x p = shv L x p := by unfold upv shv; rw [hel_ofE]; exact ⟨rfl, rfl⟩
set_option maxHeartbeats 4000000 in
set_option maxRecDepth 100000 in
theorem goes_h {w : World} {base hb : Nat} {L : List K4} (h : HoR w base hb L) (hL : ∀ t ∈ L, ok4 t) (hn : L.length ≤ 100000) (x : Int) (hx : x ≠ 0) (hxi : InR x) :
    Calls Try.prog 31 #[.map (some hb), .int .i64 x] w fun e w' => e = .returned (.bool (goes L x)) ∧ Below w.heap.size w w' := by
  obtain ⟨f, h⟩ := h
  have HLEN : Hid (∀ X, Below w.heap.size w X → ∀ ty, (Builtin.len_ #[54] ty #[.map (some hb)]).run Try.prog X = .ok (.int .i64 ((ents L).length : Int)) X) := fun X hX ty => (h.below hX).len hL ty
  have HLK : Hid (∀ X z, Below w.heap.size w X → InR z → ∃ a c, (Instr.lookup 54 (.map (some hb)) (.int .i64 z) false).run Try.prog X = .ok (.slice a (ofE L z).length c) X ∧ RdQ X a (ofE L z)) := fun X z hX hz => by
    have h1 := (h.below hX).mp.look1 kitS hz
    obtain ⟨a, c, hv, _, _, hr⟩ := ((h.below hX).row z hz).reads (ofE_ok hL z)
    rw [hv] at h1
    exact ⟨a, c, h1, hr⟩
  have HIN : Hid (∀ p z, InR (nx L p z)) := fun p z => by
    unfold nx
    split
    · exact zero_in
    · exact (hel_ok hL z p).2.1
  have HLE : Hid (∀ z, (ofE L z).length ≤ 1000000) := fun z => Nat.le_trans (List.length_filter_le _ _) (by omega)
  have HEN : Hid ((ents L).length ≤ 100000) := Nat.le_trans (ents_len L) hn
  have HX := Lib.hid (And.intro hx hxi)
  obtain ⟨r, hr⟩ : ∃ r, r = goes L x := ⟨_, rfl⟩
  rw [← hr]
  have HR := Lib.hid hr
  clear h hL hn hx hxi hr
  go_enter Try.func31, Try.ntmps31
  go_wp2_with fail
  go_step3
  go_wp2_with fail
  go_step3
  go_wp2_with fail
  go_loopw [7] (fun i wr => ∃ p : Nat, p ≤ 24 ∧ i = .int .i64 (p : Int) ∧ (∀ q : Nat, q < p → ¬ Back (nx L (q : Int)) x) ∧ Below w.heap.size w wr) (fun i _ => 24 - (RowKit.intOf i).toNat)
  case atStart => exact ⟨0, by omega, rfl, fun q hq => by omega, Below.refl _ _⟩
  case round =>
    obtain ⟨p, hp, rfl, hok, hb⟩ := hrel
    have HOK := Lib.hid hok; clear hok
    by_cases hlt : p < 24
    · have i0 : decide (p < 24) = true := decide_eq_true hlt
      have i1 : decide ((p : Int) < 24) = true := decide_eq_true (by omega)
      have e1 : wrap64 ((p : Int) + 1) = (p : Int) + 1 := by unfold wrap64; omega
      have hlen := HLEN.out wr hb
      have HB := Lib.hid hb
      have HLT := Lib.hid hlt
      generalize hM : (ents L).length = M at *
      have HM := Lib.hid hM
      clear hb hM
      go_wp2_with fail
      clear hlen
      have HRND : Hid (∀ w', Below w.heap.size w w' → ¬ Back (nx L (p : Int)) x → ∃ p' : Nat, p' ≤ 24 ∧ Value.int .i64 ((p : Int) + 1) = .int .i64 (p' : Int) ∧ (∀ q : Nat, q < p' → ¬ Back (nx L (q : Int)) x) ∧ Below w.heap.size w w') := fun w' h1 h2 => ⟨p + 1, HLT.out, by rw [show ((p + 1 : Nat) : Int) = (p : Int) + 1 by omega], fun q hq => by
        rcases Nat.lt_or_ge q p with q' | q'
        · exact HOK.out q q'
        · rw [show q = p by omega]; exact h2, h1⟩
      go_loopw [6, 13] (fun va i wy => ∃ k : Nat, k ≤ M ∧ i = .int .i64 (k : Int) ∧ va = .int .i64 (way (nx L (p : Int)) k x) ∧ (∀ j, 1 ≤ j → j ≤ k → way (nx L (p : Int)) j x ≠ 0 ∧ way (nx L (p : Int)) j x ≠ x) ∧ Below w.heap.size w wy) (fun _ i _ => M - (RowKit.intOf i).toNat)
      case atStart => exact ⟨0, Nat.zero_le _, rfl, rfl, fun j h1 h2 => by omega, HB.out⟩
      case round =>
        clear HB
        obtain ⟨k, hk, rfl, rfl, hway, hb⟩ := hrel
        have HWY := Lib.hid hway; clear hway
        by_cases hkm : k < M
        · have j0 : decide (k < M) = true := decide_eq_true hkm
          have j1 : decide ((k : Int) < (M : Int)) = true := decide_eq_true (by omega)
          have hkb : k < 100000 := Nat.lt_of_lt_of_le hkm HEN.out
          have e2 : wrap64 ((k : Int) + 1) = (k : Int) + 1 := wrap_up hkb
          have hz0 : way (nx L (p : Int)) k x ≠ 0 := by
            rcases Nat.eq_zero_or_pos k with q | q
            · subst q; exact HX.out.1
            · exact (HWY.out k q (Nat.le_refl _)).1
          have hzi : InR (way (nx L (p : Int)) k x) := by
            rcases Nat.eq_zero_or_pos k with q | q
            · subst q; exact HX.out.2
            · obtain ⟨i, rfl⟩ : ∃ i, k = i + 1 := ⟨k - 1, by omega⟩
              exact HIN.out _ _
          have HNX : Hid (way (nx L (p : Int)) (k + 1) x = upv L (way (nx L (p : Int)) k x) (p : Int)) := nx_ne hz0
          have HKM := Lib.hid hkm
          generalize way (nx L (p : Int)) k x = z at *
          obtain ⟨a, c, hlk, hrd⟩ := HLK.out _ z hb hzi
          have hat := at_s a c (ofE L z) z (p : Int) _ hrd (HLE.out z)
          rw [(upv_ofE L z (p : Int)).1, (upv_ofE L z (p : Int)).2, ← HNX.out] at hat
          have HB := Lib.hid hb
          have HST : Hid (∀ w', Below w.heap.size w w' → way (nx L (p : Int)) (k + 1) x ≠ 0 → way (nx L (p : Int)) (k + 1) x ≠ x → ∃ k' : Nat, k' ≤ M ∧ Value.int .i64 ((k : Int) + 1) = .int .i64 (k' : Int) ∧ Value.int .i64 (way (nx L (p : Int)) (k + 1) x) = .int .i64 (way (nx L (p : Int)) k' x) ∧ (∀ j, 1 ≤ j → j ≤ k' → way (nx L (p : Int)) j x ≠ 0 ∧ way (nx L (p : Int)) j x ≠ x) ∧ Below w.heap.size w w') := fun w' h1 h2 h3 =>
            ⟨k + 1, HKM.out, by rw [show ((k + 1 : Nat) : Int) = (k : Int) + 1 by omega], rfl, fun j q1 q2 => by
              rcases Nat.lt_or_ge j (k + 1) with r | r
              · exact HWY.out j q1 (by omega)
              · rw [show j = k + 1 by omega]; exact ⟨h2, h3⟩, h1⟩
          have HZ0 : Hid (way (nx L (p : Int)) (k + 1) x = 0 → ¬ Back (nx L (p : Int)) x) := by
            rintro h0 ⟨j, h1, h2⟩
            rcases Nat.lt_or_ge j (k + 1) with r | r
            · exact (HWY.out j h1 (by omega)).2 h2
            · rw [show j = (k + 1) + (j - (k + 1)) by omega, way_add, h0, way_zero (nx_zero L _)] at h2
              exact HX.out.1 h2.symm
          have HZX : Hid (way (nx L (p : Int)) (k + 1) x = x → r = true) := fun h0 => by
            rw [HR.out]; exact (goes_is HX.out.1).2 ⟨p, HLT.out, k + 1, by omega, h0⟩
          clear hb hrd hz0 hzi
          generalize way (nx L (p : Int)) (k + 1) x = y at *
          generalize shv L z (p : Int) = sh at *
          by_cases h0 : y = 0
          · have HNB : Hid (¬ Back (nx L (p : Int)) x) := HZ0.out h0
            subst h0
            go_wp2_with fail
            refine hat.mono ?_; clear hat; rintro e w4 ⟨rfl, hb4⟩
            have HB4 : Hid (Below w.heap.size w w4) := HB.out.trans (hb4.mono HB.out.size)
            clear hb4 hlk
            go_wp2_with fail
            go_roundw
            · exact HRND.out _ HB4.out HNB.out
            · have := HLT.out; simp [RowKit.intOf]; omega
          · have e0 : (y == 0) = false := by simpa using h0
            by_cases h1 : y = x
            · have HRV : Hid (r = true) := HZX.out h1
              subst h1
              clear h0
              go_wp2_with fail
              refine hat.mono ?_; clear hat; rintro e w4 ⟨rfl, hb4⟩
              have HB4 : Hid (Below w.heap.size w w4) := HB.out.trans (hb4.mono HB.out.size)
              clear hb4 hlk
              go_wp2_with fail
              try rw [Exit.noGoto_ret]
              go_ret
              exact ⟨by rw [HRV.out] <;> rfl, HB4.out⟩
            · have e3 : (y == x) = false := by simpa using h1
              have HN := Lib.hid (And.intro h0 h1)
              clear h0 h1
              go_wp2_with fail
              refine hat.mono ?_; clear hat; rintro e w4 ⟨rfl, hb4⟩
              have HB4 : Hid (Below w.heap.size w w4) := HB.out.trans (hb4.mono HB.out.size)
              clear hb4 hlk
              go_wp2_with fail
              go_roundw
              · (first | exact HST.out _ HB4.out HN.out.1 HN.out.2 | (rw [e2]; exact HST.out _ HB4.out HN.out.1 HN.out.2))
              · have := HKM.out; simp [RowKit.intOf]; omega
        · obtain rfl : k = M := by omega
          have HNB : Hid (¬ Back (nx L (p : Int)) x) := fun q => by
            obtain ⟨j, h1, h2, h3⟩ := (back_ents HX.out.1).1 q
            exact (HWY.out j h1 (by rw [HM.out] at h2; exact h2)).2 h3
          have HB := Lib.hid hb
          clear hb hkm
          go_wp2_with fail
          go_roundw
          · exact HRND.out _ HB.out HNB.out
          · have := HLT.out; simp [RowKit.intOf]; omega
    · obtain rfl : p = 24 := by omega
      have HRV : Hid (r = false) := by
        show _ = _
        rw [HR.out]
        cases e : goes L x with
        | false => rfl
        | true =>
          obtain ⟨k, h1, h2⟩ := (goes_is HX.out.1).1 e
          exact absurd h2 (HOK.out k h1)
      have HB := Lib.hid hb; clear hb
      go_wp2_with fail
      try rw [Exit.noGoto_ret]
      go_ret
      exact ⟨by rw [HRV.out] <;> rfl, HB.out⟩
end Go.Proofs.Ytjanbaecgldjkaa
