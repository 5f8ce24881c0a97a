/-
  The document's Check of layer 20. The condition: at most 1000 accounts.
-/
import Derived.Test.YteendpdidkekkaaR20a
import Derived.Deep.QuietTactic
import Derived.BigQuiet
import Derived.WalkSmall
import Derived.Deep.DeepCutAuto
import Derived.Deep.RegionHeld3
namespace Go.Proofs.Yteendpdidkekkaa
open Go.RowKit
set_option linter.unusedSimpArgs false
set_option linter.unusedVariables false

set_option maxHeartbeats 8000000 in
set_option maxRecDepth 100000 in
theorem r20check (a : Option Addr) (c : Nat) (L : List AcT) (w : World) (hL : RdA w a L) (hn : L.length ≤ 1000) :
    Calls Try.prog 10 #[.slice a L.length c] w fun e w' => e = .returned (.tuple #[.int .i64 (ckV L), .int .i64 (ckE L)]) ∧ Below w.heap.size w w' := by
  obtain ⟨zv, hzv⟩ : ∃ zv, ckV L = zv := ⟨_, rfl⟩
  obtain ⟨ze, hze⟩ : ∃ ze, ckE L = ze := ⟨_, rfl⟩
  rw [hzv, hze]
  have HL := Lib.hid hL
  by_cases h60 : 60 < L.length
  · have d0 : decide ((60 : Int) < (L.length : Int)) = true := decide_eq_true (by omega)
    obtain ⟨q1, q2⟩ := ck_a h60
    have HZ : Hid (zv = 0 ∧ ze = 3) := ⟨hzv.symm.trans q1, hze.symm.trans q2⟩
    clear hL hzv hze q1 q2 h60
    go_enter Try.func10, Try.ntmps10
    go_wp2_with fail
    go_ret2
    exact ⟨by rw [HZ.out.1, HZ.out.2]; rfl, Below.refl _ _⟩
  · have d0 : decide ((60 : Int) < (L.length : Int)) = false := decide_eq_false (by omega)
    have hnw := r20new w
    have HB28 : Hid (bgO L = false → zv = 0 ∧ ze = 28) := fun q => by obtain ⟨q1, q2⟩ := ck_b h60 q; exact ⟨hzv.symm.trans q1, hze.symm.trans q2⟩
    have HOW : Hid (∀ w1 (b : Nat), OwnA w1 w.heap.size (.slice (some ⟨b, 0, none⟩) 3 3) ownL → w1.cell? ⟨b, 0, none⟩ = some (.int .i64 0) ∧ w1.cell? ⟨b, 1, none⟩ = some (.int .i64 1) ∧ w1.cell? ⟨b, 2, none⟩ = some (.bool true) ∧ w1.cell? ⟨b, 3, none⟩ = some (.bool false) ∧ w1.cell? ⟨b, 4, none⟩ = some (.int .i64 0) ∧ w1.cell? ⟨b, 5, none⟩ = some (.int .i64 1) ∧ w1.cell? ⟨b, 6, none⟩ = some (.bool false) ∧ w1.cell? ⟨b, 7, none⟩ = some (.bool false) ∧ w1.cell? ⟨b, 8, none⟩ = some (.int .i64 0) ∧ w1.cell? ⟨b, 9, none⟩ = some (.int .i64 1) ∧ w1.cell? ⟨b, 10, none⟩ = some (.bool false) ∧ w1.cell? ⟨b, 11, none⟩ = some (.bool false)) := fun w1 b ho => by
      refine ⟨?_, ?_, ?_, ?_, ?_, ?_, ?_, ?_, ?_, ?_, ?_, ?_⟩
      · exact World.ownsRow.cellAt ho 0 (by decide)
      · exact World.ownsRow.cellAt ho 1 (by decide)
      · exact World.ownsRow.cellAt ho 2 (by decide)
      · exact World.ownsRow.cellAt ho 3 (by decide)
      · exact World.ownsRow.cellAt ho 4 (by decide)
      · exact World.ownsRow.cellAt ho 5 (by decide)
      · exact World.ownsRow.cellAt ho 6 (by decide)
      · exact World.ownsRow.cellAt ho 7 (by decide)
      · exact World.ownsRow.cellAt ho 8 (by decide)
      · exact World.ownsRow.cellAt ho 9 (by decide)
      · exact World.ownsRow.cellAt ho 10 (by decide)
      · exact World.ownsRow.cellAt ho 11 (by decide)
    by_cases h3 : L.length < 3
    · have d1 : decide ((L.length : Int) < (3 : Int)) = true := decide_eq_true (by omega)
      have d1n : decide (L.length < 3) = true := decide_eq_true h3
      have HZ := Lib.hid (HB28.out (by unfold bgO; rw [decide_eq_false (by omega)]; rfl))
      clear HB28 hL hzv hze
      go_enter Try.func10, Try.ntmps10
      go_wp2_with fail
      refine hnw.mono ?_; clear hnw; rintro e w1 ⟨b, rfl, ho, hb⟩
      have HB := Lib.hid hb
      have HO := Lib.hid ho
      clear ho hb
      go_upto_region 4 with fail
      go_quiet (fail)
      go_wp2_with fail
      go_ret2
      exact ⟨by rw [HZ.out.1, HZ.out.2]; rfl, below_drewN HB.out _⟩
    · have d1 : decide ((L.length : Int) < (3 : Int)) = false := decide_eq_false (by omega)
      have d1n : decide (L.length < 3) = false := decide_eq_false h3
      replace h3 : 3 ≤ L.length := by omega
      have i0 : (0 : Int) < (L.length : Int) := by omega
      have i1 : (1 : Int) < (L.length : Int) := by omega
      have i2 : (2 : Int) < (L.length : Int) := by omega
      have n0 : 0 < L.length := by omega
      have n1 : 1 < L.length := by omega
      have n2 : 2 < L.length := by omega
      by_cases e0 : L.getD 0 zA = (0, 1, true, false)
      · by_cases e1 : L.getD 1 zA = (0, 1, false, false)
        · by_cases e2 : L.getD 2 zA = (0, 1, false, false)
          · have hbo : bgO L = true := by rw [bg_is h3, decide_eq_true e0, decide_eq_true e1, decide_eq_true e2]; rfl
            have HC : Hid (∀ k, k < L.length → (∀ j, j < k → wrA (L.getD j zA) (L.length : Int) = 0) → wrA (L.getD k zA) (L.length : Int) ≠ 0 → zv = (k : Int) ∧ ze = wrA (L.getD k zA) (L.length : Int)) := fun k hk h1 h2 => by rw [← hzv, ← hze]; exact ck_c h60 hbo hk h1 h2
            have HD : Hid (∀ k, k < L.length → (∀ j, j < L.length → wrA (L.getD j zA) (L.length : Int) = 0) → (∀ j, j < k → rnd L.length (pa L) ((j : Int) + 1) = false) → rnd L.length (pa L) ((k : Int) + 1) = true → zv = (k : Int) ∧ ze = 26) := fun k hk h1 h2 h3 => by rw [← hzv, ← hze]; exact ck_d h60 hbo h1 hk h2 h3
            have HE : Hid ((∀ j, j < L.length → wrA (L.getD j zA) (L.length : Int) = 0) → (∀ j, j < L.length → rnd L.length (pa L) ((j : Int) + 1) = false) → zv = (L.length : Int) ∧ ze = 0) := fun h1 h2 => by rw [← hzv, ← hze]; exact ck_e h60 hbo h1 h2
            have HN : Hid (L.length ≤ 60) := by show _ ≤ _; omega
            clear HB28 hL hzv hze h60 hbo hn
            go_enter Try.func10, Try.ntmps10
            go_wp2_with fail
            refine hnw.mono ?_; clear hnw; rintro e w1 ⟨b, rfl, ho, hb⟩
            have HB := Lib.hid hb
            have HO := Lib.hid ho
            obtain ⟨o0, o1, o2, o3, o4, o5, o6, o7, o8, o9, o10, o11⟩ := HOW.out w1 b ho
            obtain ⟨xb0, xo0, xe0, l00, l01, l02, l03⟩ := (HL.out.below hb).2 0 (by omega)
            obtain ⟨xb1, xo1, xe1, l10, l11, l12, l13⟩ := (HL.out.below hb).2 1 (by omega)
            obtain ⟨xb2, xo2, xe2, l20, l21, l22, l23⟩ := (HL.out.below hb).2 2 (by omega)
            subst xe0
            cases xe1
            cases xe2
            simp only [Nat.zero_mul, Nat.add_zero, Nat.one_mul, Nat.reduceMul, Nat.add_assoc, Nat.reduceAdd] at l00 l01 l02 l03 l10 l11 l12 l13 l20 l21 l22 l23
            have q0 : ∀ w, (Op.equalIn 10000 35 (.agg #[.int .i64 (L.getD 0 zA).1, .int .i64 (L.getD 0 zA).2.1, .bool (L.getD 0 zA).2.2.1, .bool (L.getD 0 zA).2.2.2]) (.agg #[.int .i64 0, .int .i64 1, .bool true, .bool false])).run Try.prog w = .ok true w := fun w => (eq_acc (L.getD 0 zA) (0, 1, true, false) w).trans (by rw [decide_eq_true e0])
            have q1 : ∀ w, (Op.equalIn 10000 35 (.agg #[.int .i64 (L.getD 1 zA).1, .int .i64 (L.getD 1 zA).2.1, .bool (L.getD 1 zA).2.2.1, .bool (L.getD 1 zA).2.2.2]) (.agg #[.int .i64 0, .int .i64 1, .bool false, .bool false])).run Try.prog w = .ok true w := fun w => (eq_acc (L.getD 1 zA) (0, 1, false, false) w).trans (by rw [decide_eq_true e1])
            have q2 : ∀ w, (Op.equalIn 10000 35 (.agg #[.int .i64 (L.getD 2 zA).1, .int .i64 (L.getD 2 zA).2.1, .bool (L.getD 2 zA).2.2.1, .bool (L.getD 2 zA).2.2.2]) (.agg #[.int .i64 0, .int .i64 1, .bool false, .bool false])).run Try.prog w = .ok true w := fun w => (eq_acc (L.getD 2 zA) (0, 1, false, false) w).trans (by rw [decide_eq_true e2])
            obtain ⟨s0, hs0⟩ : ∃ s, L.getD 0 zA = s := ⟨_, rfl⟩
            rw [hs0] at l00 l01 l02 l03 q0
            obtain ⟨s1, hs1⟩ : ∃ s, L.getD 1 zA = s := ⟨_, rfl⟩
            rw [hs1] at l10 l11 l12 l13 q1
            obtain ⟨s2, hs2⟩ : ∃ s, L.getD 2 zA = s := ⟨_, rfl⟩
            rw [hs2] at l20 l21 l22 l23 q2
            clear hs0 hs1 hs2
            clear ho hb e0 e1 e2
            go_upto_region 4 with fail
            go_quiet (fail)
            have HB0 : Hid (Below w.heap.size w (w1.drewN nq)) := below_drewN HB.out _
            generalize w1.drewN nq = w2 at *

            go_wp2_with fail
            go_loopw [5] (fun i wr => ∃ k : Nat, k ≤ L.length ∧ i = .int .i64 (k : Int) ∧ (∀ j, j < k → wrA (L.getD j zA) (L.length : Int) = 0) ∧ Below w.heap.size w wr) (fun i _ => L.length - (RowKit.intOf i).toNat)
            case atStart => exact ⟨0, Nat.zero_le _, rfl, fun j hj => (by cases hj), HB0.out⟩
            case round =>
              clear HB0
              obtain ⟨k, hk, rfl, hs, hb⟩ := hrel
              have HS := Lib.hid hs
              have HB := Lib.hid hb
              by_cases hlt : k < L.length
              · obtain ⟨b1, off1, eb, c0, c1, c2, c3⟩ := (HL.out.below hb).2 k hlt
                cases eb
                have i0 : (0 : Int) ≤ (k : Int) := by omega
                have i1 : (k : Int) < (L.length : Int) := by omega
                have HY : Hid (wrA (L.getD k zA) (L.length : Int) ≠ 0 → zv = (k : Int) ∧ ze = wrA (L.getD k zA) (L.length : Int)) := HC.out k hlt hs
                have HNX : Hid (wrA (L.getD k zA) (L.length : Int) = 0 → ∀ j, j < k + 1 → wrA (L.getD j zA) (L.length : Int) = 0) := fun q j hj => by
                  rcases Nat.lt_or_ge j k with r | r
                  · exact HS.out j r
                  · rw [show j = k by omega]; exact q
                generalize L.getD k zA = s at *
                have hw := r20may s (L.length : Int) wr
                have HB1 := Lib.hid hb
                generalize wrA s (L.length : Int) = z at *
                clear hs hb
                by_cases hz : z = 0
                · subst hz
                  have HNX2 := Lib.hid (HNX.out rfl)
                  have hn60 := HN.out
                  clear HY HNX
                  go_wp2_with fail
                  refine hw.mono ?_; clear hw; rintro e w2 ⟨rfl, hb2⟩
                  have HB2 : Hid (Below w.heap.size w w2) := HB1.out.trans (hb2.mono HB1.out.size)
                  clear hb2
                  go_wp2_with fail
                  go_roundw
                  · exact ⟨k + 1, by omega, by go_num, HNX2.out, HB2.out⟩
                  · simp [RowKit.intOf]; omega
                · have hz' : (z != 0) = true := by simpa using hz
                  have HY2 := Lib.hid (HY.out hz)
                  clear HY HNX hz
                  go_wp2_with fail
                  refine hw.mono ?_; clear hw; rintro e w2 ⟨rfl, hb2⟩
                  have HB2 : Hid (Below w.heap.size w w2) := HB1.out.trans (hb2.mono HB1.out.size)
                  clear hb2
                  go_wp2_with fail
                  go_ret2
                  exact ⟨by rw [HY2.out.1, HY2.out.2]; rfl, HB2.out⟩
              · obtain rfl : k = L.length := by omega
                have hd0 : decide ((L.length : Int) < (L.length : Int)) = false := decide_eq_false (by omega)
                clear hs hb hk hlt
                go_wp2_with fail
                go_loopw [7] (fun i wy => ∃ k : Nat, k ≤ L.length ∧ i = .int .i64 (k : Int) ∧ (∀ j, j < k → rnd L.length (pa L) ((j : Int) + 1) = false) ∧ Below w.heap.size w wy) (fun i _ => L.length - (RowKit.intOf i).toNat)
                case atStart => exact ⟨0, Nat.zero_le _, rfl, fun j hj => (by cases hj), HB.out⟩
                case round =>
                  obtain ⟨k, hk, rfl, hs, hb⟩ := hrel
                  have HS2 := Lib.hid hs
                  have HBY := Lib.hid hb
                  by_cases hlt : k < L.length
                  · have i1 : (k : Int) < (L.length : Int) := by omega
                    have i1' : decide ((k : Int) < (L.length : Int)) = true := decide_eq_true i1
                    have hcm := r20round _ c L ((k : Int) + 1) _ (HL.out.below hb) (by have := HN.out; omega) ⟨by omega, by omega⟩
                    have e1 : wrap64 ((k : Int) + 1) = (k : Int) + 1 := by have := HN.out; unfold wrap64; omega
                    have HY : Hid (rnd L.length (pa L) ((k : Int) + 1) = true → zv = (k : Int) ∧ ze = 26) := HD.out k hlt HS.out hs
                    have HNX : Hid (rnd L.length (pa L) ((k : Int) + 1) = false → ∀ j, j < k + 1 → rnd L.length (pa L) ((j : Int) + 1) = false) := fun q j hj => by
                      rcases Nat.lt_or_ge j k with r | r
                      · exact HS2.out j r
                      · rw [show j = k by omega]; exact q
                    have HRR : Hid (k + 1 ≤ L.length ∧ L.length - (RowKit.intOf (.int .i64 ((k : Int) + 1))).toNat < L.length - (RowKit.intOf (.int .i64 (k : Int))).toNat) := ⟨hlt, by simp [RowKit.intOf]; omega⟩
                    generalize rnd L.length (pa L) ((k : Int) + 1) = z at *
                    clear hs hb
                    cases z with
                    | true =>
                      have HY2 := Lib.hid (HY.out rfl)
                      clear HY HNX
                      go_wp2_with fail
                      refine hcm.mono ?_; clear hcm; rintro e w2 ⟨rfl, hb2⟩
                      have HB2 : Hid (Below w.heap.size w w2) := HBY.out.trans (hb2.mono HBY.out.size)
                      clear hb2
                      go_wp2_with fail
                      go_ret2
                      exact ⟨by rw [HY2.out.1, HY2.out.2]; rfl, HB2.out⟩
                    | false =>
                      have HNX2 := Lib.hid (HNX.out rfl)
                      clear HY HNX
                      go_wp2_with fail
                      refine hcm.mono ?_; clear hcm; rintro e w2 ⟨rfl, hb2⟩
                      have HB2 : Hid (Below w.heap.size w w2) := HBY.out.trans (hb2.mono HBY.out.size)
                      clear hb2
                      go_wp2_with fail
                      go_roundw
                      · exact ⟨k + 1, HRR.out.1, by go_num, HNX2.out, HB2.out⟩
                      · have := HRR.out.2; first | exact this | (rw [e1]; exact this) | (simp [RowKit.intOf]; omega)
                  · obtain rfl : k = L.length := by omega
                    have HZ := Lib.hid (HE.out HS.out hs)
                    clear hs hb hk hlt
                    go_wp2_with fail
                    go_ret2
                    exact ⟨by rw [HZ.out.1, HZ.out.2]; rfl, HBY.out⟩
          · have HZ := Lib.hid (HB28.out (by rw [bg_is h3, decide_eq_true e0, decide_eq_true e1, decide_eq_false e2]; simp))
            clear HB28 hL hzv hze
            go_enter Try.func10, Try.ntmps10
            go_wp2_with fail
            refine hnw.mono ?_; clear hnw; rintro e w1 ⟨b, rfl, ho, hb⟩
            have HB := Lib.hid hb
            have HO := Lib.hid ho
            obtain ⟨o0, o1, o2, o3, o4, o5, o6, o7, o8, o9, o10, o11⟩ := HOW.out w1 b ho
            obtain ⟨xb0, xo0, xe0, l00, l01, l02, l03⟩ := (HL.out.below hb).2 0 (by omega)
            obtain ⟨xb1, xo1, xe1, l10, l11, l12, l13⟩ := (HL.out.below hb).2 1 (by omega)
            obtain ⟨xb2, xo2, xe2, l20, l21, l22, l23⟩ := (HL.out.below hb).2 2 (by omega)
            subst xe0
            cases xe1
            cases xe2
            simp only [Nat.zero_mul, Nat.add_zero, Nat.one_mul, Nat.reduceMul, Nat.add_assoc, Nat.reduceAdd] at l00 l01 l02 l03 l10 l11 l12 l13 l20 l21 l22 l23
            have q0 : ∀ w, (Op.equalIn 10000 35 (.agg #[.int .i64 (L.getD 0 zA).1, .int .i64 (L.getD 0 zA).2.1, .bool (L.getD 0 zA).2.2.1, .bool (L.getD 0 zA).2.2.2]) (.agg #[.int .i64 0, .int .i64 1, .bool true, .bool false])).run Try.prog w = .ok true w := fun w => (eq_acc (L.getD 0 zA) (0, 1, true, false) w).trans (by rw [decide_eq_true e0])
            have q1 : ∀ w, (Op.equalIn 10000 35 (.agg #[.int .i64 (L.getD 1 zA).1, .int .i64 (L.getD 1 zA).2.1, .bool (L.getD 1 zA).2.2.1, .bool (L.getD 1 zA).2.2.2]) (.agg #[.int .i64 0, .int .i64 1, .bool false, .bool false])).run Try.prog w = .ok true w := fun w => (eq_acc (L.getD 1 zA) (0, 1, false, false) w).trans (by rw [decide_eq_true e1])
            have q2 : ∀ w, (Op.equalIn 10000 35 (.agg #[.int .i64 (L.getD 2 zA).1, .int .i64 (L.getD 2 zA).2.1, .bool (L.getD 2 zA).2.2.1, .bool (L.getD 2 zA).2.2.2]) (.agg #[.int .i64 0, .int .i64 1, .bool false, .bool false])).run Try.prog w = .ok false w := fun w => (eq_acc (L.getD 2 zA) (0, 1, false, false) w).trans (by rw [decide_eq_false e2])
            generalize L.getD 0 zA = s0 at *
            generalize L.getD 1 zA = s1 at *
            generalize L.getD 2 zA = s2 at *
            clear ho hb e0 e1 e2
            go_upto_region 4 with fail
            go_quiet (fail)
            go_wp2_with fail
            go_ret2
            exact ⟨by rw [HZ.out.1, HZ.out.2]; rfl, below_drewN HB.out _⟩
        · have HZ := Lib.hid (HB28.out (by rw [bg_is h3, decide_eq_true e0, decide_eq_false e1]; simp))
          clear HB28 hL hzv hze
          go_enter Try.func10, Try.ntmps10
          go_wp2_with fail
          refine hnw.mono ?_; clear hnw; rintro e w1 ⟨b, rfl, ho, hb⟩
          have HB := Lib.hid hb
          have HO := Lib.hid ho
          obtain ⟨o0, o1, o2, o3, o4, o5, o6, o7, o8, o9, o10, o11⟩ := HOW.out w1 b ho
          obtain ⟨xb0, xo0, xe0, l00, l01, l02, l03⟩ := (HL.out.below hb).2 0 (by omega)
          obtain ⟨xb1, xo1, xe1, l10, l11, l12, l13⟩ := (HL.out.below hb).2 1 (by omega)
          obtain ⟨xb2, xo2, xe2, l20, l21, l22, l23⟩ := (HL.out.below hb).2 2 (by omega)
          subst xe0
          cases xe1
          cases xe2
          simp only [Nat.zero_mul, Nat.add_zero, Nat.one_mul, Nat.reduceMul, Nat.add_assoc, Nat.reduceAdd] at l00 l01 l02 l03 l10 l11 l12 l13 l20 l21 l22 l23
          have q0 : ∀ w, (Op.equalIn 10000 35 (.agg #[.int .i64 (L.getD 0 zA).1, .int .i64 (L.getD 0 zA).2.1, .bool (L.getD 0 zA).2.2.1, .bool (L.getD 0 zA).2.2.2]) (.agg #[.int .i64 0, .int .i64 1, .bool true, .bool false])).run Try.prog w = .ok true w := fun w => (eq_acc (L.getD 0 zA) (0, 1, true, false) w).trans (by rw [decide_eq_true e0])
          have q1 : ∀ w, (Op.equalIn 10000 35 (.agg #[.int .i64 (L.getD 1 zA).1, .int .i64 (L.getD 1 zA).2.1, .bool (L.getD 1 zA).2.2.1, .bool (L.getD 1 zA).2.2.2]) (.agg #[.int .i64 0, .int .i64 1, .bool false, .bool false])).run Try.prog w = .ok false w := fun w => (eq_acc (L.getD 1 zA) (0, 1, false, false) w).trans (by rw [decide_eq_false e1])
          generalize L.getD 0 zA = s0 at *
          generalize L.getD 1 zA = s1 at *
          generalize L.getD 2 zA = s2 at *
          clear ho hb e0 e1
          go_upto_region 4 with fail
          go_quiet (fail)
          go_wp2_with fail
          go_ret2
          exact ⟨by rw [HZ.out.1, HZ.out.2]; rfl, below_drewN HB.out _⟩
      · have HZ := Lib.hid (HB28.out (by rw [bg_is h3, decide_eq_false e0]; simp))
        clear HB28 hL hzv hze
        go_enter Try.func10, Try.ntmps10
        go_wp2_with fail
        refine hnw.mono ?_; clear hnw; rintro e w1 ⟨b, rfl, ho, hb⟩
        have HB := Lib.hid hb
        have HO := Lib.hid ho
        obtain ⟨o0, o1, o2, o3, o4, o5, o6, o7, o8, o9, o10, o11⟩ := HOW.out w1 b ho
        obtain ⟨xb0, xo0, xe0, l00, l01, l02, l03⟩ := (HL.out.below hb).2 0 (by omega)
        obtain ⟨xb1, xo1, xe1, l10, l11, l12, l13⟩ := (HL.out.below hb).2 1 (by omega)
        obtain ⟨xb2, xo2, xe2, l20, l21, l22, l23⟩ := (HL.out.below hb).2 2 (by omega)
        subst xe0
        cases xe1
        cases xe2
        simp only [Nat.zero_mul, Nat.add_zero, Nat.one_mul, Nat.reduceMul, Nat.add_assoc, Nat.reduceAdd] at l00 l01 l02 l03 l10 l11 l12 l13 l20 l21 l22 l23
        have q0 : ∀ w, (Op.equalIn 10000 35 (.agg #[.int .i64 (L.getD 0 zA).1, .int .i64 (L.getD 0 zA).2.1, .bool (L.getD 0 zA).2.2.1, .bool (L.getD 0 zA).2.2.2]) (.agg #[.int .i64 0, .int .i64 1, .bool true, .bool false])).run Try.prog w = .ok false w := fun w => (eq_acc (L.getD 0 zA) (0, 1, true, false) w).trans (by rw [decide_eq_false e0])
        generalize L.getD 0 zA = s0 at *
        generalize L.getD 1 zA = s1 at *
        generalize L.getD 2 zA = s2 at *
        clear ho hb e0
        go_upto_region 4 with fail
        go_quiet (fail)
        go_wp2_with fail
        go_ret2
        exact ⟨by rw [HZ.out.1, HZ.out.2]; rfl, below_drewN HB.out _⟩
end Go.Proofs.Yteendpdidkekkaa
