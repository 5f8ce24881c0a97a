/-
  What the document's own wide numbers (gavelkindref02: word, power, Of) are, as whole numbers. No conditions.
-/
import Derived.Test.YtiegfehmhlabcaaRefL
import Derived.Test.YtiegfehmhlabcaaWideM
namespace Go.Proofs.Ytiegfehmhlabcaa
open Go.RowKit
set_option linter.unusedVariables false

theorem small_in {n : Int} (h0 : 0 ≤ n) (h1 : n ≤ 9223372036854775807) : InR n := by unfold InR; omega

/-- A result's block. -/
def Res (B : Nat) (w : World) : Prop := w.cell? ⟨B, 0, none⟩ = some (.bool false) ∧ w.cell? ⟨B, 1, none⟩ = some (.slice none 0 0) ∧ w.frozen? ⟨B, 0, none⟩ = false ∧ w.frozen? ⟨B, 1, none⟩ = false ∧ B < w.heap.size
theorem Res.init (w : World) (t : TypeId) : Res w.heap.size (w.alloc (.cells #[.bool false, .slice none 0 0] t)) := by refine ⟨?_, ?_, ?_, ?_, ?_⟩ <;> simp [go_sem]
theorem Res.below {B : Nat} {w w1 : World} (h : Res B w) (hb : Below w.heap.size w w1) : Res B w1 := by
  obtain ⟨h1, h2, h3, h4, h5⟩ := h
  obtain ⟨bc, bf⟩ := bcell hb
  exact ⟨(bc _ _ h5).trans h1, (bc _ _ h5).trans h2, (bf _ _ h5).trans h3, (bf _ _ h5).trans h4, Nat.lt_of_lt_of_le h5 hb.size⟩

set_option maxHeartbeats 400000 in
theorem power_any (w : World) : Calls Try.prog 22 #[] w fun e w' => ∃ u, e = .returned u ∧ Big w' u p64 ∧ Below w.heap.size w w' := by
  have hin : InR 4294967296 := by unfold InR; omega
  have l := digs_19 hin
  have HR := Lib.hid (Res.init w 27)
  go_enter Try.func22, Try.ntmps22
  go_wp2_with fail
  refine (of_any 4294967296 hin _).mono ?_; rintro e w1 ⟨r1, rfl, hr1, hb1⟩
  go_wp2_with fail
  refine (of_any 4294967296 hin _).mono ?_; rintro e w2 ⟨r2, rfl, hr2, hb2⟩
  go_wp2_with fail
  refine (btimes _ _ _ _ _ (hr1.below hb2) hr2 (by omega) (by omega)).mono ?_; rintro e w3 ⟨r3, rfl, hr3, hb3⟩
  have hb13 := (hb1.trans (hb2.mono hb1.size)).trans (hb3.mono (hb1.trans (hb2.mono hb1.size)).size)
  obtain ⟨k1, k2, k3, k4, k5⟩ := HR.out.below hb13
  rw [show (4294967296 : Int) * 4294967296 = p64 by rfl] at hr3
  obtain ⟨ra, rc, rfl⟩ := hr3.form
  go_wp2
  refine bodyPost_ret (v := .agg #[.bool (decide (p64 < 0)), .slice ra (digs p64.natAbs).length rc]) (by simp [results, Try.results22, go_sem, k1, k2]) rfl ⟨_, rfl, hr3.set2 k1 k2, ?_⟩
  exact ((((Below.refl _ _).alloc (Nat.le_refl _) _).trans (hb13.mono (by simp))).setCell (Nat.le_refl _) _).setCell (Nat.le_refl _) _

set_option maxHeartbeats 400000 in
theorem word_any (W : Int) (h0 : 0 ≤ W) (h1 : W ≤ 18446744073709551615) (w : World) : Calls Try.prog 23 #[.int .u64 W] w fun e w' => ∃ u, e = .returned u ∧ Big w' u W ∧ Below w.heap.size w w' := by
  have i1 : InR (W / 2) := by unfold InR; omega
  have i2 : InR 2 := by unfold InR; omega
  have i3 : InR (W % 2) := by unfold InR; omega
  have l1 := digs_19 i1; have l2 := digs_19 i2; have l3 := digs_19 i3
  have l4 := digs_len_times l1 l2
  have hand := and_one_u64 W h0 h1
  have HW : Hid (W / 2 * 2 + W % 2 = W) := by show W / 2 * 2 + W % 2 = W; omega
  have HR := Lib.hid (Res.init w 27)
  go_enter Try.func23, Try.ntmps23
  go_wp2_with fail
  refine (of_any (W / 2) i1 _).mono ?_; rintro e w1 ⟨r1, rfl, hr1, hb1⟩
  go_wp2_with fail
  refine (of_any 2 i2 _).mono ?_; rintro e w2 ⟨r2, rfl, hr2, hb2⟩
  have hb12 := hb1.trans (hb2.mono hb1.size)
  go_wp2_with fail
  refine (btimes _ _ _ _ _ (hr1.below hb2) hr2 (by omega) (by omega)).mono ?_; rintro e w3 ⟨r3, rfl, hr3, hb3⟩
  have hb13 := hb12.trans (hb3.mono hb12.size)
  go_wp2_with fail
  refine (of_any (W % 2) i3 _).mono ?_; rintro e w4 ⟨r4, rfl, hr4, hb4⟩
  have hb14 := hb13.trans (hb4.mono hb13.size)
  go_wp2_with fail
  refine (bplus _ _ _ _ _ (hr3.below hb4) hr4 (by omega) (by omega)).mono ?_; rintro e w5 ⟨r5, rfl, hr5, hb5⟩
  have hb15 := hb14.trans (hb5.mono hb14.size)
  obtain ⟨k1, k2, k3, k4, k5⟩ := HR.out.below hb15
  rw [HW.out] at hr5
  obtain ⟨ra, rc, rfl⟩ := hr5.form
  go_wp2
  refine bodyPost_ret (v := .agg #[.bool (decide (W < 0)), .slice ra (digs W.natAbs).length rc]) (by simp [results, Try.results23, go_sem, k1, k2]) rfl ⟨_, rfl, hr5.set2 k1 k2, ?_⟩
  exact ((((Below.refl _ _).alloc (Nat.le_refl _) _).trans (hb15.mono (by simp))).setCell (Nat.le_refl _) _).setCell (Nat.le_refl _) _
end Go.Proofs.Ytiegfehmhlabcaa
