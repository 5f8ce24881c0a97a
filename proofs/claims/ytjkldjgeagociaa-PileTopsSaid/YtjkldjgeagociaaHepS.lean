/-
  What the landed pile's sink answers. The conditions: the pile's blocks, a heap but for what stands below its first one.
-/
import Derived.Test.YtjkldjgeagociaaHepR
namespace Go.Proofs.Ytjkldjgeagociaa
open Go.RowKit
set_option linter.unusedSimpArgs false
set_option linter.unusedVariables false

theorem ahd_trans {e f g : Ent} (h : ahd e f) (k : ahd f g) : ahd e g := by unfold ahd at *; omega
/-- What holds at the head of sink's loop. -/
structure SinkI (w : World) (B b g cap : Nat) (H : List Ent) (p : Int) (i : Value) (wr : World) : Prop where
  out : ∃ (a : Nat) (H' : List Ent), i = .int .i64 (a : Int) ∧ (a = 0 ∨ a < H.length) ∧ H'.length = H.length ∧ H'.Perm H ∧ Sinking H' a ∧ HepH wr B H' p b (.slice (some ⟨g, 0, none⟩) H.length cap) ∧ Turn (fun j => j = g) w wr
/-- What holds at the head of the loop in it. -/
structure SinkJ (wr : World) (H' : List Ent) (a : Nat) (fv jv : Value) (wy : World) : Prop where
  out : ∃ f j : Nat, fv = .int .i64 (f : Int) ∧ jv = .int .i64 (j : Int) ∧ 2 * a + 1 ≤ j ∧ j ≤ 2 * a + 3 ∧ (f = a ∨ (2 * a + 1 ≤ f ∧ f ≤ 2 * a + 2 ∧ f < H'.length ∧ ahd (at3 H' f) (at3 H' a))) ∧ (∀ i, 2 * a + 1 ≤ i → i < j → i < H'.length → ¬ ahd (at3 H' i) (at3 H' f)) ∧ Below wr.heap.size wr wy
theorem twice_up (a : Nat) (h : a ≤ 1000000) : wrap64 (2 * (a : Int)) = 2 * (a : Int) ∧ wrap64 (2 * (a : Int) + 1) = 2 * (a : Int) + 1 ∧ wrap64 (2 * (a : Int) + 2) = 2 * (a : Int) + 2 := by unfold wrap64; omega
theorem one_up (a : Nat) (h : a ≤ 10000000) : wrap64 ((a : Int) + 1) = (a : Int) + 1 := by unfold wrap64; omega

set_option maxHeartbeats 8000000 in
set_option maxRecDepth 100000 in
theorem sink_9 {w : World} {B b g cap : Nat} {H : List Ent} {p : Int} (h : HepH w B H p b (.slice (some ⟨g, 0, none⟩) H.length cap)) (hr : Sinking H 0) (hl : H.length ≤ 1000000) :
    Calls Try.prog 34 #[.pointer (some ⟨B, 0, none⟩), .slice (some ⟨g, 0, none⟩) H.length cap] w fun e w' => e = .returned (.tuple #[]) ∧
      ∃ H', H'.Perm H ∧ Heap H' ∧ HepH w' B H' p b (.slice (some ⟨g, 0, none⟩) H.length cap) ∧ Turn (fun j => j = g) w w' := by
  have HH := Lib.hid h; have HR := Lib.hid hr
  clear h hr
  go_enter Try.func34, Try.ntmps34
  go_wp2_with fail
  have H0 : Hid (SinkI w B b g cap H p (.int .i64 0) w) := ⟨⟨0, H, rfl, Or.inl rfl, rfl, List.Perm.refl _, HR.out, HH.out, Turn.refl _ _⟩⟩
  go_loopw [4] (fun i wr => SinkI w B b g cap H p i wr) (fun i _ => H.length - (intOf i).toNat)
  case atStart => exact H0.out
  case round =>
    clear H0 HH HR
    obtain ⟨a, H', rfl, ha, hlen, hpm, hsi, hT, ht⟩ := hrel.out
    clear hrel
    obtain ⟨e1, e2, e3⟩ := twice_up a (by omega)
    have HP := Lib.hid hpm; have HI := Lib.hid hsi; have HT := Lib.hid hT; have HW := Lib.hid ht; have HL := Lib.hid hlen; have HA := Lib.hid ha
    have HROW := Lib.hid (show RowE wr g cap H' by have := hT.row; rw [hlen] at this; unfold RowE; rw [hlen]; exact this)
    clear hpm hsi hT ht hlen ha
    go_wp2_with fail
    simp only [e1, e2]
    generalize wr = wo at *
    have J0 : Hid (SinkJ wo H' a (.int .i64 (a : Int)) (.int .i64 (2 * (a : Int) + 1)) wo) := ⟨⟨a, 2 * a + 1, rfl, congrArg (Value.int .i64) (by omega), by omega, by omega, Or.inl rfl, fun i h1 h2 => absurd h2 (by omega), Below.refl _ _⟩⟩
    go_loopw [5, 6] (fun f j wy => SinkJ wo H' a f j wy) (fun f j _ => 2 * a + 3 - (intOf j).toNat)
    case atStart => exact J0.out
    case round =>
      clear J0
      obtain ⟨f, j, rfl, rfl, j1, j2, hf, hall, hb⟩ := hrel.out
      clear hrel
      by_cases hin : j ≤ 2 * a + 2 ∧ j < H.length
      · have d1 : decide ((j : Int) ≤ 2 * (a : Int) + 2) = true := decide_eq_true (by omega)
        have d2 : decide ((j : Int) < (H.length : Int)) = true := decide_eq_true (by omega)
        have hll := HL.out
        have hfl : f < H.length := by rcases hf with q | q <;> omega
        have e4 := one_up j (by omega)
        have i0 : (0 : Int) ≤ (j : Int) := by omega
        have i1 : (j : Int) < (H.length : Int) := by omega
        have k0 : (0 : Int) ≤ (f : Int) := by omega
        have k1 : (f : Int) < (H.length : Int) := by omega
        have hat := fun W (hW : RowE W g cap H') => And.intro (row_at hW (i := j) (by omega)) (row_at hW (i := f) (by omega))
        obtain ⟨⟨x0, x1, x2⟩, ⟨y0, y1, y2⟩⟩ := hat wr (ownsRow_below HROW.out hb)
        have hT := HT.out.below hb
        have hah := ahead_9 (w := wr.drew) hT.c0 hT.l0 (at3 H' j) (at3 H' f)
        unfold enc3 at hah
        have hyes : ahd (at3 H' j) (at3 H' f) → (j = a ∨ (2 * a + 1 ≤ j ∧ j ≤ 2 * a + 2 ∧ j < H'.length ∧ ahd (at3 H' j) (at3 H' a))) ∧ (∀ i, 2 * a + 1 ≤ i → i < j + 1 → i < H'.length → ¬ ahd (at3 H' i) (at3 H' j)) := fun hs => by
          refine ⟨Or.inr ⟨j1, hin.1, by omega, ?_⟩, fun i h1 h2 h3 => ?_⟩
          · rcases hf with q | q
            · rw [← q]; exact hs
            · exact ahd_trans hs q.2.2.2
          · rcases Nat.lt_or_ge i j with q | q
            · exact nahd_trans (hall i h1 q h3) (ahd_asym hs)
            · obtain rfl : i = j := by omega
              exact ahd_irr _
        have hno : ¬ ahd (at3 H' j) (at3 H' f) → ∀ i, 2 * a + 1 ≤ i → i < j + 1 → i < H'.length → ¬ ahd (at3 H' i) (at3 H' f) := fun hs i h1 h2 h3 => by
          rcases Nat.lt_or_ge i j with q | q
          · exact hall i h1 q h3
          · obtain rfl : i = j := by omega
            exact hs
        have HY := Lib.hid hyes; have HN := Lib.hid hno; have HF := Lib.hid hf; have HAT := Lib.hid hat; have HIN := Lib.hid hin; have HJ := Lib.hid (And.intro j1 j2)
        clear hyes hno hf hall hat hT hin j1 j2 hll hfl
        generalize hs : at3 H' j = s at *
        generalize htt : at3 H' f = t at *
        go_wp2_with fail
        go_region_held3 (fun wz => wz.cell? ⟨g, j * 3, none⟩ = some (.int .i64 s.1) ∧ wz.cell? ⟨g, j * 3 + 1, none⟩ = some (.int .i64 s.2.1) ∧ wz.cell? ⟨g, j * 3 + 2, none⟩ = some (.int .i64 s.2.2) ∧ wz.cell? ⟨g, f * 3, none⟩ = some (.int .i64 t.1) ∧ wz.cell? ⟨g, f * 3 + 1, none⟩ = some (.int .i64 t.2.1) ∧ wz.cell? ⟨g, f * 3 + 2, none⟩ = some (.int .i64 t.2.2))
          (first | (exact ⟨x0, x1, x2, y0, y1, y2⟩) | (exact ⟨p0, p1, p2, q0, q1, q2⟩))
          (first
            | (go_at_call 37; refine hah.mono ?_; rintro e w1 ⟨rfl, hb1⟩
               have hb9 : Below wo.heap.size wo w1 := hb.trans (((Below.refl wr.heap.size wr).drew.trans hb1).mono hb.size)
               obtain ⟨⟨p0, p1, p2⟩, ⟨q0, q1, q2⟩⟩ := HAT.out w1 (ownsRow_below HROW.out hb9)))
        clear x0 x1 x2 y0 y1 y2 hah hb1
        by_cases hst : ahd s t
        · have d3 : decide (ahd s t) = true := decide_eq_true hst
          rw [d3]
          go_wp2_with fail
          go_roundw
          · exact ⟨⟨j, j + 1, rfl, by go_num, by have := HJ.out; omega, by have := HIN.out; omega, by rw [hs]; exact (HY.out hst).1, by rw [hs]; exact (HY.out hst).2, hb9⟩⟩
          · have := HIN.out; simp [intOf]; omega
        · have d3 : decide (ahd s t) = false := decide_eq_false hst
          rw [d3]
          go_wp2_with fail
          go_roundw
          · exact ⟨⟨f, j + 1, rfl, by go_num, by have := HJ.out; omega, by have := HIN.out; omega, by rw [htt]; exact HF.out, by rw [htt]; exact HN.out hst, hb9⟩⟩
          · have := HIN.out; simp [intOf]; omega
      · have hdone : ∀ i, 2 * a + 1 ≤ i → i ≤ 2 * a + 2 → i < H'.length → ¬ ahd (at3 H' i) (at3 H' f) := fun i h1 h2 h3 => hall i h1 (by have := HL.out; omega) h3
        by_cases h2 : j ≤ 2 * a + 2
        · have d1 : decide ((j : Int) ≤ 2 * (a : Int) + 2) = true := decide_eq_true (by omega)
          have d2 : decide ((j : Int) < (H.length : Int)) = false := decide_eq_false (by omega)
          have hll := HL.out
          by_cases hfa : f = a
          · subst hfa
            have d3 : ((f : Int) == (f : Int)) = true := beq_self_eq_true _
            have HH := Lib.hid (sink_done HI.out (fun i h1 h2 h3 => hdone i (by omega) (by omega) h2))
            have HB := Lib.hid hb
            clear hf hall hb hdone
            go_wp2_with fail
            exact bodyPost_ret (v := .tuple #[]) (by simp [results, Try.results34, go_sem]) rfl ⟨rfl, H', HP.out, HH.out, HT.out.below HB.out, turn_below HW.out HB.out⟩
          · have d3 : ((f : Int) == (a : Int)) = false := beq_eq_false_iff_ne.mpr (by omega)
            obtain ⟨f1, f2, f3, f4⟩ := hf.resolve_left hfa
            have hal : a < H'.length := by have := HA.out; omega
            have hfp : (f - 1) / 2 = a := by omega
            have hss := sink_step HI.out (f := f) (by omega) f3 hfp f4 (fun i h1 h2 h3 => hdone i (by omega) (by omega) h2)
            have hat := fun W (hW : RowE W g cap H') => And.intro (row_at hW (i := a) (by omega)) (row_at hW (i := f) (by omega))
            have hsw := fun W (hW : RowE W g cap H') => row_swap hW (i := a) (j := f) (by omega) (by omega)
            have hs2 : (swp H' a f).length = H.length := by rw [swp_len, hll]
            have hs3 : (swp H' a f).Perm H := (swp_perm (by omega) (by omega)).trans HP.out
            have HR1 := Lib.hid (ownsRow_below HROW.out hb)
            obtain ⟨⟨x0, x1, x2⟩, ⟨y0, y1, y2⟩⟩ := hat wr HR1.out
            have z0 : ∀ i, wr.frozen? ⟨g, i, none⟩ = false := fun i => HR1.out.frozenAt i
            have i0 : (0 : Int) ≤ (a : Int) := by omega
            have i1 : (a : Int) < (H.length : Int) := by omega
            have k0 : (0 : Int) ≤ (f : Int) := by omega
            have k1 : (f : Int) < (H.length : Int) := by omega
            have HFL := Lib.hid (show f < H.length ∧ a < f from ⟨by omega, by omega⟩)
            generalize at3 H' a = s at *
            generalize at3 H' f = t at *
            generalize swp H' a f = H2 at *
            have HSS := Lib.hid hss; have HSW := Lib.hid hsw; have HB := Lib.hid hb; have HS2 := Lib.hid hs2; have HS3 := Lib.hid hs3
            clear hf hall hb hdone hss hat hsw hs2 hs3 f1 f2 f3 f4 hfp hal hll
            go_wp2_with fail
            go_region
            obtain ⟨hE, hE2⟩ := swapped HT.out HL.out HS2.out HB.out (HSW.out wr HR1.out) HW.out
            have HE := Lib.hid hE; have HE2 := Lib.hid hE2
            clear hE hE2
            go_wp2_with fail
            go_roundw
            · exact ⟨⟨f, H2, rfl, Or.inr HFL.out.1, HS2.out, HS3.out, HSS.out, HE.out, HE2.out⟩⟩
            · have := HFL.out; simp [intOf]; omega
        · have d1 : decide ((j : Int) ≤ 2 * (a : Int) + 2) = false := decide_eq_false (by omega)
          have hll := HL.out
          by_cases hfa : f = a
          · subst hfa
            have d3 : ((f : Int) == (f : Int)) = true := beq_self_eq_true _
            have HH := Lib.hid (sink_done HI.out (fun i h1 h2 h3 => hdone i (by omega) (by omega) h2))
            have HB := Lib.hid hb
            clear hf hall hb hdone
            go_wp2_with fail
            exact bodyPost_ret (v := .tuple #[]) (by simp [results, Try.results34, go_sem]) rfl ⟨rfl, H', HP.out, HH.out, HT.out.below HB.out, turn_below HW.out HB.out⟩
          · have d3 : ((f : Int) == (a : Int)) = false := beq_eq_false_iff_ne.mpr (by omega)
            obtain ⟨f1, f2, f3, f4⟩ := hf.resolve_left hfa
            have hal : a < H'.length := by have := HA.out; omega
            have hfp : (f - 1) / 2 = a := by omega
            have hss := sink_step HI.out (f := f) (by omega) f3 hfp f4 (fun i h1 h2 h3 => hdone i (by omega) (by omega) h2)
            have hat := fun W (hW : RowE W g cap H') => And.intro (row_at hW (i := a) (by omega)) (row_at hW (i := f) (by omega))
            have hsw := fun W (hW : RowE W g cap H') => row_swap hW (i := a) (j := f) (by omega) (by omega)
            have hs2 : (swp H' a f).length = H.length := by rw [swp_len, hll]
            have hs3 : (swp H' a f).Perm H := (swp_perm (by omega) (by omega)).trans HP.out
            have HR1 := Lib.hid (ownsRow_below HROW.out hb)
            obtain ⟨⟨x0, x1, x2⟩, ⟨y0, y1, y2⟩⟩ := hat wr HR1.out
            have z0 : ∀ i, wr.frozen? ⟨g, i, none⟩ = false := fun i => HR1.out.frozenAt i
            have i0 : (0 : Int) ≤ (a : Int) := by omega
            have i1 : (a : Int) < (H.length : Int) := by omega
            have k0 : (0 : Int) ≤ (f : Int) := by omega
            have k1 : (f : Int) < (H.length : Int) := by omega
            have HFL := Lib.hid (show f < H.length ∧ a < f from ⟨by omega, by omega⟩)
            generalize at3 H' a = s at *
            generalize at3 H' f = t at *
            generalize swp H' a f = H2 at *
            have HSS := Lib.hid hss; have HSW := Lib.hid hsw; have HB := Lib.hid hb; have HS2 := Lib.hid hs2; have HS3 := Lib.hid hs3
            clear hf hall hb hdone hss hat hsw hs2 hs3 f1 f2 f3 f4 hfp hal hll
            go_wp2_with fail
            go_region
            obtain ⟨hE, hE2⟩ := swapped HT.out HL.out HS2.out HB.out (HSW.out wr HR1.out) HW.out
            have HE := Lib.hid hE; have HE2 := Lib.hid hE2
            clear hE hE2
            go_wp2_with fail
            go_roundw
            · exact ⟨⟨f, H2, rfl, Or.inr HFL.out.1, HS2.out, HS3.out, HSS.out, HE.out, HE2.out⟩⟩
            · have := HFL.out; simp [intOf]; omega
end Go.Proofs.Ytjkldjgeagociaa
