/-
  What the landed pile's rise answers. The conditions: the pile's blocks, a heap but for its last one.
-/
import Derived.Test.YtjkldjgeagociaaHepT
import Derived.WalkSmall
import Derived.BigQuiet
import Derived.Deep.QuietTactic
import Derived.Deep.RegionHeld3
import Derived.RegionTactic
import Derived.BigRegion
namespace Go.Proofs.Ytjkldjgeagociaa
open Go.RowKit
set_option linter.unusedSimpArgs false
set_option linter.unusedVariables false

theorem turn_below {F : Nat → Prop} {w w1 w2 : World} (t : Turn F w w1) (hb : Below w1.heap.size w1 w2) : Turn F w w2 := t.trans (Turn.of_below hb (F := fun _ => False)) (fun j q => q.elim)
/-- Two have changed places: the pile is there. -/
theorem swapped {w wr w1 w2 : World} {B b g cap : Nat} {H H' H2 : List Ent} {p : Int} (HT : HepH wr B H' p b (.slice (some ⟨g, 0, none⟩) H.length cap)) (hl : H'.length = H.length) (h2 : H2.length = H.length) (hb : Below wr.heap.size wr w1) (r : RowE w2 g cap H2 ∧ Turn (fun k => k = g) w1 w2) (ht : Turn (fun k => k = g) w wr) :
    HepH w2.drew B H2 p b (.slice (some ⟨g, 0, none⟩) H.length cap) ∧ Turn (fun k => k = g) w w2.drew := by
  obtain ⟨r1, t1⟩ := r
  have hT := HT.below hb
  refine ⟨(hT.rerow (by rw [h2, hl]) (by have := r1; unfold RowE at this; rw [h2] at this; rw [h2]; exact this) (t1.mono (fun j q => by subst q; rfl))).drew, ?_⟩
  have t2 := (turn_below ht hb).trans t1 (fun j q => Or.inl q)
  exact ⟨t2.os, t2.tape, t2.output, t2.size, t2.block⟩
/-- What holds at the head of rise's loop. -/
structure RiseI (w : World) (B b g cap : Nat) (H : List Ent) (p : Int) (i : Value) (wr : World) : Prop where
  out : ∃ (a : Nat) (H' : List Ent), i = .int .i64 (a : Int) ∧ a < H.length ∧ H'.length = H.length ∧ H'.Perm H ∧ Rising H' a ∧ HepH wr B H' p b (.slice (some ⟨g, 0, none⟩) H.length cap) ∧ Turn (fun j => j = g) w wr
theorem half_up (a : Nat) (h0 : 0 < a) (h : a ≤ 1000000) : wrap64 ((a : Int) - 1) = (a : Int) - 1 ∧ ((a : Int) - 1) / 2 = (((a - 1) / 2 : Nat) : Int) := by
  unfold wrap64; omega

set_option maxHeartbeats 4000000 in
set_option maxRecDepth 100000 in
theorem rise_9 {w : World} {B b g cap : Nat} {H : List Ent} {p : Int} (h : HepH w B H p b (.slice (some ⟨g, 0, none⟩) H.length cap)) (h0 : 0 < H.length) (hr : Rising H (H.length - 1)) (hl : H.length ≤ 1000000) :
    Calls Try.prog 33 #[.pointer (some ⟨B, 0, none⟩), .slice (some ⟨g, 0, none⟩) H.length cap] w fun e w' => e = .returned (.tuple #[]) ∧
      ∃ H', H'.Perm H ∧ Heap H' ∧ HepH w' B H' p b (.slice (some ⟨g, 0, none⟩) H.length cap) ∧ Turn (fun j => j = g) w w' := by
  have HH := Lib.hid h; have HR := Lib.hid hr
  have e0 : wrap64 ((H.length : Int) - 1) = ((H.length - 1 : Nat) : Int) := by unfold wrap64; omega
  clear h hr
  go_enter Try.func33, Try.ntmps33
  go_wp2_with fail
  have H0 : Hid (RiseI w B b g cap H p (.int .i64 ((H.length : Int) - 1)) w) := ⟨⟨H.length - 1, H, congrArg (Value.int .i64) (by omega), by omega, rfl, List.Perm.refl _, HR.out, HH.out, Turn.refl _ _⟩⟩
  go_loopw [4] (fun i wr => RiseI w B b g cap H p i wr) (fun i _ => (intOf i).toNat)
  case atStart => exact H0.out
  case round =>
    clear H0 HH HR
    obtain ⟨a, H', rfl, ha, hlen, hpm, hri, hT, ht⟩ := hrel.out
    clear hrel
    rcases Nat.eq_zero_or_pos a with rfl | hpos
    · have d1 : decide (0 < ((0 : Nat) : Int)) = false := decide_eq_false (by omega)
      have HP := Lib.hid hpm; have HI := Lib.hid (rise_top hri); have HT := Lib.hid hT; have HW := Lib.hid ht
      clear hpm hri hT ht hlen
      go_wp2_with fail
      go_end0
      exact ⟨rfl, H', HP.out, HI.out, HT.out, HW.out⟩
    · have d1 : decide (0 < (a : Int)) = true := decide_eq_true (by omega)
      obtain ⟨e1, e2⟩ := half_up a hpos (by omega)
      have hq : (a - 1) / 2 < a := by omega
      have hrs := fun q => rise_step hri hpos (by omega) q
      have hrd := fun q => rise_done hri q
      generalize hqq : (a - 1) / 2 = q at *
      have hrow : RowE wr g cap H' := by have := hT.row; rw [hlen] at this; unfold RowE; rw [hlen]; exact this
      obtain ⟨x0, x1, x2⟩ := row_at hrow (i := a) (by omega)
      obtain ⟨y0, y1, y2⟩ := row_at hrow (i := q) (by omega)
      have i0 : (0 : Int) ≤ (a : Int) := by omega
      have i1 : (a : Int) < (H.length : Int) := by omega
      have j0 : (0 : Int) ≤ (q : Int) := by omega
      have j1 : (q : Int) < (H.length : Int) := by omega
      have hah := ahead_9 (w := wr.drew) hT.c0 hT.l0 (at3 H' a) (at3 H' q)
      unfold enc3 at hah
      have hsw := fun W (hW : RowE W g cap H') => row_swap hW (i := a) (j := q) (by omega) (by omega)
      have hat := fun W (hW : RowE W g cap H') => And.intro (row_at hW (i := a) (by omega)) (row_at hW (i := q) (by omega))
      have hs2 : (swp H' a q).length = H.length := by rw [swp_len, hlen]
      have hs3 : (swp H' a q).Perm H := (swp_perm (by omega) (by omega)).trans hpm
      generalize at3 H' a = s at *
      generalize at3 H' q = t at *
      generalize swp H' a q = H2 at *
      have HRS := Lib.hid hrs; have HRD := Lib.hid hrd; have HP := Lib.hid hpm; have HT := Lib.hid hT; have HW := Lib.hid ht; have HL := Lib.hid hlen; have HROW := Lib.hid hrow; have HSW := Lib.hid hsw; have HAT := Lib.hid hat; have HS2 := Lib.hid hs2; have HS3 := Lib.hid hs3
      clear hri hrs hrd hpm hT ht hlen hrow hsw hat hs2 hs3
      go_wp2_with fail
      go_region_held3 (fun wz => wz.cell? ⟨g, a * 3, none⟩ = some (.int .i64 s.1) ∧ wz.cell? ⟨g, a * 3 + 1, none⟩ = some (.int .i64 s.2.1) ∧ wz.cell? ⟨g, a * 3 + 2, none⟩ = some (.int .i64 s.2.2) ∧ wz.cell? ⟨g, q * 3, none⟩ = some (.int .i64 t.1) ∧ wz.cell? ⟨g, q * 3 + 1, none⟩ = some (.int .i64 t.2.1) ∧ wz.cell? ⟨g, q * 3 + 2, none⟩ = some (.int .i64 t.2.2))
        (first | (exact ⟨x0, x1, x2, y0, y1, y2⟩) | (exact ⟨p0, p1, p2, q0, q1, q2⟩))
        (first
          | (go_at_call 37; refine hah.mono ?_; rintro e w1 ⟨rfl, hb1⟩
             have hb9 : Below wr.heap.size wr w1 := (Below.refl wr.heap.size wr).drew.trans hb1
             obtain ⟨⟨p0, p1, p2⟩, ⟨q0, q1, q2⟩⟩ := HAT.out w1 (ownsRow_below HROW.out hb9)))
      by_cases hs : ahd s t
      · have d2 : decide (ahd s t) = true := decide_eq_true hs
        rw [d2]
        have HT1 := Lib.hid (HT.out.below hb9)
        have HR1 := Lib.hid (ownsRow_below HROW.out hb9)
        have z0 : ∀ i, w1.frozen? ⟨g, i, none⟩ = false := fun i => HR1.out.frozenAt i
        clear x0 x1 x2 y0 y1 y2 hah hb1
        go_wp2_with fail
        go_region
        obtain ⟨hE, hE2⟩ := swapped HT.out HL.out HS2.out hb9 (HSW.out w1 HR1.out) HW.out
        have HE := Lib.hid hE; have HE2 := Lib.hid hE2
        clear hE hE2
        go_wp2_with fail
        go_roundw
        · exact ⟨⟨q, H2, rfl, by omega, HS2.out, HS3.out, HRS.out hs, HE.out, HE2.out⟩⟩
        · simp [intOf]; omega
      · have d2 : decide (ahd s t) = false := decide_eq_false hs
        rw [d2]
        clear x0 x1 x2 y0 y1 y2 hah hb1
        go_wp2_with fail
        exact bodyPost_ret (v := .tuple #[]) (by simp [results, Try.results33, go_sem]) rfl ⟨rfl, H', HP.out, HRD.out hs, HT.out.below hb9, turn_below HW.out hb9⟩
end Go.Proofs.Ytjkldjgeagociaa
