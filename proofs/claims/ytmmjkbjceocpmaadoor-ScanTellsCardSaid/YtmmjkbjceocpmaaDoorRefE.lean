/-
  What the document's own Plus (of gavelkindref01) does, as whole numbers. The condition: at most 900 digits.
-/
import Derived.Test.YtmmjkbjceocpmaaDoorRefD
import Derived.Deep.RegionWith
import Derived.Deep.RegionHeld3
import Derived.StillTactics
import Derived.Laws.Pointers
namespace Go.Proofs.YtmmjkbjceocpmaaDoor
open Go.RowKit
set_option linter.unusedVariables false

theorem boxed3 {w w1 : World} {c d e f g h : Value} {t : TypeId} (hb : Below (((w.alloc (.cells #[c, d] t)).alloc (.cells #[e, f] t)).alloc (.cells #[g, h] t)).drew.heap.size (((w.alloc (.cells #[c, d] t)).alloc (.cells #[e, f] t)).alloc (.cells #[g, h] t)).drew w1) :
    w1.cell? ⟨w.heap.size, 0, none⟩ = some c ∧ w1.cell? ⟨w.heap.size, 1, none⟩ = some d ∧ w1.cell? ⟨w.heap.size + 1, 1, none⟩ = some f ∧
    w1.cell? ⟨w.heap.size + 2, 0, none⟩ = some g ∧ w1.cell? ⟨w.heap.size + 2, 1, none⟩ = some h ∧ w1.frozen? ⟨w.heap.size + 2, 0, none⟩ = false ∧ w1.frozen? ⟨w.heap.size + 2, 1, none⟩ = false := by
  obtain ⟨bc, bf⟩ := bcell hb
  refine ⟨?_, ?_, ?_, ?_, ?_, ?_, ?_⟩
  · rw [bc _ _ (by simp <;> omega)]; simp [go_sem]
  · rw [bc _ _ (by simp <;> omega)]; simp [go_sem]
  · rw [bc _ _ (by simp <;> omega)]; simp [go_sem]
  · rw [bc _ _ (by simp <;> omega)]; simp [go_sem]
  · rw [bc _ _ (by simp <;> omega)]; simp [go_sem]
  · rw [bf _ _ (by simp <;> omega)]; simp [go_sem]
  · rw [bf _ _ (by simp <;> omega)]; simp [go_sem]

theorem keep3 {B : Nat} {w : World} {a b c p q : Value} (h0 : w.cell? ⟨B, 0, none⟩ = some a) (h1 : w.cell? ⟨B, 1, none⟩ = some b) (h2 : w.cell? ⟨B + 1, 1, none⟩ = some c) :
    ((w.setCell ⟨B + 1 + 1, 0, none⟩ p).setCell ⟨B + 1 + 1, 1, none⟩ q).cell? ⟨B, 0, none⟩ = some a ∧ ((w.setCell ⟨B + 1 + 1, 0, none⟩ p).setCell ⟨B + 1 + 1, 1, none⟩ q).cell? ⟨B, 1, none⟩ = some b ∧
    ((w.setCell ⟨B + 1 + 1, 0, none⟩ p).setCell ⟨B + 1 + 1, 1, none⟩ q).cell? ⟨B + 1, 1, none⟩ = some c := by
  refine ⟨?_, ?_, ?_⟩
  · rw [World.cell?_setCell_other _ _ _ _ (by simp), World.cell?_setCell_other _ _ _ _ (by simp)]; exact h0
  · rw [World.cell?_setCell_other _ _ _ _ (by simp), World.cell?_setCell_other _ _ _ _ (by simp)]; exact h1
  · rw [World.cell?_setCell_other _ _ _ _ (by simp), World.cell?_setCell_other _ _ _ _ (by simp)]; exact h2

theorem Sl.set {w : World} {v q x : Value} {L : List Int} {p : Addr} (h : Sl w v L) (hp : w.cell? p = some q) (hq : ∀ z, q ≠ .int .i64 z) : Sl (w.setCell p x) v L := by
  obtain ⟨a, cap, h1, h2, h3, h4, h5⟩ := h
  refine ⟨a, cap, h1, h2, h3, h4, fun i hi => ?_⟩
  obtain ⟨b, off, ha, hc⟩ := h5 i hi
  refine ⟨b, off, ha, ?_⟩
  rw [World.cell?_setCell_other _ _ _ _ (fun e => ?_)]
  · exact hc
  · rw [e, hc] at hp
    injection hp with hp
    exact hq _ hp.symm

theorem Sl.set2 {w : World} {v x y : Value} {L : List Int} {B : Nat} {s : Bool} {a : Option Addr} {l c : Nat} (h : Sl w v L) (h0 : w.cell? ⟨B, 0, none⟩ = some (.bool s)) (h1 : w.cell? ⟨B, 1, none⟩ = some (.slice a l c)) :
    Sl ((w.setCell ⟨B, 0, none⟩ x).setCell ⟨B, 1, none⟩ y) v L :=
  (h.set h0 (by simp)).set (q := .slice a l c) (by rw [World.cell?_setCell_other _ _ _ _ (by simp)]; exact h1) (by simp)

set_option maxHeartbeats 1000000 in
theorem plus_same (v v' : Value) (x y : Int) (w : World) (s : Bool) (hv : Sl w v (digs x.natAbs)) (hv' : Sl w v' (digs y.natAbs)) (hl : (digs x.natAbs).length ≤ 1000) (hl' : (digs y.natAbs).length ≤ 1000) :
    Calls Tryd.prog 32 #[.agg #[.bool s, v], .agg #[.bool s, v']] w fun e w' => ∃ u, e = .returned (.agg #[.bool s, u]) ∧ Sl w' u (digs (x.natAbs + y.natAbs)) ∧ Below w.heap.size w w' := by
  go_enter Tryd.func32, Tryd.ntmps32
  go_wp2
  go_region_held3 (fun w' => w'.cell? ⟨w.heap.size, 0, none⟩ = some (.bool s) ∧ w'.cell? ⟨w.heap.size, 1, none⟩ = some v ∧ w'.cell? ⟨w.heap.size + 1, 1, none⟩ = some v') (first | (exact ⟨c0, c1, c2⟩) | (exact keep3 c0 c1 c2) | (simp [go_sem, World.cell?_alloc_past]))
    (first
      | (go_at_call 46; refine (more_any v v' x.natAbs y.natAbs _ (hv.below (below3 w _ _ _).drew) (hv'.below (below3 w _ _ _).drew) hl hl').mono ?_; rintro e w1 ⟨r, rfl, hr, hb1⟩; obtain ⟨ra, rc, rfl⟩ := hr.form; obtain ⟨c0, c1, c2, c3, c4, f3, f4⟩ := boxed3 hb1))
  go_wp2
  refine bodyPost_ret (v := .agg #[.bool s, .slice ra (digs (x.natAbs + y.natAbs)).length rc]) (by simp [results, Tryd.results32, go_sem, c3, c4]) rfl ⟨_, rfl, hr.set2 c3 c4, ?_⟩
  exact (((below3 w _ _ _).drew.trans (hb1.mono (by simp; omega))).setCell (by show w.heap.size ≤ w.heap.size + 1 + 1; omega) _).setCell (by show w.heap.size ≤ w.heap.size + 1 + 1; omega) _

/-- What holds of the three blocks that a call has laid for its two arguments and its result. -/
def Box3 (B : Nat) (c d e f g h : Value) (w : World) : Prop :=
  w.cell? ⟨B, 0, none⟩ = some c ∧ w.cell? ⟨B, 1, none⟩ = some d ∧ w.cell? ⟨B + 1, 0, none⟩ = some e ∧ w.cell? ⟨B + 1, 1, none⟩ = some f ∧
    w.cell? ⟨B + 2, 0, none⟩ = some g ∧ w.cell? ⟨B + 2, 1, none⟩ = some h ∧ w.frozen? ⟨B + 2, 0, none⟩ = false ∧ w.frozen? ⟨B + 2, 1, none⟩ = false ∧ B + 2 < w.heap.size

theorem Box3.init (w : World) (c d e f g h : Value) (t : TypeId) : Box3 w.heap.size c d e f g h (((w.alloc (.cells #[c, d] t)).alloc (.cells #[e, f] t)).alloc (.cells #[g, h] t)) := by
  refine ⟨?_, ?_, ?_, ?_, ?_, ?_, ?_, ?_, ?_⟩ <;> simp [go_sem]
theorem Box3.below {B : Nat} {c d e f g h : Value} {w w1 : World} (hx : Box3 B c d e f g h w) (hb : Below w.heap.size w w1) : Box3 B c d e f g h w1 := by
  obtain ⟨h1, h2, h3, h4, h5, h6, h7, h8, h9⟩ := hx
  obtain ⟨bc, bf⟩ := bcell hb
  exact ⟨(bc _ _ (by omega)).trans h1, (bc _ _ (by omega)).trans h2, (bc _ _ (by omega)).trans h3, (bc _ _ (by omega)).trans h4, (bc _ _ (by omega)).trans h5, (bc _ _ (by omega)).trans h6,
    (bf _ _ (by omega)).trans h7, (bf _ _ (by omega)).trans h8, Nat.lt_of_lt_of_le h9 hb.size⟩

set_option maxHeartbeats 1000000 in
theorem plus_ge (v v' : Value) (m n : Nat) (w : World) (s s' t : Bool) (hne : (s == s') = false) (hle : n ≤ m) (ht : t = (s && decide (0 < (digs (m - n)).length))) (hv : Sl w v (digs m)) (hv' : Sl w v' (digs n))
    (hl : (digs m).length ≤ 1000) (hl' : (digs n).length ≤ 1000) :
    Calls Tryd.prog 32 #[.agg #[.bool s, v], .agg #[.bool s', v']] w fun e w' => ∃ u, e = .returned (.agg #[.bool t, u]) ∧ Sl w' u (digs (m - n)) ∧ Below w.heap.size w w' := by
  obtain ⟨cm, hcm, hcm0⟩ : ∃ cm, cm = cmpv m n ∧ 0 ≤ cm := ⟨_, rfl, by unfold cmpv; split <;> (try split) <;> omega⟩
  obtain ⟨lr, hlr⟩ : ∃ lr, lr = (digs (m - n)).length := ⟨_, rfl⟩
  rw [← hlr] at ht
  have hlr1 : lr ≤ 1000 := by rw [hlr]; have := digs_len_mono (show m - n ≤ m by omega); omega
  have HL := Lib.hid hlr
  have hD := digits_any v v' m n (((w.alloc (.cells #[.bool s, v] 56)).alloc (.cells #[.bool s', v'] 56)).alloc (.cells #[.bool false, .slice none 0 0] 56)) (hv.below (below3 w _ _ _)) (hv'.below (below3 w _ _ _)) hl hl'
  rw [← hcm] at hD
  clear hcm hlr
  have hF := fun w1 (hb : Below (((w.alloc (.cells #[.bool s, v] 56)).alloc (.cells #[.bool s', v'] 56)).alloc (.cells #[.bool false, .slice none 0 0] 56)).heap.size _ w1) =>
    fewer_any v v' m n w1 hle ((hv.below (below3 w _ _ _)).below hb) ((hv'.below (below3 w _ _ _)).below hb) hl
  have HB := Lib.hid (Box3.init w (.bool s) v (.bool s') v' (.bool false) (.slice none 0 0) 56)
  clear hv hv'
  have hcond : s = false ∧ t = false ∨ s = true ∧ t = decide (0 < lr) := by cases s <;> simp_all
  clear ht
  rcases hcond with ⟨rfl, rfl⟩ | ⟨rfl, ht⟩
  · skip
    go_enter Tryd.func32, Tryd.ntmps32
    go_wp2_with (first
      | (go_at_call 47; refine hD.mono ?_; rintro e w1 ⟨rfl, hb1⟩; have HB1 := Lib.hid (HB.out.below hb1); obtain ⟨c0, c1, c2, c3, c4, c5, f4, f5, hz⟩ := HB1.out)
      | (go_at_call 48; refine (hF _ hb1).mono ?_; rintro e w2 ⟨r, rfl, hr, hb2⟩; obtain ⟨ra, rc, rfl⟩ := hr.form; rw [← HL.out]; have HB2 := Lib.hid (HB1.out.below hb2); obtain ⟨d0, d1, d2, d3, d4, d5, g4, g5, hz2⟩ := HB2.out))
    rw [← HL.out] at hr
    refine bodyPost_ret (v := .agg #[.bool false, .slice ra lr rc]) (by simp [results, Tryd.results32, go_sem, d4, d5]) rfl ⟨_, rfl, hr.set2 d4 d5, ?_⟩
    have k1 := ((below3 w _ _ _).trans (hb1.mono (by simp; omega)))
    exact ((k1.trans (hb2.mono k1.size)).setCell (by show w.heap.size ≤ w.heap.size + 1 + 1; omega) _).setCell (by show w.heap.size ≤ w.heap.size + 1 + 1; omega) _
  · by_cases hlr0 : 0 < lr
    · rw [show decide (0 < lr) = true by simpa using hlr0] at ht
      subst ht
      go_enter Tryd.func32, Tryd.ntmps32
      go_wp2_with (first
        | (go_at_call 47; refine hD.mono ?_; rintro e w1 ⟨rfl, hb1⟩; have HB1 := Lib.hid (HB.out.below hb1); obtain ⟨c0, c1, c2, c3, c4, c5, f4, f5, hz⟩ := HB1.out)
        | (go_at_call 48; refine (hF _ hb1).mono ?_; rintro e w2 ⟨r, rfl, hr, hb2⟩; obtain ⟨ra, rc, rfl⟩ := hr.form; rw [← HL.out]; have HB2 := Lib.hid (HB1.out.below hb2); obtain ⟨d0, d1, d2, d3, d4, d5, g4, g5, hz2⟩ := HB2.out))
      rw [← HL.out] at hr
      refine bodyPost_ret (v := .agg #[.bool true, .slice ra lr rc]) (by simp [results, Tryd.results32, go_sem, d4, d5]) rfl ⟨_, rfl, hr.set2 d4 d5, ?_⟩
      have k1 := ((below3 w _ _ _).trans (hb1.mono (by simp; omega)))
      exact ((k1.trans (hb2.mono k1.size)).setCell (by show w.heap.size ≤ w.heap.size + 1 + 1; omega) _).setCell (by show w.heap.size ≤ w.heap.size + 1 + 1; omega) _
    · have hlr1 : lr = 0 := by omega
      rw [show decide (0 < lr) = false by simpa using hlr0] at ht
      subst ht
      subst hlr1
      go_enter Tryd.func32, Tryd.ntmps32
      go_wp2_with (first
        | (go_at_call 47; refine hD.mono ?_; rintro e w1 ⟨rfl, hb1⟩; have HB1 := Lib.hid (HB.out.below hb1); obtain ⟨c0, c1, c2, c3, c4, c5, f4, f5, hz⟩ := HB1.out)
        | (go_at_call 48; refine (hF _ hb1).mono ?_; rintro e w2 ⟨r, rfl, hr, hb2⟩; obtain ⟨ra, rc, rfl⟩ := hr.form; rw [← HL.out]; have HB2 := Lib.hid (HB1.out.below hb2); obtain ⟨d0, d1, d2, d3, d4, d5, g4, g5, hz2⟩ := HB2.out))
      rw [← HL.out] at hr
      refine bodyPost_ret (v := .agg #[.bool false, .slice ra 0 rc]) (by simp [results, Tryd.results32, go_sem, d4, d5]) rfl ⟨_, rfl, hr.set2 d4 d5, ?_⟩
      have k1 := ((below3 w _ _ _).trans (hb1.mono (by simp; omega)))
      exact ((k1.trans (hb2.mono k1.size)).setCell (by show w.heap.size ≤ w.heap.size + 1 + 1; omega) _).setCell (by show w.heap.size ≤ w.heap.size + 1 + 1; omega) _

end Go.Proofs.YtmmjkbjceocpmaaDoor
