/-
  What the document's own Plus (of gavelkindref01) does, as whole numbers. The condition: at most 900 digits. What the document's own Plus, Minus and Cmp (of gavelkindref01) do, as whole numbers. The condition: at most 900 digits. What the document's own Minus and Cmp (of gavelkindref01) do, as whole numbers. The condition: at most 900 digits. What the document's own Cmp and Of (of gavelkindref01) do, as whole numbers. The condition: at most 900 digits.
-/
import Derived.Test.YtebjmnppeohdiaaRf1
import Derived.Deep.RegionWith
import Derived.Deep.RegionHeld3
import Derived.StillTactics
import Derived.Laws.Pointers
namespace Go.Proofs.Ytebjmnppeohdiaa
open Go.RowKit
set_option linter.unusedVariables false

/- What the document's own Plus (of gavelkindref01) does, as whole numbers. The condition: at most 900 digits. -/
theorem boxed3 {w w1 : World} {c d e f g h : Value} {t : TypeId} (hb : Below (((w.alloc (.cells #[c, d] t)).alloc (.cells #[e, f] t)).alloc (.cells #[g, h] t)).drew.heap.size (((w.alloc (.cells #[c, d] t)).alloc (.cells #[e, f] t)).alloc (.cells #[g, h] t)).drew w1) :
    w1.cell? ⟨w.heap.size, 0, none⟩ = some c ∧ w1.cell? ⟨w.heap.size, 1, none⟩ = some d ∧ w1.cell? ⟨w.heap.size + 1, 1, none⟩ = some f ∧
    w1.cell? ⟨w.heap.size + 2, 0, none⟩ = some g ∧ w1.cell? ⟨w.heap.size + 2, 1, none⟩ = some h ∧ w1.frozen? ⟨w.heap.size + 2, 0, none⟩ = false ∧ w1.frozen? ⟨w.heap.size + 2, 1, none⟩ = false := by
  obtain ⟨bc, bf⟩ := bcell hb
  refine ⟨?_, ?_, ?_, ?_, ?_, ?_, ?_⟩
  · rw [bc _ _ (by simp <;> omega)]; simp [go_sem]
  · rw [bc _ _ (by simp <;> omega)]; simp [go_sem]
  · rw [bc _ _ (by simp <;> omega)]; simp [go_sem]
  · rw [bc _ _ (by simp <;> omega)]; simp [go_sem]
  · rw [bc _ _ (by simp <;> omega)]; simp [go_sem]
  · rw [bf _ _ (by simp <;> omega)]; simp [go_sem]
  · rw [bf _ _ (by simp <;> omega)]; simp [go_sem]

theorem keep3 {B : Nat} {w : World} {a b c p q : Value} (h0 : w.cell? ⟨B, 0, none⟩ = some a) (h1 : w.cell? ⟨B, 1, none⟩ = some b) (h2 : w.cell? ⟨B + 1, 1, none⟩ = some c) :
    ((w.setCell ⟨B + 1 + 1, 0, none⟩ p).setCell ⟨B + 1 + 1, 1, none⟩ q).cell? ⟨B, 0, none⟩ = some a ∧ ((w.setCell ⟨B + 1 + 1, 0, none⟩ p).setCell ⟨B + 1 + 1, 1, none⟩ q).cell? ⟨B, 1, none⟩ = some b ∧
    ((w.setCell ⟨B + 1 + 1, 0, none⟩ p).setCell ⟨B + 1 + 1, 1, none⟩ q).cell? ⟨B + 1, 1, none⟩ = some c := by
  refine ⟨?_, ?_, ?_⟩
  · rw [World.cell?_setCell_other _ _ _ _ (by simp), World.cell?_setCell_other _ _ _ _ (by simp)]; exact h0
  · rw [World.cell?_setCell_other _ _ _ _ (by simp), World.cell?_setCell_other _ _ _ _ (by simp)]; exact h1
  · rw [World.cell?_setCell_other _ _ _ _ (by simp), World.cell?_setCell_other _ _ _ _ (by simp)]; exact h2

theorem Sl.set {w : World} {v q x : Value} {L : List Int} {p : Addr} (h : Sl w v L) (hp : w.cell? p = some q) (hq : ∀ z, q ≠ .int .i64 z) : Sl (w.setCell p x) v L := by
  obtain ⟨a, cap, h1, h2, h3, h4, h5⟩ := h
  refine ⟨a, cap, h1, h2, h3, h4, fun i hi => ?_⟩
  obtain ⟨b, off, ha, hc⟩ := h5 i hi
  refine ⟨b, off, ha, ?_⟩
  rw [World.cell?_setCell_other _ _ _ _ (fun e => ?_)]
  · exact hc
  · rw [e, hc] at hp
    injection hp with hp
    exact hq _ hp.symm

theorem Sl.set2 {w : World} {v x y : Value} {L : List Int} {B : Nat} {s : Bool} {a : Option Addr} {l c : Nat} (h : Sl w v L) (h0 : w.cell? ⟨B, 0, none⟩ = some (.bool s)) (h1 : w.cell? ⟨B, 1, none⟩ = some (.slice a l c)) :
    Sl ((w.setCell ⟨B, 0, none⟩ x).setCell ⟨B, 1, none⟩ y) v L :=
  (h.set h0 (by simp)).set (q := .slice a l c) (by rw [World.cell?_setCell_other _ _ _ _ (by simp)]; exact h1) (by simp)

set_option maxHeartbeats 1000000 in
theorem plus_same (v v' : Value) (x y : Int) (w : World) (s : Bool) (hv : Sl w v (digs x.natAbs)) (hv' : Sl w v' (digs y.natAbs)) (hl : (digs x.natAbs).length ≤ 1000) (hl' : (digs y.natAbs).length ≤ 1000) :
    Calls Try.prog 83 #[.agg #[.bool s, v], .agg #[.bool s, v']] w fun e w' => ∃ u, e = .returned (.agg #[.bool s, u]) ∧ Sl w' u (digs (x.natAbs + y.natAbs)) ∧ Below w.heap.size w w' := by
  go_enter Try.func83, Try.ntmps83
  go_wp2
  go_region_held3 (fun w' => w'.cell? ⟨w.heap.size, 0, none⟩ = some (.bool s) ∧ w'.cell? ⟨w.heap.size, 1, none⟩ = some v ∧ w'.cell? ⟨w.heap.size + 1, 1, none⟩ = some v') (first | (exact ⟨c0, c1, c2⟩) | (exact keep3 c0 c1 c2) | (simp [go_sem, World.cell?_alloc_past]))
    (first
      | (go_at_call 69; refine (more_any v v' x.natAbs y.natAbs _ (hv.below (below3 w _ _ _).drew) (hv'.below (below3 w _ _ _).drew) hl hl').mono ?_; rintro e w1 ⟨r, rfl, hr, hb1⟩; obtain ⟨ra, rc, rfl⟩ := hr.form; obtain ⟨c0, c1, c2, c3, c4, f3, f4⟩ := boxed3 hb1))
  go_wp2
  refine bodyPost_ret (v := .agg #[.bool s, .slice ra (digs (x.natAbs + y.natAbs)).length rc]) (by simp [results, Try.results83, go_sem, c3, c4]) rfl ⟨_, rfl, hr.set2 c3 c4, ?_⟩
  exact (((below3 w _ _ _).drew.trans (hb1.mono (by simp; omega))).setCell (by show w.heap.size ≤ w.heap.size + 1 + 1; omega) _).setCell (by show w.heap.size ≤ w.heap.size + 1 + 1; omega) _

/-- What holds of the three blocks that a call has laid for its two arguments and its result. -/
def Box3 (B : Nat) (c d e f g h : Value) (w : World) : Prop :=
  w.cell? ⟨B, 0, none⟩ = some c ∧ w.cell? ⟨B, 1, none⟩ = some d ∧ w.cell? ⟨B + 1, 0, none⟩ = some e ∧ w.cell? ⟨B + 1, 1, none⟩ = some f ∧
    w.cell? ⟨B + 2, 0, none⟩ = some g ∧ w.cell? ⟨B + 2, 1, none⟩ = some h ∧ w.frozen? ⟨B + 2, 0, none⟩ = false ∧ w.frozen? ⟨B + 2, 1, none⟩ = false ∧ B + 2 < w.heap.size

theorem Box3.init (w : World) (c d e f g h : Value) (t : TypeId) : Box3 w.heap.size c d e f g h (((w.alloc (.cells #[c, d] t)).alloc (.cells #[e, f] t)).alloc (.cells #[g, h] t)) := by
  refine ⟨?_, ?_, ?_, ?_, ?_, ?_, ?_, ?_, ?_⟩ <;> simp [go_sem]
theorem Box3.below {B : Nat} {c d e f g h : Value} {w w1 : World} (hx : Box3 B c d e f g h w) (hb : Below w.heap.size w w1) : Box3 B c d e f g h w1 := by
  obtain ⟨h1, h2, h3, h4, h5, h6, h7, h8, h9⟩ := hx
  obtain ⟨bc, bf⟩ := bcell hb
  exact ⟨(bc _ _ (by omega)).trans h1, (bc _ _ (by omega)).trans h2, (bc _ _ (by omega)).trans h3, (bc _ _ (by omega)).trans h4, (bc _ _ (by omega)).trans h5, (bc _ _ (by omega)).trans h6,
    (bf _ _ (by omega)).trans h7, (bf _ _ (by omega)).trans h8, Nat.lt_of_lt_of_le h9 hb.size⟩

set_option maxHeartbeats 1000000 in
theorem plus_ge (v v' : Value) (m n : Nat) (w : World) (s s' t : Bool) (hne : (s == s') = false) (hle : n ≤ m) (ht : t = (s && decide (0 < (digs (m - n)).length))) (hv : Sl w v (digs m)) (hv' : Sl w v' (digs n))
    (hl : (digs m).length ≤ 1000) (hl' : (digs n).length ≤ 1000) :
    Calls Try.prog 83 #[.agg #[.bool s, v], .agg #[.bool s', v']] w fun e w' => ∃ u, e = .returned (.agg #[.bool t, u]) ∧ Sl w' u (digs (m - n)) ∧ Below w.heap.size w w' := by
  obtain ⟨cm, hcm, hcm0⟩ : ∃ cm, cm = cmpv m n ∧ 0 ≤ cm := ⟨_, rfl, by unfold cmpv; split <;> (try split) <;> omega⟩
  obtain ⟨lr, hlr⟩ : ∃ lr, lr = (digs (m - n)).length := ⟨_, rfl⟩
  rw [← hlr] at ht
  have hlr1 : lr ≤ 1000 := by rw [hlr]; have := digs_len_mono (show m - n ≤ m by omega); omega
  have HL := Lib.hid hlr
  have hD := digits_any v v' m n (((w.alloc (.cells #[.bool s, v] 88)).alloc (.cells #[.bool s', v'] 88)).alloc (.cells #[.bool false, .slice none 0 0] 88)) (hv.below (below3 w _ _ _)) (hv'.below (below3 w _ _ _)) hl hl'
  rw [← hcm] at hD
  clear hcm hlr
  have hF := fun w1 (hb : Below (((w.alloc (.cells #[.bool s, v] 88)).alloc (.cells #[.bool s', v'] 88)).alloc (.cells #[.bool false, .slice none 0 0] 88)).heap.size _ w1) =>
    fewer_any v v' m n w1 hle ((hv.below (below3 w _ _ _)).below hb) ((hv'.below (below3 w _ _ _)).below hb) hl
  have HB := Lib.hid (Box3.init w (.bool s) v (.bool s') v' (.bool false) (.slice none 0 0) 88)
  clear hv hv'
  have hcond : s = false ∧ t = false ∨ s = true ∧ t = decide (0 < lr) := by cases s <;> simp_all
  clear ht
  rcases hcond with ⟨rfl, rfl⟩ | ⟨rfl, ht⟩
  · skip
    go_enter Try.func83, Try.ntmps83
    go_wp2_with (first
      | (go_at_call 75; refine hD.mono ?_; rintro e w1 ⟨rfl, hb1⟩; have HB1 := Lib.hid (HB.out.below hb1); obtain ⟨c0, c1, c2, c3, c4, c5, f4, f5, hz⟩ := HB1.out)
      | (go_at_call 76; refine (hF _ hb1).mono ?_; rintro e w2 ⟨r, rfl, hr, hb2⟩; obtain ⟨ra, rc, rfl⟩ := hr.form; rw [← HL.out]; have HB2 := Lib.hid (HB1.out.below hb2); obtain ⟨d0, d1, d2, d3, d4, d5, g4, g5, hz2⟩ := HB2.out))
    rw [← HL.out] at hr
    refine bodyPost_ret (v := .agg #[.bool false, .slice ra lr rc]) (by simp [results, Try.results83, go_sem, d4, d5]) rfl ⟨_, rfl, hr.set2 d4 d5, ?_⟩
    have k1 := ((below3 w _ _ _).trans (hb1.mono (by simp; omega)))
    exact ((k1.trans (hb2.mono k1.size)).setCell (by show w.heap.size ≤ w.heap.size + 1 + 1; omega) _).setCell (by show w.heap.size ≤ w.heap.size + 1 + 1; omega) _
  · by_cases hlr0 : 0 < lr
    · rw [show decide (0 < lr) = true by simpa using hlr0] at ht
      subst ht
      go_enter Try.func83, Try.ntmps83
      go_wp2_with (first
        | (go_at_call 75; refine hD.mono ?_; rintro e w1 ⟨rfl, hb1⟩; have HB1 := Lib.hid (HB.out.below hb1); obtain ⟨c0, c1, c2, c3, c4, c5, f4, f5, hz⟩ := HB1.out)
        | (go_at_call 76; refine (hF _ hb1).mono ?_; rintro e w2 ⟨r, rfl, hr, hb2⟩; obtain ⟨ra, rc, rfl⟩ := hr.form; rw [← HL.out]; have HB2 := Lib.hid (HB1.out.below hb2); obtain ⟨d0, d1, d2, d3, d4, d5, g4, g5, hz2⟩ := HB2.out))
      rw [← HL.out] at hr
      refine bodyPost_ret (v := .agg #[.bool true, .slice ra lr rc]) (by simp [results, Try.results83, go_sem, d4, d5]) rfl ⟨_, rfl, hr.set2 d4 d5, ?_⟩
      have k1 := ((below3 w _ _ _).trans (hb1.mono (by simp; omega)))
      exact ((k1.trans (hb2.mono k1.size)).setCell (by show w.heap.size ≤ w.heap.size + 1 + 1; omega) _).setCell (by show w.heap.size ≤ w.heap.size + 1 + 1; omega) _
    · have hlr1 : lr = 0 := by omega
      rw [show decide (0 < lr) = false by simpa using hlr0] at ht
      subst ht
      subst hlr1
      go_enter Try.func83, Try.ntmps83
      go_wp2_with (first
        | (go_at_call 75; refine hD.mono ?_; rintro e w1 ⟨rfl, hb1⟩; have HB1 := Lib.hid (HB.out.below hb1); obtain ⟨c0, c1, c2, c3, c4, c5, f4, f5, hz⟩ := HB1.out)
        | (go_at_call 76; refine (hF _ hb1).mono ?_; rintro e w2 ⟨r, rfl, hr, hb2⟩; obtain ⟨ra, rc, rfl⟩ := hr.form; rw [← HL.out]; have HB2 := Lib.hid (HB1.out.below hb2); obtain ⟨d0, d1, d2, d3, d4, d5, g4, g5, hz2⟩ := HB2.out))
      rw [← HL.out] at hr
      refine bodyPost_ret (v := .agg #[.bool false, .slice ra 0 rc]) (by simp [results, Try.results83, go_sem, d4, d5]) rfl ⟨_, rfl, hr.set2 d4 d5, ?_⟩
      have k1 := ((below3 w _ _ _).trans (hb1.mono (by simp; omega)))
      exact ((k1.trans (hb2.mono k1.size)).setCell (by show w.heap.size ≤ w.heap.size + 1 + 1; omega) _).setCell (by show w.heap.size ≤ w.heap.size + 1 + 1; omega) _

/- What the document's own Plus, Minus and Cmp (of gavelkindref01) do, as whole numbers. The condition: at most 900 digits. -/
theorem keep3b {B : Nat} {w : World} {a b c p q : Value} (h0 : w.cell? ⟨B, 1, none⟩ = some a) (h1 : w.cell? ⟨B + 1, 0, none⟩ = some b) (h2 : w.cell? ⟨B + 1, 1, none⟩ = some c) :
    ((w.setCell ⟨B + 1 + 1, 0, none⟩ p).setCell ⟨B + 1 + 1, 1, none⟩ q).cell? ⟨B, 1, none⟩ = some a ∧ ((w.setCell ⟨B + 1 + 1, 0, none⟩ p).setCell ⟨B + 1 + 1, 1, none⟩ q).cell? ⟨B + 1, 0, none⟩ = some b ∧
    ((w.setCell ⟨B + 1 + 1, 0, none⟩ p).setCell ⟨B + 1 + 1, 1, none⟩ q).cell? ⟨B + 1, 1, none⟩ = some c := by
  refine ⟨?_, ?_, ?_⟩
  · rw [World.cell?_setCell_other _ _ _ _ (by simp), World.cell?_setCell_other _ _ _ _ (by simp)]; exact h0
  · rw [World.cell?_setCell_other _ _ _ _ (by simp), World.cell?_setCell_other _ _ _ _ (by simp)]; exact h1
  · rw [World.cell?_setCell_other _ _ _ _ (by simp), World.cell?_setCell_other _ _ _ _ (by simp)]; exact h2

theorem drewb {w w1 : World} (h : Below w.heap.size w w1) : Below w.heap.size w w1.drew := h.drew

set_option maxHeartbeats 1000000 in
theorem plus_lt (v v' : Value) (m n : Nat) (w : World) (s s' : Bool) (hne : (s == s') = false) (hlt : m < n) (hv : Sl w v (digs m)) (hv' : Sl w v' (digs n))
    (hl : (digs m).length ≤ 1000) (hl' : (digs n).length ≤ 1000) :
    Calls Try.prog 83 #[.agg #[.bool s, v], .agg #[.bool s', v']] w fun e w' => ∃ u, e = .returned (.agg #[.bool s', u]) ∧ Sl w' u (digs (n - m)) ∧ Below w.heap.size w w' := by
  have hD := digits_any v v' m n (((w.alloc (.cells #[.bool s, v] 88)).alloc (.cells #[.bool s', v'] 88)).alloc (.cells #[.bool false, .slice none 0 0] 88)) (hv.below (below3 w _ _ _)) (hv'.below (below3 w _ _ _)) hl hl'
  rw [cmp_lt hlt] at hD
  have hF := fun w1 (hb : Below (((w.alloc (.cells #[.bool s, v] 88)).alloc (.cells #[.bool s', v'] 88)).alloc (.cells #[.bool false, .slice none 0 0] 88)).heap.size _ w1) =>
    fewer_any v' v n m w1 (Nat.le_of_lt hlt) ((hv'.below (below3 w _ _ _)).below hb) ((hv.below (below3 w _ _ _)).below hb) hl'
  have HB := Lib.hid (Box3.init w (.bool s) v (.bool s') v' (.bool false) (.slice none 0 0) 88)
  clear hv hv'
  go_enter Try.func83, Try.ntmps83
  go_wp2_with (go_at_call 75; refine hD.mono ?_; rintro e w1 ⟨rfl, hb1⟩; have HB1 := Lib.hid (HB.out.below hb1); obtain ⟨c0, c1, c2, c3, c4, c5, f4, f5, hz⟩ := HB1.out)
  go_region_held3 (fun w' => w'.cell? ⟨w.heap.size, 1, none⟩ = some v ∧ w'.cell? ⟨w.heap.size + 1, 0, none⟩ = some (.bool s') ∧ w'.cell? ⟨w.heap.size + 1, 1, none⟩ = some v') (first | (exact ⟨c1, c2, c3⟩) | (exact ⟨d1, d2, d3⟩) | (exact keep3b d1 d2 d3))
    (first
      | (go_at_call 76; refine (hF _ hb1.drew).mono ?_; rintro e w2 ⟨r, rfl, hr, hb2⟩; obtain ⟨ra, rc, rfl⟩ := hr.form; obtain ⟨d0, d1, d2, d3, d4, d5, g4, g5, hz2⟩ := (HB.out.below hb1.drew).below hb2))
  go_wp2
  refine bodyPost_ret (v := .agg #[.bool s', .slice ra (digs (n - m)).length rc]) (by simp [results, Try.results83, go_sem, d4, d5]) rfl ⟨_, rfl, hr.set2 d4 d5, ?_⟩
  have k1 := ((below3 w _ _ _).trans (hb1.drew.mono (by simp; omega)))
  exact ((k1.trans (hb2.mono k1.size)).setCell (by show w.heap.size ≤ w.heap.size + 1 + 1; omega) _).setCell (by show w.heap.size ≤ w.heap.size + 1 + 1; omega) _

/-- Plus. -/
theorem bplus (v v' : Value) (x y : Int) (w : World) (hv : Big w v x) (hv' : Big w v' y) (hl : (digs x.natAbs).length ≤ 1000) (hl' : (digs y.natAbs).length ≤ 1000) :
    Calls Try.prog 83 #[v, v'] w fun e w' => ∃ u, e = .returned u ∧ Big w' u (x + y) ∧ Below w.heap.size w w' := by
  obtain ⟨u, rfl, hu⟩ := hv
  obtain ⟨u', rfl, hu'⟩ := hv'
  by_cases hs : decide (x < 0) = decide (y < 0)
  · rw [← hs]
    refine (plus_same u u' x y w (decide (x < 0)) hu hu' hl hl').mono ?_
    rintro e w' ⟨r, rfl, hr, hb⟩
    have e1 : x.natAbs + y.natAbs = (x + y).natAbs := by rw [decide_eq_decide] at hs; omega
    have e2 : decide (x < 0) = decide (x + y < 0) := by rw [decide_eq_decide] at hs ⊢; omega
    exact ⟨_, rfl, ⟨r, by rw [e2], by rw [← e1]; exact hr⟩, hb⟩
  · have hs' : (decide (x < 0) == decide (y < 0)) = false := by simpa using hs
    rw [decide_eq_decide] at hs
    by_cases hle : y.natAbs ≤ x.natAbs
    · refine (plus_ge u u' x.natAbs y.natAbs w _ _ _ hs' hle rfl hu hu' hl hl').mono ?_
      rintro e w' ⟨r, rfl, hr, hb⟩
      have e1 : x.natAbs - y.natAbs = (x + y).natAbs := by omega
      have e2 : (decide (x < 0) && decide (0 < (digs (x.natAbs - y.natAbs)).length)) = decide (x + y < 0) := by
        by_cases h0 : x.natAbs - y.natAbs = 0
        · rw [h0, digs_zero]; simp; omega
        · have := digs_pos_len h0
          rw [Bool.eq_iff_iff]; simp [this]; omega
      exact ⟨_, rfl, ⟨r, by rw [e2], by rw [← e1]; exact hr⟩, hb⟩
    · refine (plus_lt u u' x.natAbs y.natAbs w _ _ hs' (by omega) hu hu' hl hl').mono ?_
      rintro e w' ⟨r, rfl, hr, hb⟩
      have e1 : y.natAbs - x.natAbs = (x + y).natAbs := by omega
      have e2 : decide (y < 0) = decide (x + y < 0) := by rw [decide_eq_decide]; omega
      exact ⟨_, rfl, ⟨r, by rw [e2], by rw [← e1]; exact hr⟩, hb⟩
/- What the document's own Minus and Cmp (of gavelkindref01) do, as whole numbers. The condition: at most 900 digits. -/
theorem Big.form {w : World} {v : Value} {x : Int} (h : Big w v x) : ∃ a c, v = .agg #[.bool (decide (x < 0)), .slice a (digs x.natAbs).length c] := by
  obtain ⟨u, rfl, hu⟩ := h
  obtain ⟨a, c, rfl⟩ := hu.form
  exact ⟨a, c, rfl⟩
theorem Big.set2 {w : World} {v p q : Value} {x : Int} {B : Nat} {s : Bool} {a : Option Addr} {l c : Nat} (h : Big w v x) (h0 : w.cell? ⟨B, 0, none⟩ = some (.bool s)) (h1 : w.cell? ⟨B, 1, none⟩ = some (.slice a l c)) :
    Big ((w.setCell ⟨B, 0, none⟩ p).setCell ⟨B, 1, none⟩ q) v x := by
  obtain ⟨u, rfl, hu⟩ := h
  exact ⟨u, rfl, hu.set2 h0 h1⟩

theorem keep4 {B : Nat} {w : World} {a b c d p q : Value} (h0 : w.cell? ⟨B, 0, none⟩ = some a) (h1 : w.cell? ⟨B, 1, none⟩ = some b) (h2 : w.cell? ⟨B + 1, 0, none⟩ = some c) (h3 : w.cell? ⟨B + 1, 1, none⟩ = some d) :
    ((w.setCell ⟨B + 1 + 1, 0, none⟩ p).setCell ⟨B + 1 + 1, 1, none⟩ q).cell? ⟨B, 0, none⟩ = some a ∧ ((w.setCell ⟨B + 1 + 1, 0, none⟩ p).setCell ⟨B + 1 + 1, 1, none⟩ q).cell? ⟨B, 1, none⟩ = some b ∧
    ((w.setCell ⟨B + 1 + 1, 0, none⟩ p).setCell ⟨B + 1 + 1, 1, none⟩ q).cell? ⟨B + 1, 0, none⟩ = some c ∧ ((w.setCell ⟨B + 1 + 1, 0, none⟩ p).setCell ⟨B + 1 + 1, 1, none⟩ q).cell? ⟨B + 1, 1, none⟩ = some d := by
  refine ⟨?_, ?_, ?_, ?_⟩
  · rw [World.cell?_setCell_other _ _ _ _ (by simp), World.cell?_setCell_other _ _ _ _ (by simp)]; exact h0
  · rw [World.cell?_setCell_other _ _ _ _ (by simp), World.cell?_setCell_other _ _ _ _ (by simp)]; exact h1
  · rw [World.cell?_setCell_other _ _ _ _ (by simp), World.cell?_setCell_other _ _ _ _ (by simp)]; exact h2
  · rw [World.cell?_setCell_other _ _ _ _ (by simp), World.cell?_setCell_other _ _ _ _ (by simp)]; exact h3

set_option maxHeartbeats 1000000 in
/-- Minus. -/
theorem bminus (v v' : Value) (x y : Int) (w : World) (hv : Big w v x) (hv' : Big w v' y) (hl : (digs x.natAbs).length ≤ 1000) (hl' : (digs y.natAbs).length ≤ 1000) :
    Calls Try.prog 78 #[v, v'] w fun e w' => ∃ u, e = .returned u ∧ Big w' u (x - y) ∧ Below w.heap.size w w' := by
  obtain ⟨a, c, rfl⟩ := hv.form
  obtain ⟨a', c', rfl⟩ := hv'.form
  have HB := Lib.hid (Box3.init w (.bool (decide (x < 0))) (.slice a (digs x.natAbs).length c) (.bool (decide (y < 0))) (.slice a' (digs y.natAbs).length c') (.bool false) (.slice none 0 0) 88)
  have hFl := flip_any _ y _ (hv'.below (below3 w (.cells #[.bool (decide (x < 0)), .slice a (digs x.natAbs).length c] 88) (.cells #[.bool (decide (y < 0)), .slice a' (digs y.natAbs).length c'] 88) (.cells #[.bool false, .slice none 0 0] 88)).drew) hl'
  have HV := Lib.hid (hv.below (below3 w (.cells #[.bool (decide (x < 0)), .slice a (digs x.natAbs).length c] 88) (.cells #[.bool (decide (y < 0)), .slice a' (digs y.natAbs).length c'] 88) (.cells #[.bool false, .slice none 0 0] 88)).drew)
  have hln : (digs (-y).natAbs).length ≤ 1000 := by rw [Int.natAbs_neg]; exact hl'
  generalize hsx : decide (x < 0) = sx at *
  generalize hsy : decide (y < 0) = sy at *
  have HH := Lib.hid (And.intro hsx hsy)
  clear hsx hsy hv hv'
  obtain ⟨c0, c1, c2, c3, c4, c5, f4, f5, hz⟩ := HB.out
  go_enter Try.func78, Try.ntmps78
  go_wp2
  go_region_held3 (fun w' => w'.cell? ⟨w.heap.size, 0, none⟩ = some (.bool sx) ∧ w'.cell? ⟨w.heap.size, 1, none⟩ = some (.slice a (digs x.natAbs).length c) ∧ w'.cell? ⟨w.heap.size + 1, 0, none⟩ = some (.bool sy) ∧ w'.cell? ⟨w.heap.size + 1, 1, none⟩ = some (.slice a' (digs y.natAbs).length c')) (first | (exact ⟨c0, c1, c2, c3⟩) | (exact ⟨d0, d1, d2, d3⟩) | (exact ⟨e0, e1, e2, e3⟩) | (exact keep4 e0 e1 e2 e3))
    (first
      | (go_at_call 77; refine hFl.mono ?_; rintro e w1 ⟨r1, rfl, hr1, hb1⟩; have HB1 := Lib.hid ((HB.out.below (Below.refl _ _).drew).below hb1); obtain ⟨d0, d1, d2, d3, d4, d5, g4, g5, hz1⟩ := HB1.out)
      | (go_at_call 83; refine (bplus _ _ x (-y) _ (HV.out.below hb1) hr1 hl hln).mono ?_; rintro e w2 ⟨r2, rfl, hr2, hb2⟩; obtain ⟨ra, rc, rfl⟩ := hr2.form; obtain ⟨e0, e1, e2, e3, e4, e5, i4, i5, hz2⟩ := HB1.out.below hb2))
  go_wp2
  refine bodyPost_ret (v := .agg #[.bool (decide (x + -y < 0)), .slice ra (digs (x + -y).natAbs).length rc]) (by simp [results, Try.results78, go_sem, e4, e5]) rfl ⟨_, rfl, hr2.set2 e4 e5, ?_⟩
  have k1 := ((below3 w _ _ _).drew.trans (hb1.mono (by simp; omega)))
  exact ((k1.trans (hb2.mono k1.size)).setCell (by show w.heap.size ≤ w.heap.size + 1 + 1; omega) _).setCell (by show w.heap.size ≤ w.heap.size + 1 + 1; omega) _
theorem bplus_w {x y : Int} (w : World) (v v' : Value) (hv : Big w v x) (hv' : Big w v' y) (hl : (digs x.natAbs).length ≤ 1000) (hl' : (digs y.natAbs).length ≤ 1000) :
    Calls Try.prog 83 #[v, v'] w fun e w' => ∃ a c, e = .returned (.agg #[.bool (decide (x + y < 0)), .slice a (digs (x + y).natAbs).length c]) ∧ Big w' (.agg #[.bool (decide (x + y < 0)), .slice a (digs (x + y).natAbs).length c]) (x + y) ∧ Below w.heap.size w w' := by
  refine (bplus v v' x y w hv hv' hl hl').mono ?_
  rintro e w' ⟨u, rfl, hu, hb⟩
  obtain ⟨a, c, rfl⟩ := hu.form
  exact ⟨a, c, rfl, hu, hb⟩
/- What the document's own Cmp and Of (of gavelkindref01) do, as whole numbers. The condition: at most 900 digits. -/
theorem cmpv_neg {x y : Int} (h : x - y < 0) : -1 = cmpv x y := by unfold cmpv; rw [if_pos (by omega)]
theorem cmpv_pos {x y : Int} (h : 0 < x - y) : 1 = cmpv x y := by unfold cmpv; rw [if_neg (by omega), if_pos (by omega)]
theorem cmpv_nil {x y : Int} (h : x - y = 0) : 0 = cmpv x y := by unfold cmpv; rw [if_neg (by omega), if_neg (by omega)]

set_option maxHeartbeats 1000000 in
/-- Cmp. -/
theorem bcmp (v v' : Value) (x y : Int) (w : World) (hv : Big w v x) (hv' : Big w v' y) (hl : (digs x.natAbs).length ≤ 1000) (hl' : (digs y.natAbs).length ≤ 1000) (hd : (digs (x - y).natAbs).length ≤ 2000) :
    Calls Try.prog 67 #[v, v'] w fun e w' => e = .returned (.int .i64 (cmpv x y)) ∧ Below w.heap.size w w' := by
  obtain ⟨a, c, rfl⟩ := hv.form
  obtain ⟨a', c', rfl⟩ := hv'.form
  have hM := bminus _ _ x y _ (hv.below (below2 w (.cells #[.bool (decide (x < 0)), .slice a (digs x.natAbs).length c] 88) (.cells #[.bool (decide (y < 0)), .slice a' (digs y.natAbs).length c'] 88)))
    (hv'.below (below2 w (.cells #[.bool (decide (x < 0)), .slice a (digs x.natAbs).length c] 88) (.cells #[.bool (decide (y < 0)), .slice a' (digs y.natAbs).length c'] 88))) hl hl'
  clear hv hv'
  rcases Int.lt_trichotomy (x - y) 0 with h | h | h
  · have e1 : decide (x - y < 0) = true := by simpa using h
    have HC := Lib.hid (cmpv_neg h); clear h
    go_enter Try.func67, Try.ntmps67
    go_wp2_with (go_at_call 78; refine hM.mono ?_; rintro e w1 ⟨r1, rfl, hr1, hb1⟩; obtain ⟨ra, rc, rfl⟩ := hr1.form; rw [e1]; clear e1)
    go_ret
    exact ⟨ret_int HC.out, ((below2 _ _ _).trans (hb1.mono (by simp; omega))).alloc (by have := hb1.size; simp at this; omega) _⟩
  · have e1 : decide (x - y < 0) = false := by simp; omega
    have e2 : (digs (x - y).natAbs).length = 0 := by rw [h]; simp [digs_zero]
    have HC := Lib.hid (cmpv_nil h); clear h
    go_enter Try.func67, Try.ntmps67
    go_wp2_with (go_at_call 78; refine hM.mono ?_; rintro e w1 ⟨r1, rfl, hr1, hb1⟩; obtain ⟨ra, rc, rfl⟩ := hr1.form; rw [e1, e2]; clear e1 e2)
    go_ret
    exact ⟨ret_int HC.out, ((below2 _ _ _).trans (hb1.mono (by simp; omega))).alloc (by have := hb1.size; simp at this; omega) _⟩
  · have e1 : decide (x - y < 0) = false := by simp; omega
    have e2 : 0 < (digs (x - y).natAbs).length := digs_pos_len (by omega)
    have HC := Lib.hid (cmpv_pos h); clear h
    go_enter Try.func67, Try.ntmps67
    go_wp2_with (go_at_call 78; refine hM.mono ?_; rintro e w1 ⟨r1, rfl, hr1, hb1⟩; obtain ⟨ra, rc, rfl⟩ := hr1.form; rw [e1]; clear e1)
    go_ret
    exact ⟨ret_int HC.out, ((below2 _ _ _).trans (hb1.mono (by simp; omega))).alloc (by have := hb1.size; simp at this; omega) _⟩

/-- What holds of the two blocks of Of while it goes on. -/
def OfBox (B : Nat) (s : Bool) (v : Value) (w : World) : Prop :=
  w.cell? ⟨B, 0, none⟩ = some (.bool false) ∧ w.cell? ⟨B, 1, none⟩ = some (.slice none 0 0) ∧ w.frozen? ⟨B, 0, none⟩ = false ∧ w.frozen? ⟨B, 1, none⟩ = false ∧
    w.cell? ⟨B + 1, 0, none⟩ = some (.bool s) ∧ w.cell? ⟨B + 1, 1, none⟩ = some v ∧ w.frozen? ⟨B + 1, 1, none⟩ = false ∧ B + 2 ≤ w.heap.size

theorem OfBox.below {B : Nat} {s : Bool} {v : Value} {w w1 : World} (h : OfBox B s v w) (hb : Below (B + 2) w w1) : OfBox B s v w1 := by
  obtain ⟨h1, h2, h3, h4, h5, h6, h7, h8⟩ := h
  have bc : ∀ b o, b < B + 2 → w1.cell? ⟨b, o, none⟩ = w.cell? ⟨b, o, none⟩ := fun b o hh => hb.cell (p := ⟨b, o, none⟩) hh
  have bf : ∀ b o, b < B + 2 → w1.frozen? ⟨b, o, none⟩ = w.frozen? ⟨b, o, none⟩ := fun b o hh => hb.frozen (p := ⟨b, o, none⟩) hh
  exact ⟨(bc _ _ (by omega)).trans h1, (bc _ _ (by omega)).trans h2, (bf _ _ (by omega)).trans h3, (bf _ _ (by omega)).trans h4, (bc _ _ (by omega)).trans h5, (bc _ _ (by omega)).trans h6, (bf _ _ (by omega)).trans h7, Nat.le_trans h8 hb.size⟩

theorem OfBox.store {B : Nat} {s : Bool} {v v' : Value} {w : World} (h : OfBox B s v w) : OfBox B s v' (w.setCell ⟨B + 1, 1, none⟩ v') := by
  obtain ⟨h1, h2, h3, h4, h5, h6, h7, h8⟩ := h
  refine ⟨?_, ?_, by simpa using h3, by simpa using h4, ?_, World.cell?_setCell_same _ _ _ h6, by simpa using h7, by simpa [World.setCell] using h8⟩
  · rw [World.cell?_setCell_other _ _ _ _ (by simp)]; exact h1
  · rw [World.cell?_setCell_other _ _ _ _ (by simp)]; exact h2
  · rw [World.cell?_setCell_other _ _ _ _ (by simp)]; exact h5

/-- What holds while Of goes on: b's digits so far, and what is left. -/
def OfRel (n : Int) (s : Bool) (w : World) (x : Value) (wr : World) : Prop :=
  ∃ (y : Int) (O : List Int) (v : Value), x = .int .i64 y ∧ InR y ∧ digs n.natAbs = O ++ digs y.natAbs ∧ OfBox w.heap.size s v wr ∧ Own wr (w.heap.size + 2) v O ∧ Below w.heap.size w wr

theorem Own.form {w : World} {base : Nat} {v : Value} {L : List Int} (h : Own w base v L) : ∃ a cap, v = .slice a L.length cap := by
  rcases h.2 with ⟨rfl, h0⟩ | ⟨g, cap, cur, rfl, _⟩
  · exact ⟨none, 0, by rw [h0]⟩
  · exact ⟨some ⟨g, 0, none⟩, cap, rfl⟩

theorem of_next {n y q z : Int} {O : List Int} {s : Bool} {v v' : Value} {w wr w1 : World} (hd : digs n.natAbs = O ++ digs y.natAbs) (hy : y ≠ 0) (hq : InR q) (h1 : q.natAbs = y.natAbs / 10) (h2 : z = ((y.natAbs % 10 : Nat) : Int))
    (hbox : OfBox w.heap.size s v wr) (hb : Below w.heap.size w wr) (hown : Own w1 (w.heap.size + 2) v' (O ++ [z])) (hb1 : Below (w.heap.size + 2) wr w1) :
    OfRel n s w (.int .i64 q) (w1.setCell ⟨w.heap.size + 1, 1, none⟩ v') := by
  refine ⟨q, O ++ [z], v', rfl, hq, ?_, (hbox.below hb1).store, ownsRow_setCell_below hown (by show w.heap.size + 1 < w.heap.size + 2; omega) _, ?_⟩
  · rw [hd, digs_pos (n := y.natAbs) (by omega), h1, h2]; simp
  · exact (hb.trans (hb1.mono (by omega))).setCell (by show w.heap.size ≤ w.heap.size + 1; omega) _

theorem digs_19 {y : Int} (h : InR y) : (digs y.natAbs).length ≤ 19 := digs_len _ _ (by unfold InR at h; omega)

theorem of_last {n : Int} {O : List Int} {w : World} {v : Value} {B : Nat} {s : Bool} (hd : digs n.natAbs = O ++ digs (Int.natAbs 0)) (hown : Own w (B + 2) v O) (hs : s = decide (n < 0)) :
    Big w (.agg #[.bool s, v]) n := by
  have e : digs n.natAbs = O := by rw [hd]; simp [digs_zero]
  refine ⟨v, by rw [hs], ?_⟩
  rw [e]
  exact hown.sl (digs_inR (by rw [← e]; exact digs_ok _))

theorem tmod_neg10 (y : Int) (h : y < 0) : y.tmod 10 = -((-y) % 10) := by
  have := Int.neg_tmod (-y) 10
  rw [Int.neg_neg] at this
  rw [this, Int.tmod_eq_emod_of_nonneg (a := -y) (by omega)]
theorem tdiv_neg10 (y : Int) (h : y < 0) : y.tdiv 10 = -((-y) / 10) := by
  have := Int.neg_tdiv (-y) 10
  rw [Int.neg_neg] at this
  rw [this, Int.tdiv_eq_ediv_of_nonneg (a := -y) (by omega)]

set_option maxHeartbeats 1000000 in
theorem of_any (n : Int) (hn : InR n) (w : World) :
    Calls Try.prog 59 #[.int .i64 n] w fun e w' => ∃ u, e = .returned u ∧ Big w' u n ∧ Below w.heap.size w w' := by
  obtain ⟨s, hs⟩ : ∃ s, decide (n < 0) = s := ⟨_, rfl⟩
  go_enter Try.func59, Try.ntmps59
  go_wp2
  have HN := Lib.hid (And.intro hn hs); clear hn hs
  go_loopw [4] (fun x wr => OfRel n s w x wr) (fun x _ => (intOf x).natAbs)
  case atStart =>
    refine ⟨n, [], .slice none 0 0, rfl, HN.out.1, by simp, ⟨?_, ?_, ?_, ?_, ?_, ?_, ?_, ?_⟩, Own.nil _ _, below2 _ _ _⟩ <;> simp [go_sem]
  case round =>
    obtain ⟨y, O, v, rfl, hy, hd, hbox, hown, hb⟩ := hrel
    have hlen : O.length ≤ 19 := by have := digs_19 HN.out.1; rw [hd, List.length_append] at this; omega
    have HD := Lib.hid hd; clear hd
    obtain ⟨a0, c0, rfl⟩ := hown.form
    have hb2 := hbox.2.2.2.2.2.2.2
    have HB := Lib.hid hbox
    obtain ⟨k1, k2, k3, k4, k5, k6, k7, k8⟩ := hbox
    have HY := Lib.hid hy
    unfold InR at hy
    rcases Int.lt_trichotomy y 0 with h0 | h0 | h0
    · obtain ⟨d, hd⟩ : ∃ d, d = (-y) % 10 := ⟨_, rfl⟩
      obtain ⟨q, hq⟩ : ∃ q, q = (-y) / 10 := ⟨_, rfl⟩
      have e1 : y.tmod 10 = -d := by rw [hd]; exact tmod_neg10 y h0
      have e2 : y.tdiv 10 = -q := by rw [hq]; exact tdiv_neg10 y h0
      have hd0 : 0 ≤ d := by omega
      have hd9 : d ≤ 9 := by omega
      have hq0 : 0 ≤ q := by omega
      have hq9 : q ≤ 922337203685477580 := by omega
      have HE := Lib.hid (And.intro hd hq); clear hd hq
      by_cases hz : d = 0
      · subst hz
        go_wp2_with (at_builtin; refine wp_push wr rfl (.tmp 21) (.tmp 23) rfl (w.heap.size + 2) _ O _ rfl hown rfl (by omega) hb2 ?_; intro v1 w1 hown1 hb1; obtain ⟨a1, c1, rfl⟩ := hown1.form; simp only [List.length_append, List.length_cons, List.length_nil, Nat.zero_add] at hown1; obtain ⟨l1, l2, l3, l4, l5, l6, l7, l8⟩ := HB.out.below hb1)
        exact ⟨of_next HD.out (by omega) (by unfold InR; omega) (by have := HE.out; omega) (by have := HE.out; omega) HB.out hb hown1 hb1, by simp [intOf]; have := HE.out; omega⟩
      · have hz' : -d < 0 := by omega
        go_wp2_with (at_builtin; refine wp_push wr rfl (.tmp 21) (.tmp 23) rfl (w.heap.size + 2) _ O _ rfl hown rfl (by omega) hb2 ?_; intro v1 w1 hown1 hb1; obtain ⟨a1, c1, rfl⟩ := hown1.form; simp only [List.length_append, List.length_cons, List.length_nil, Nat.zero_add] at hown1; obtain ⟨l1, l2, l3, l4, l5, l6, l7, l8⟩ := HB.out.below hb1)
        exact ⟨of_next HD.out (by omega) (by unfold InR; omega) (by have := HE.out; omega) (by have := HE.out; omega) HB.out hb hown1 hb1, by simp [intOf]; have := HE.out; omega⟩
    · subst h0
      go_wp2
      refine bodyPost_ret (v := .agg #[.bool s, .slice a0 O.length c0]) (by simp [results, Try.results59, go_sem, k1, k2]) rfl ⟨_, rfl, (of_last HD.out hown HN.out.2.symm).set2 k1 k2, ?_⟩
      exact (hb.setCell (Nat.le_refl _) _).setCell (Nat.le_refl _) _
    · go_wp2_with (at_builtin; refine wp_push wr rfl (.tmp 21) (.tmp 23) rfl (w.heap.size + 2) _ O _ rfl hown rfl (by omega) hb2 ?_; intro v1 w1 hown1 hb1; obtain ⟨a1, c1, rfl⟩ := hown1.form; simp only [List.length_append, List.length_cons, List.length_nil, Nat.zero_add] at hown1; obtain ⟨l1, l2, l3, l4, l5, l6, l7, l8⟩ := HB.out.below hb1)
      exact ⟨of_next HD.out (by omega) (by unfold InR; omega) (by omega) (by omega) HB.out hb hown1 hb1, by simp [intOf]; omega⟩
end Go.Proofs.Ytebjmnppeohdiaa
