/-
  What the document's own Plus, Minus and Cmp (of gavelkindref01) do, as whole numbers. The condition: at most 900 digits.
-/
import Derived.Test.YtmmjkbjceocpmaaDoorRefE
namespace Go.Proofs.YtmmjkbjceocpmaaDoor
open Go.RowKit
set_option linter.unusedVariables false

theorem keep3b {B : Nat} {w : World} {a b c p q : Value} (h0 : w.cell? ⟨B, 1, none⟩ = some a) (h1 : w.cell? ⟨B + 1, 0, none⟩ = some b) (h2 : w.cell? ⟨B + 1, 1, none⟩ = some c) :
    ((w.setCell ⟨B + 1 + 1, 0, none⟩ p).setCell ⟨B + 1 + 1, 1, none⟩ q).cell? ⟨B, 1, none⟩ = some a ∧ ((w.setCell ⟨B + 1 + 1, 0, none⟩ p).setCell ⟨B + 1 + 1, 1, none⟩ q).cell? ⟨B + 1, 0, none⟩ = some b ∧
    ((w.setCell ⟨B + 1 + 1, 0, none⟩ p).setCell ⟨B + 1 + 1, 1, none⟩ q).cell? ⟨B + 1, 1, none⟩ = some c := by
  refine ⟨?_, ?_, ?_⟩
  · rw [World.cell?_setCell_other _ _ _ _ (by simp), World.cell?_setCell_other _ _ _ _ (by simp)]; exact h0
  · rw [World.cell?_setCell_other _ _ _ _ (by simp), World.cell?_setCell_other _ _ _ _ (by simp)]; exact h1
  · rw [World.cell?_setCell_other _ _ _ _ (by simp), World.cell?_setCell_other _ _ _ _ (by simp)]; exact h2

theorem drewb {w w1 : World} (h : Below w.heap.size w w1) : Below w.heap.size w w1.drew := h.drew

set_option maxHeartbeats 1000000 in
theorem plus_lt (v v' : Value) (m n : Nat) (w : World) (s s' : Bool) (hne : (s == s') = false) (hlt : m < n) (hv : Sl w v (digs m)) (hv' : Sl w v' (digs n))
    (hl : (digs m).length ≤ 1000) (hl' : (digs n).length ≤ 1000) :
    Calls Tryd.prog 32 #[.agg #[.bool s, v], .agg #[.bool s', v']] w fun e w' => ∃ u, e = .returned (.agg #[.bool s', u]) ∧ Sl w' u (digs (n - m)) ∧ Below w.heap.size w w' := by
  have hD := digits_any v v' m n (((w.alloc (.cells #[.bool s, v] 56)).alloc (.cells #[.bool s', v'] 56)).alloc (.cells #[.bool false, .slice none 0 0] 56)) (hv.below (below3 w _ _ _)) (hv'.below (below3 w _ _ _)) hl hl'
  rw [cmp_lt hlt] at hD
  have hF := fun w1 (hb : Below (((w.alloc (.cells #[.bool s, v] 56)).alloc (.cells #[.bool s', v'] 56)).alloc (.cells #[.bool false, .slice none 0 0] 56)).heap.size _ w1) =>
    fewer_any v' v n m w1 (Nat.le_of_lt hlt) ((hv'.below (below3 w _ _ _)).below hb) ((hv.below (below3 w _ _ _)).below hb) hl'
  have HB := Lib.hid (Box3.init w (.bool s) v (.bool s') v' (.bool false) (.slice none 0 0) 56)
  clear hv hv'
  go_enter Tryd.func32, Tryd.ntmps32
  go_wp2_with (go_at_call 47; refine hD.mono ?_; rintro e w1 ⟨rfl, hb1⟩; have HB1 := Lib.hid (HB.out.below hb1); obtain ⟨c0, c1, c2, c3, c4, c5, f4, f5, hz⟩ := HB1.out)
  go_region_held3 (fun w' => w'.cell? ⟨w.heap.size, 1, none⟩ = some v ∧ w'.cell? ⟨w.heap.size + 1, 0, none⟩ = some (.bool s') ∧ w'.cell? ⟨w.heap.size + 1, 1, none⟩ = some v') (first | (exact ⟨c1, c2, c3⟩) | (exact ⟨d1, d2, d3⟩) | (exact keep3b d1 d2 d3))
    (first
      | (go_at_call 48; refine (hF _ hb1.drew).mono ?_; rintro e w2 ⟨r, rfl, hr, hb2⟩; obtain ⟨ra, rc, rfl⟩ := hr.form; obtain ⟨d0, d1, d2, d3, d4, d5, g4, g5, hz2⟩ := (HB.out.below hb1.drew).below hb2))
  go_wp2
  refine bodyPost_ret (v := .agg #[.bool s', .slice ra (digs (n - m)).length rc]) (by simp [results, Tryd.results32, go_sem, d4, d5]) rfl ⟨_, rfl, hr.set2 d4 d5, ?_⟩
  have k1 := ((below3 w _ _ _).trans (hb1.drew.mono (by simp; omega)))
  exact ((k1.trans (hb2.mono k1.size)).setCell (by show w.heap.size ≤ w.heap.size + 1 + 1; omega) _).setCell (by show w.heap.size ≤ w.heap.size + 1 + 1; omega) _

/-- Plus. -/
theorem bplus (v v' : Value) (x y : Int) (w : World) (hv : Big w v x) (hv' : Big w v' y) (hl : (digs x.natAbs).length ≤ 1000) (hl' : (digs y.natAbs).length ≤ 1000) :
    Calls Tryd.prog 32 #[v, v'] w fun e w' => ∃ u, e = .returned u ∧ Big w' u (x + y) ∧ Below w.heap.size w w' := by
  obtain ⟨u, rfl, hu⟩ := hv
  obtain ⟨u', rfl, hu'⟩ := hv'
  by_cases hs : decide (x < 0) = decide (y < 0)
  · rw [← hs]
    refine (plus_same u u' x y w (decide (x < 0)) hu hu' hl hl').mono ?_
    rintro e w' ⟨r, rfl, hr, hb⟩
    have e1 : x.natAbs + y.natAbs = (x + y).natAbs := by rw [decide_eq_decide] at hs; omega
    have e2 : decide (x < 0) = decide (x + y < 0) := by rw [decide_eq_decide] at hs ⊢; omega
    exact ⟨_, rfl, ⟨r, by rw [e2], by rw [← e1]; exact hr⟩, hb⟩
  · have hs' : (decide (x < 0) == decide (y < 0)) = false := by simpa using hs
    rw [decide_eq_decide] at hs
    by_cases hle : y.natAbs ≤ x.natAbs
    · refine (plus_ge u u' x.natAbs y.natAbs w _ _ _ hs' hle rfl hu hu' hl hl').mono ?_
      rintro e w' ⟨r, rfl, hr, hb⟩
      have e1 : x.natAbs - y.natAbs = (x + y).natAbs := by omega
      have e2 : (decide (x < 0) && decide (0 < (digs (x.natAbs - y.natAbs)).length)) = decide (x + y < 0) := by
        by_cases h0 : x.natAbs - y.natAbs = 0
        · rw [h0, digs_zero]; simp; omega
        · have := digs_pos_len h0
          rw [Bool.eq_iff_iff]; simp [this]; omega
      exact ⟨_, rfl, ⟨r, by rw [e2], by rw [← e1]; exact hr⟩, hb⟩
    · refine (plus_lt u u' x.natAbs y.natAbs w _ _ hs' (by omega) hu hu' hl hl').mono ?_
      rintro e w' ⟨r, rfl, hr, hb⟩
      have e1 : y.natAbs - x.natAbs = (x + y).natAbs := by omega
      have e2 : decide (y < 0) = decide (x + y < 0) := by rw [decide_eq_decide]; omega
      exact ⟨_, rfl, ⟨r, by rw [e2], by rw [← e1]; exact hr⟩, hb⟩
end Go.Proofs.YtmmjkbjceocpmaaDoor
