/-
  What the document's own Minus and Cmp (of gavelkindref01) do, as whole numbers. The condition: at most 900 digits.
-/
import Derived.Test.YtmmjkbjceocpmaaDoorRefF
namespace Go.Proofs.YtmmjkbjceocpmaaDoor
open Go.RowKit
set_option linter.unusedVariables false

theorem Big.form {w : World} {v : Value} {x : Int} (h : Big w v x) : ∃ a c, v = .agg #[.bool (decide (x < 0)), .slice a (digs x.natAbs).length c] := by
  obtain ⟨u, rfl, hu⟩ := h
  obtain ⟨a, c, rfl⟩ := hu.form
  exact ⟨a, c, rfl⟩
theorem Big.set2 {w : World} {v p q : Value} {x : Int} {B : Nat} {s : Bool} {a : Option Addr} {l c : Nat} (h : Big w v x) (h0 : w.cell? ⟨B, 0, none⟩ = some (.bool s)) (h1 : w.cell? ⟨B, 1, none⟩ = some (.slice a l c)) :
    Big ((w.setCell ⟨B, 0, none⟩ p).setCell ⟨B, 1, none⟩ q) v x := by
  obtain ⟨u, rfl, hu⟩ := h
  exact ⟨u, rfl, hu.set2 h0 h1⟩

theorem keep4 {B : Nat} {w : World} {a b c d p q : Value} (h0 : w.cell? ⟨B, 0, none⟩ = some a) (h1 : w.cell? ⟨B, 1, none⟩ = some b) (h2 : w.cell? ⟨B + 1, 0, none⟩ = some c) (h3 : w.cell? ⟨B + 1, 1, none⟩ = some d) :
    ((w.setCell ⟨B + 1 + 1, 0, none⟩ p).setCell ⟨B + 1 + 1, 1, none⟩ q).cell? ⟨B, 0, none⟩ = some a ∧ ((w.setCell ⟨B + 1 + 1, 0, none⟩ p).setCell ⟨B + 1 + 1, 1, none⟩ q).cell? ⟨B, 1, none⟩ = some b ∧
    ((w.setCell ⟨B + 1 + 1, 0, none⟩ p).setCell ⟨B + 1 + 1, 1, none⟩ q).cell? ⟨B + 1, 0, none⟩ = some c ∧ ((w.setCell ⟨B + 1 + 1, 0, none⟩ p).setCell ⟨B + 1 + 1, 1, none⟩ q).cell? ⟨B + 1, 1, none⟩ = some d := by
  refine ⟨?_, ?_, ?_, ?_⟩
  · rw [World.cell?_setCell_other _ _ _ _ (by simp), World.cell?_setCell_other _ _ _ _ (by simp)]; exact h0
  · rw [World.cell?_setCell_other _ _ _ _ (by simp), World.cell?_setCell_other _ _ _ _ (by simp)]; exact h1
  · rw [World.cell?_setCell_other _ _ _ _ (by simp), World.cell?_setCell_other _ _ _ _ (by simp)]; exact h2
  · rw [World.cell?_setCell_other _ _ _ _ (by simp), World.cell?_setCell_other _ _ _ _ (by simp)]; exact h3

set_option maxHeartbeats 1000000 in
/-- Minus. -/
theorem bminus (v v' : Value) (x y : Int) (w : World) (hv : Big w v x) (hv' : Big w v' y) (hl : (digs x.natAbs).length ≤ 1000) (hl' : (digs y.natAbs).length ≤ 1000) :
    Calls Tryd.prog 66 #[v, v'] w fun e w' => ∃ u, e = .returned u ∧ Big w' u (x - y) ∧ Below w.heap.size w w' := by
  obtain ⟨a, c, rfl⟩ := hv.form
  obtain ⟨a', c', rfl⟩ := hv'.form
  have HB := Lib.hid (Box3.init w (.bool (decide (x < 0))) (.slice a (digs x.natAbs).length c) (.bool (decide (y < 0))) (.slice a' (digs y.natAbs).length c') (.bool false) (.slice none 0 0) 56)
  have hFl := flip_any _ y _ (hv'.below (below3 w (.cells #[.bool (decide (x < 0)), .slice a (digs x.natAbs).length c] 56) (.cells #[.bool (decide (y < 0)), .slice a' (digs y.natAbs).length c'] 56) (.cells #[.bool false, .slice none 0 0] 56)).drew) hl'
  have HV := Lib.hid (hv.below (below3 w (.cells #[.bool (decide (x < 0)), .slice a (digs x.natAbs).length c] 56) (.cells #[.bool (decide (y < 0)), .slice a' (digs y.natAbs).length c'] 56) (.cells #[.bool false, .slice none 0 0] 56)).drew)
  have hln : (digs (-y).natAbs).length ≤ 1000 := by rw [Int.natAbs_neg]; exact hl'
  generalize hsx : decide (x < 0) = sx at *
  generalize hsy : decide (y < 0) = sy at *
  have HH := Lib.hid (And.intro hsx hsy)
  clear hsx hsy hv hv'
  obtain ⟨c0, c1, c2, c3, c4, c5, f4, f5, hz⟩ := HB.out
  go_enter Tryd.func66, Tryd.ntmps66
  go_wp2
  go_region_held3 (fun w' => w'.cell? ⟨w.heap.size, 0, none⟩ = some (.bool sx) ∧ w'.cell? ⟨w.heap.size, 1, none⟩ = some (.slice a (digs x.natAbs).length c) ∧ w'.cell? ⟨w.heap.size + 1, 0, none⟩ = some (.bool sy) ∧ w'.cell? ⟨w.heap.size + 1, 1, none⟩ = some (.slice a' (digs y.natAbs).length c')) (first | (exact ⟨c0, c1, c2, c3⟩) | (exact ⟨d0, d1, d2, d3⟩) | (exact ⟨e0, e1, e2, e3⟩) | (exact keep4 e0 e1 e2 e3))
    (first
      | (go_at_call 34; refine hFl.mono ?_; rintro e w1 ⟨r1, rfl, hr1, hb1⟩; have HB1 := Lib.hid ((HB.out.below (Below.refl _ _).drew).below hb1); obtain ⟨d0, d1, d2, d3, d4, d5, g4, g5, hz1⟩ := HB1.out)
      | (go_at_call 32; refine (bplus _ _ x (-y) _ (HV.out.below hb1) hr1 hl hln).mono ?_; rintro e w2 ⟨r2, rfl, hr2, hb2⟩; obtain ⟨ra, rc, rfl⟩ := hr2.form; obtain ⟨e0, e1, e2, e3, e4, e5, i4, i5, hz2⟩ := HB1.out.below hb2))
  go_wp2
  refine bodyPost_ret (v := .agg #[.bool (decide (x + -y < 0)), .slice ra (digs (x + -y).natAbs).length rc]) (by simp [results, Tryd.results66, go_sem, e4, e5]) rfl ⟨_, rfl, hr2.set2 e4 e5, ?_⟩
  have k1 := ((below3 w _ _ _).drew.trans (hb1.mono (by simp; omega)))
  exact ((k1.trans (hb2.mono k1.size)).setCell (by show w.heap.size ≤ w.heap.size + 1 + 1; omega) _).setCell (by show w.heap.size ≤ w.heap.size + 1 + 1; omega) _
theorem bplus_w {x y : Int} (w : World) (v v' : Value) (hv : Big w v x) (hv' : Big w v' y) (hl : (digs x.natAbs).length ≤ 1000) (hl' : (digs y.natAbs).length ≤ 1000) :
    Calls Tryd.prog 32 #[v, v'] w fun e w' => ∃ a c, e = .returned (.agg #[.bool (decide (x + y < 0)), .slice a (digs (x + y).natAbs).length c]) ∧ Big w' (.agg #[.bool (decide (x + y < 0)), .slice a (digs (x + y).natAbs).length c]) (x + y) ∧ Below w.heap.size w w' := by
  refine (bplus v v' x y w hv hv' hl hl').mono ?_
  rintro e w' ⟨u, rfl, hu, hb⟩
  obtain ⟨a, c, rfl⟩ := hu.form
  exact ⟨a, c, rfl, hu, hb⟩
end Go.Proofs.YtmmjkbjceocpmaaDoor
