/-
  Blocks of four cells that are there and may be written: how they are laid anew, what keeps them. No Go function is walked here.
-/
import Derived.Test.YtogckefmmjbapaaTurnM
namespace Go.Proofs.Ytogckefmmjbapaa
open Go.RowKit
set_option linter.unusedSimpArgs false
set_option linter.unusedVariables false

/-- A block of four cells that is there and may be written. -/
structure Ow4 (w : World) (B : Nat) (p q r s : Value) : Prop where
  c0 : w.cell? ⟨B, 0, none⟩ = some p
  c1 : w.cell? ⟨B, 1, none⟩ = some q
  c2 : w.cell? ⟨B, 2, none⟩ = some r
  c3 : w.cell? ⟨B, 3, none⟩ = some s
  z0 : w.frozen? ⟨B, 0, none⟩ = false
  z1 : w.frozen? ⟨B, 1, none⟩ = false
  z2 : w.frozen? ⟨B, 2, none⟩ = false
  z3 : w.frozen? ⟨B, 3, none⟩ = false
  lt : B < w.heap.size
theorem Ow4.new (w : World) (p q r s : Value) (t : TypeId) : Ow4 (w.alloc (.cells #[p, q, r, s] t)) w.heap.size p q r s := by
  have hn := heap_alloc_new w (.cells #[p, q, r, s] t)
  refine ⟨?_, ?_, ?_, ?_, ?_, ?_, ?_, ?_, by simp⟩ <;> first | (unfold World.cell?; rw [hn]; rfl) | (unfold World.frozen?; rw [hn]; rfl)
theorem Ow4.turn {F : Nat → Prop} {w w' : World} {B : Nat} {p q r s : Value} (h : Ow4 w B p q r s) (t : Turn F w w') (hn : ¬ F B) : Ow4 w' B p q r s :=
  ⟨(t.cell (a := ⟨B, 0, none⟩) h.lt hn).trans h.c0, (t.cell (a := ⟨B, 1, none⟩) h.lt hn).trans h.c1, (t.cell (a := ⟨B, 2, none⟩) h.lt hn).trans h.c2, (t.cell (a := ⟨B, 3, none⟩) h.lt hn).trans h.c3,
   (t.frozen (a := ⟨B, 0, none⟩) h.lt hn).trans h.z0, (t.frozen (a := ⟨B, 1, none⟩) h.lt hn).trans h.z1, (t.frozen (a := ⟨B, 2, none⟩) h.lt hn).trans h.z2, (t.frozen (a := ⟨B, 3, none⟩) h.lt hn).trans h.z3, Nat.lt_of_lt_of_le h.lt t.size⟩
theorem Ow4.below {w w' : World} {B : Nat} {p q r s : Value} (h : Ow4 w B p q r s) (hb : Below w.heap.size w w') : Ow4 w' B p q r s := h.turn (Turn.of_below (F := fun _ => False) hb) (fun q => q)
theorem Ow4.drew {w : World} {B : Nat} {p q r s : Value} (h : Ow4 w B p q r s) : Ow4 w.drew B p q r s := h.below (Below.refl _ _).drew
/-- It is laid anew. -/
theorem Ow4.put {w : World} {B : Nat} {p q r s p' q' r' s' : Value} (h : Ow4 w B p q r s) : Ow4 ((((w.setCell ⟨B, 0, none⟩ p').setCell ⟨B, 1, none⟩ q').setCell ⟨B, 2, none⟩ r').setCell ⟨B, 3, none⟩ s') B p' q' r' s' := by
  have hne : ∀ i j, i ≠ j → (⟨B, i, none⟩ : Addr) ≠ ⟨B, j, none⟩ := fun i j hi q => hi (by cases q; rfl)
  have o : ∀ (w : World) (i j : Nat) (u : Value), i ≠ j → (w.setCell ⟨B, i, none⟩ u).cell? ⟨B, j, none⟩ = w.cell? ⟨B, j, none⟩ := fun w i j u q => World.cell?_setCell_other _ _ _ _ (hne i j q)
  refine ⟨?_, ?_, ?_, ?_, ?_, ?_, ?_, ?_, by simpa [World.setCell] using h.lt⟩
  · rw [o _ 3 0 _ (by decide), o _ 2 0 _ (by decide), o _ 1 0 _ (by decide)]; exact World.cell?_setCell_same _ _ _ h.c0
  · rw [o _ 3 1 _ (by decide), o _ 2 1 _ (by decide)]; exact World.cell?_setCell_same _ _ _ ((o _ 0 1 _ (by decide)).trans h.c1)
  · rw [o _ 3 2 _ (by decide)]; exact World.cell?_setCell_same _ _ _ ((o _ 1 2 _ (by decide)).trans ((o _ 0 2 _ (by decide)).trans h.c2))
  · exact World.cell?_setCell_same _ _ _ ((o _ 2 3 _ (by decide)).trans ((o _ 1 3 _ (by decide)).trans ((o _ 0 3 _ (by decide)).trans h.c3)))
  · simpa [World.frozen?_setCell] using h.z0
  · simpa [World.frozen?_setCell] using h.z1
  · simpa [World.frozen?_setCell] using h.z2
  · simpa [World.frozen?_setCell] using h.z3
theorem turn_set4 {F : Nat → Prop} {w w1 : World} (h : Turn F w w1) {k : Nat} (hk : F k ∨ w.heap.size ≤ k) (a b c d : Value) : Turn F w ((((w1.setCell ⟨k, 0, none⟩ a).setCell ⟨k, 1, none⟩ b).setCell ⟨k, 2, none⟩ c).setCell ⟨k, 3, none⟩ d) :=
  turn_set (turn_set (turn_set (turn_set h hk a) hk b) hk c) hk d
theorem Ow4.alloc {w : World} {B : Nat} {p q r s : Value} (h : Ow4 w B p q r s) (o : Obj) : Ow4 (w.alloc o) B p q r s := h.below (below1 _ _)
end Go.Proofs.Ytogckefmmjbapaa
