/-
  Plain words for walks over blocks of two cells that are made, stored to and read. No conditions.
-/
import Derived.Test.YtadbelkckeokjaaWideF1
namespace Go.Proofs.Ytadbelkckeokjaa
open Go.RowKit
set_option linter.unusedSimpArgs false
set_option linter.unusedVariables false

theorem Ow2.at {w : World} {B : Nat} {p q : Value} (h : Ow2 w B p q) : At2 w B p q := h.1
theorem Ow2.new2 (w : World) (o : Obj) (p q : Value) (t : TypeId) : Ow2 ((w.alloc o).alloc (.cells #[p, q] t)) (w.heap.size + 1) p q := by
  have := Ow2.new (w.alloc o) p q t
  rwa [show (w.alloc o).heap.size = w.heap.size + 1 by simp] at this
theorem Ow2.new3 (w : World) (o o' : Obj) (p q : Value) (t : TypeId) : Ow2 (((w.alloc o).alloc o').alloc (.cells #[p, q] t)) (w.heap.size + 1 + 1) p q := by
  have := Ow2.new ((w.alloc o).alloc o') p q t
  rwa [show ((w.alloc o).alloc o').heap.size = w.heap.size + 1 + 1 by simp] at this
theorem Ow2.new4 (w : World) (o o' o'' : Obj) (p q : Value) (t : TypeId) : Ow2 ((((w.alloc o).alloc o').alloc o'').alloc (.cells #[p, q] t)) (w.heap.size + 1 + 1 + 1) p q := by
  have := Ow2.new (((w.alloc o).alloc o').alloc o'') p q t
  rwa [show (((w.alloc o).alloc o').alloc o'').heap.size = w.heap.size + 1 + 1 + 1 by simp] at this
theorem At2.new' {X : World} {B : Nat} {p q : Value} {t : TypeId} (h : B = X.heap.size) : At2 (X.alloc (.cells #[p, q] t)) B p q := by subst h; exact At2.new _ _ _ _
theorem At2.put {w : World} {k : Nat} {p q a b : Value} (h : At2 w k p q) : At2 ((w.setCell ⟨k, 0, none⟩ a).setCell ⟨k, 1, none⟩ b) k a b := by
  obtain ⟨h1, h2, h3⟩ := h
  refine ⟨?_, ?_, by simpa [World.setCell] using h3⟩ <;> simp [go_sem, h1, h2]
theorem At2.setne {w : World} {B k : Nat} {p q a b : Value} (h : At2 w B p q) (hk : B ≠ k) : At2 ((w.setCell ⟨k, 0, none⟩ a).setCell ⟨k, 1, none⟩ b) B p q := by
  obtain ⟨h1, h2, h3⟩ := h
  refine ⟨?_, ?_, by simpa [World.setCell] using h3⟩
  · rw [World.cell?_setCell_other _ _ _ _ (by simp [hk]), World.cell?_setCell_other _ _ _ _ (by simp [hk])]; exact h1
  · rw [World.cell?_setCell_other _ _ _ _ (by simp [hk]), World.cell?_setCell_other _ _ _ _ (by simp [hk])]; exact h2
theorem Ow2.setne {w : World} {B k : Nat} {p q a b : Value} (h : Ow2 w B p q) (hk : B ≠ k) : Ow2 ((w.setCell ⟨k, 0, none⟩ a).setCell ⟨k, 1, none⟩ b) B p q := by
  obtain ⟨h1, h2, h3⟩ := h
  refine ⟨h1.setne hk, ?_, ?_⟩ <;> simp [go_sem, h2, h3]
theorem Ow2.put {w : World} {k : Nat} {p q a b : Value} (h : Ow2 w k p q) : Ow2 ((w.setCell ⟨k, 0, none⟩ a).setCell ⟨k, 1, none⟩ b) k a b := by
  refine ⟨h.1.put, ?_, ?_⟩ <;> simp [go_sem, h.2.1, h.2.2]
end Go.Proofs.Ytadbelkckeokjaa
