/-
  Plain words about blocks of two cells. No conditions.
-/
import Derived.Test.YtadbelkckeokjaaWideM
namespace Go.Proofs.Ytadbelkckeokjaa
open Go.RowKit
set_option linter.unusedSimpArgs false

theorem At2.set2 {w : World} {B k : Nat} {p q a b : Value} (h : At2 w B p q) (hk : B < k) : ((w.setCell ⟨k, 0, none⟩ a).setCell ⟨k, 1, none⟩ b).cell? ⟨B, 0, none⟩ = some p ∧ ((w.setCell ⟨k, 0, none⟩ a).setCell ⟨k, 1, none⟩ b).cell? ⟨B, 1, none⟩ = some q := by
  obtain ⟨h1, h2, h3⟩ := h
  refine ⟨?_, ?_⟩
  · rw [World.cell?_setCell_other _ _ _ _ (by first | (simp; done) | (simp; omega)), World.cell?_setCell_other _ _ _ _ (by first | (simp; done) | (simp; omega))]; exact h1
  · rw [World.cell?_setCell_other _ _ _ _ (by first | (simp; done) | (simp; omega)), World.cell?_setCell_other _ _ _ _ (by first | (simp; done) | (simp; omega))]; exact h2
/-- A block of two cells that is there and may be written. -/
def Ow2 (w : World) (B : Nat) (p q : Value) : Prop := At2 w B p q ∧ w.frozen? ⟨B, 0, none⟩ = false ∧ w.frozen? ⟨B, 1, none⟩ = false
theorem Ow2.new (w : World) (p q : Value) (t : TypeId) : Ow2 (w.alloc (.cells #[p, q] t)) w.heap.size p q := by refine ⟨At2.new _ _ _ _, ?_, ?_⟩ <;> simp [go_sem]
theorem Ow2.below {w w1 : World} {B : Nat} {p q : Value} (h : Ow2 w B p q) (hb : Below w.heap.size w w1) : Ow2 w1 B p q := by
  obtain ⟨h1, h2, h3⟩ := h
  obtain ⟨bc, bf⟩ := bcell hb
  exact ⟨h1.below hb, (bf _ _ h1.2.2).trans h2, (bf _ _ h1.2.2).trans h3⟩
theorem Ow2.drew {w : World} {B : Nat} {p q : Value} (h : Ow2 w B p q) : Ow2 w.drew B p q := h.below (Below.refl _ _).drew
theorem Ow2.alloc {w : World} {B : Nat} {p q : Value} (h : Ow2 w B p q) (o : Obj) : Ow2 (w.alloc o) B p q := h.below (below1 _ _)
theorem At2.set {w : World} {B k : Nat} {p q a b : Value} (h : At2 w B p q) (hk : B < k) : At2 ((w.setCell ⟨k, 0, none⟩ a).setCell ⟨k, 1, none⟩ b) B p q :=
  ⟨(h.set2 hk).1, (h.set2 hk).2, by simpa [World.setCell] using h.2.2⟩

/-- What a walk keeps: nothing of the world before it is touched, and blocks of two cells that it has made. -/
def Keeps (w0 w : World) (l : List (Nat × Value × Value)) : Prop := Below w0.heap.size w0 w ∧ ∀ b ∈ l, At2 w b.1 b.2.1 b.2.2
theorem Keeps.start (w : World) : Keeps w w [] := ⟨Below.refl _ _, by simp⟩
theorem Keeps.size {w0 w : World} {l : List (Nat × Value × Value)} (h : Keeps w0 w l) : w0.heap.size ≤ w.heap.size := h.1.size
theorem Keeps.lt {w0 w : World} {l : List (Nat × Value × Value)} (h : Keeps w0 w l) : ∀ b ∈ l, b.1 < w.heap.size := fun b hb => (h.2 b hb).2.2
theorem Keeps.bel {w0 w : World} {l : List (Nat × Value × Value)} (h : Keeps w0 w l) : Below w0.heap.size w0 w := h.1
theorem Keeps.below {w0 w w1 : World} {l : List (Nat × Value × Value)} (h : Keeps w0 w l) (hb : Below w.heap.size w w1) : Keeps w0 w1 l :=
  ⟨h.1.trans (hb.mono h.1.size), fun b hm => (h.2 b hm).below hb⟩
theorem Keeps.drew {w0 w : World} {l : List (Nat × Value × Value)} (h : Keeps w0 w l) : Keeps w0 w.drew l := h.below (Below.refl _ _).drew
theorem Keeps.alloc {w0 w : World} {l : List (Nat × Value × Value)} (h : Keeps w0 w l) (o : Obj) : Keeps w0 (w.alloc o) l := h.below (below1 _ _)
theorem Keeps.new {w0 w : World} {l : List (Nat × Value × Value)} (h : Keeps w0 w l) (p q : Value) (t : TypeId) : Keeps w0 (w.alloc (.cells #[p, q] t)) ((w.heap.size, p, q) :: l) := by
  refine ⟨(h.alloc _).1, fun b hm => ?_⟩
  rcases List.mem_cons.mp hm with rfl | hm
  · exact At2.new _ _ _ _
  · exact (h.alloc _).2 b hm
theorem Keeps.set {w0 w : World} {l : List (Nat × Value × Value)} {k : Nat} {a b : Value} (h : Keeps w0 w l) (hk : w0.heap.size ≤ k) (hl : ∀ b ∈ l, b.1 < k) : Keeps w0 ((w.setCell ⟨k, 0, none⟩ a).setCell ⟨k, 1, none⟩ b) l :=
  ⟨(h.1.setCell hk _).setCell hk _, fun b hm => (h.2 b hm).set (hl b hm)⟩
theorem Keeps.at0 {w0 w : World} {l : List (Nat × Value × Value)} {b : Nat × Value × Value} (h : Keeps w0 w (b :: l)) : At2 w b.1 b.2.1 b.2.2 := h.2 b (by simp)
theorem Keeps.at1 {w0 w : World} {l : List (Nat × Value × Value)} {a b : Nat × Value × Value} (h : Keeps w0 w (a :: b :: l)) : At2 w b.1 b.2.1 b.2.2 := h.2 b (by simp)
theorem Keeps.at2 {w0 w : World} {l : List (Nat × Value × Value)} {a c b : Nat × Value × Value} (h : Keeps w0 w (a :: c :: b :: l)) : At2 w b.1 b.2.1 b.2.2 := h.2 b (by simp)
theorem Keeps.at3 {w0 w : World} {l : List (Nat × Value × Value)} {a c d b : Nat × Value × Value} (h : Keeps w0 w (a :: c :: d :: b :: l)) : At2 w b.1 b.2.1 b.2.2 := h.2 b (by simp)
theorem Keeps.four {w0 w : World} {a b c d : Nat × Value × Value} (h : Keeps w0 w [a, b, c, d]) :
    w.cell? ⟨a.1, 0, none⟩ = some a.2.1 ∧ w.cell? ⟨a.1, 1, none⟩ = some a.2.2 ∧ w.cell? ⟨b.1, 0, none⟩ = some b.2.1 ∧ w.cell? ⟨b.1, 1, none⟩ = some b.2.2 ∧
    w.cell? ⟨c.1, 0, none⟩ = some c.2.1 ∧ w.cell? ⟨c.1, 1, none⟩ = some c.2.2 ∧ w.cell? ⟨d.1, 0, none⟩ = some d.2.1 ∧ w.cell? ⟨d.1, 1, none⟩ = some d.2.2 :=
  ⟨h.at0.1, h.at0.2.1, h.at1.1, h.at1.2.1, h.at2.1, h.at2.2.1, h.at3.1, h.at3.2.1⟩
end Go.Proofs.Ytadbelkckeokjaa
