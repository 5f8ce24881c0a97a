/-
  Plain words about blocks of two cells. No conditions.
-/
import Derived.Test.YtadbelkckeokjaaWideF0
import Derived.BigQuiet
namespace Go.Proofs.Ytadbelkckeokjaa
open Go.RowKit
set_option linter.unusedSimpArgs false

theorem Keeps.new2 {w0 w : World} {l : List (Nat × Value × Value)} (h : Keeps w0 w l) (p q r s : Value) (t t' : TypeId) :
    Keeps w0 ((w.alloc (.cells #[p, q] t)).alloc (.cells #[r, s] t')) ((w.heap.size + 1, r, s) :: (w.heap.size, p, q) :: l) := by
  have := (h.new p q t).new r s t'
  rwa [show (w.alloc (.cells #[p, q] t)).heap.size = w.heap.size + 1 by simp] at this
theorem Keeps.drewN {w0 w : World} {l : List (Nat × Value × Value)} (h : Keeps w0 w l) (n : Nat) : Keeps w0 (w.drewN n) l := h.below ⟨rfl, rfl, rfl, Nat.le_refl _, fun _ _ => rfl⟩
theorem Keeps.tail {w0 w : World} {b : Nat × Value × Value} {l : List (Nat × Value × Value)} (h : Keeps w0 w (b :: l)) : Keeps w0 w l := ⟨h.1, fun c hc => h.2 c (List.mem_cons_of_mem _ hc)⟩
theorem Keeps.two {w0 w : World} {a b : Nat × Value × Value} {l : List (Nat × Value × Value)} (h : Keeps w0 w (a :: b :: l)) :
    w.cell? ⟨a.1, 0, none⟩ = some a.2.1 ∧ w.cell? ⟨a.1, 1, none⟩ = some a.2.2 ∧ w.cell? ⟨b.1, 0, none⟩ = some b.2.1 ∧ w.cell? ⟨b.1, 1, none⟩ = some b.2.2 :=
  ⟨h.at0.1, h.at0.2.1, h.at1.1, h.at1.2.1⟩
end Go.Proofs.Ytadbelkckeokjaa
