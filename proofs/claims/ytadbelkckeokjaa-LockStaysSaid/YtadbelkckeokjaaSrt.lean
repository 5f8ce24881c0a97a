/-
  What the library's slices.Sort leaves of a row of the call's own. The condition: a row of at most 1000000.
-/
import Derived.Test.YtadbelkckeokjaaRow0
import Derived.Test.YtadbelkckeokjaaSq
import Derived.Lib.SlKeysI
namespace Go.Proofs.Ytadbelkckeokjaa
open Go.RowKit Go.Sort
set_option linter.unusedSimpArgs false
set_option linter.unusedVariables false

theorem perm_sort (L : List Int) : (L.mergeSort fun x y => decide (x ≤ y)).Perm L := List.mergeSort_perm _ _
theorem sorted_sort (L : List Int) : (L.mergeSort fun x y => decide (x ≤ y)).Pairwise (· ≤ ·) := by
  have h := List.pairwise_mergeSort (le := fun (x y : Int) => decide (x ≤ y)) (fun a b c h1 h2 => by simp at *; omega) (fun a b => by simp; omega) L
  exact h.imp (fun q => by simpa using q)
set_option maxHeartbeats 1000000 in
/-- What slices.Sort leaves of a row of the call's own. -/
theorem sort_own {w1 : World} {base : Nat} {v : Value} {L : List Int} (ho : Own w1 base v L) (hl : L.length ≤ 1000000) (hb0 : base ≤ w1.heap.size) :
    Calls Try.prog 21 #[v] w1 fun e w' => e = .returned (.tuple #[]) ∧ Own w' base v (L.mergeSort fun x y => decide (x ≤ y)) ∧ Below base w1 w' := by
  rcases ho.2 with ⟨rfl, hz⟩ | ⟨g, cap, cur, rfl, hbase, hgb, r1, r2, r3, r4⟩
  · have hss : L = [] := List.eq_nil_of_length_eq_zero hz
    subst hss
    refine (Try.sort_none none 0 w1).mono ?_; rintro e w' ⟨rfl, rfl⟩
    exact ⟨rfl, by simpa using ho, Below.refl _ _⟩
  · have hH : Holds (Value.int .i64) w1 g 0 L.toArray := holds_of_block_i hgb (by simpa using r4)
    have hgl : g < w1.heap.size := (Array.getElem?_eq_some_iff.1 hgb).1
    refine (Try.sort_row g 0 cap L w1 hH hgl (by omega)).mono ?_; rintro e w' ⟨rfl, k, os, rfl⟩
    refine ⟨rfl, ?_, (Below.refl _ _).grown (grownBy_sorted_i _) hb0 (fun j hj => by cases hj; exact hbase)⟩
    have hln : (L.mergeSort fun x y => decide (x ≤ y)).length = L.length := List.length_mergeSort _
    have h := ownsRow_sorted_i (base := base) (n := k) (os := os) hln hbase hgb r1 r2 r3
    unfold Own
    rw [hln]
    exact h
end Go.Proofs.Ytadbelkckeokjaa
