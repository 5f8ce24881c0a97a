/-
  Steps along a function of numbers: who comes back to itself, all that are above. No Go function is walked here. No conditions.
-/
import Derived.Test.YteendpdidkekkaaUndM
namespace Go.Proofs.Yteendpdidkekkaa
open Go.RowKit
set_option linter.unusedSimpArgs false
set_option linter.unusedVariables false

/-- So many steps up. -/
def way (f : Int → Int) : Nat → Int → Int
  | 0, x => x
  | k + 1, x => f (way f k x)
theorem way_add (f : Int → Int) (a : Nat) (x : Int) : ∀ b, way f (a + b) x = way f b (way f a x)
  | 0 => rfl
  | b + 1 => by show f (way f (a + b) x) = _; rw [way_add f a x b]; rfl
theorem way_zero {f : Int → Int} (h0 : f 0 = 0) : ∀ k, way f k 0 = 0
  | 0 => rfl
  | k + 1 => by show f (way f k 0) = 0; rw [way_zero h0 k, h0]
/-- It comes back to itself. -/
def Back (f : Int → Int) (e : Int) : Prop := ∃ k, 1 ≤ k ∧ way f k e = e
theorem least18 {P : Nat → Prop} : ∀ {k : Nat}, P k → ∃ d, d ≤ k ∧ P d ∧ ∀ j, P j → d ≤ j := by
  intro k
  induction k using Nat.strongRecOn with
  | ind k ih =>
    intro h
    by_cases e : ∃ j, j < k ∧ P j
    · obtain ⟨j, h1, h2⟩ := e
      obtain ⟨d, q1, q2, q3⟩ := ih j h1 h2
      exact ⟨d, by omega, q2, q3⟩
    · exact ⟨k, Nat.le_refl _, h, fun j hj => Nat.le_of_not_lt fun q => e ⟨j, q, hj⟩⟩
/-- Steps that are all different, and none of them the end, are no more than there are entities. -/
theorem way_few {f : Int → Int} {e : Int} {U : List Int} {k : Nat} (hd : ∀ i j, i < j → j < k → way f i e ≠ way f j e) (hU : ∀ j, j < k → way f j e ∈ U) : k ≤ U.length := by
  have h := nodup_le ((List.range k).map fun j => way f j e) U (List.pairwise_map.2 (List.pairwise_lt_range.imp_of_mem fun {i j} hi hj hlt => hd i j hlt (List.mem_range.1 hj))) (fun x hx => by
    obtain ⟨j, hj, rfl⟩ := List.mem_map.1 hx
    exact hU j (List.mem_range.1 hj))
  simpa using h
theorem back_short {f : Int → Int} {e : Int} {U : List Int} (h0 : f 0 = 0) (he : e ≠ 0) (hU : ∀ x, f x ≠ 0 → x ∈ U) (h : Back f e) : ∃ k, 1 ≤ k ∧ k ≤ U.length ∧ way f k e = e := by
  obtain ⟨k, hk⟩ := h
  obtain ⟨d, h1, ⟨h2, h3⟩, h4⟩ := least18 (P := fun j => 1 ≤ j ∧ way f j e = e) hk
  refine ⟨d, h2, way_few (f := f) (e := e) (fun i j hij hjd q => ?_) (fun j hj => hU _ fun q => ?_), h3⟩
  · have e1 : way f (i + (d - j)) e = e := by
      rw [way_add, q, ← way_add, show j + (d - j) = d by omega, h3]
    have := h4 (i + (d - j)) ⟨by omega, e1⟩
    omega
  · have e1 : way f (j + 1) e = 0 := q
    have e2 : way f d e = 0 := by rw [show d = (j + 1) + (d - (j + 1)) by omega, way_add, e1, way_zero h0]
    exact he (h3.symm.trans e2)
def bck (f : Int → Int) (c : Nat) (e : Int) : Bool := (List.range c).any fun k => decide (way f (k + 1) e = e)
theorem bck_is {f : Int → Int} {c : Nat} {e : Int} : bck f c e = true ↔ ∃ k, 1 ≤ k ∧ k ≤ c ∧ way f k e = e := by
  unfold bck
  rw [List.any_eq_true]
  constructor
  · rintro ⟨k, hk, h⟩
    exact ⟨k + 1, by omega, by have := List.mem_range.1 hk; omega, by simpa using h⟩
  · rintro ⟨k, h1, h2, h3⟩
    exact ⟨k - 1, List.mem_range.2 (by omega), by rw [show k - 1 + 1 = k by omega]; simpa using h3⟩
/-- All above, so many of them. -/
def abv (f : Int → Int) (m : Nat) (e : Int) : List Int := (List.range m).map fun j => way f (j + 1) e
theorem abv_succ (f : Int → Int) (m : Nat) (e : Int) : abv f (m + 1) e = abv f m e ++ [way f (m + 1) e] := by
  unfold abv; rw [List.range_succ, List.map_append]; rfl
theorem abv_len (f : Int → Int) (m : Nat) (e : Int) : (abv f m e).length = m := by simp [abv]
theorem mem_abv {f : Int → Int} {m : Nat} {e z : Int} : z ∈ abv f m e ↔ ∃ j, 1 ≤ j ∧ j ≤ m ∧ way f j e = z := by
  unfold abv
  rw [List.mem_map]
  constructor
  · rintro ⟨j, hj, h⟩; exact ⟨j + 1, by omega, by have := List.mem_range.1 hj; omega, h⟩
  · rintro ⟨j, h1, h2, h3⟩; exact ⟨j - 1, List.mem_range.2 (by omega), by rw [show j - 1 + 1 = j by omega]; exact h3⟩
theorem abv_end {f : Int → Int} {m : Nat} {e : Int} (h0 : f 0 = 0) (he : e ≠ 0) (h : way f (m + 1) e = 0 ∨ way f (m + 1) e ∈ abv f m e) : e ∈ abv f m e ↔ Back f e := by
  constructor
  · intro q
    obtain ⟨j, h1, _, h3⟩ := mem_abv.1 q
    exact ⟨j, h1, h3⟩
  · have hc : ∀ k, way f (k + 1) e ∈ abv f m e ∨ way f (k + 1) e = 0 := by
      intro k
      induction k with
      | zero =>
        rcases Nat.eq_zero_or_pos m with r | r
        · subst r; exact h.symm
        · exact Or.inl (mem_abv.2 ⟨1, by omega, by omega, rfl⟩)
      | succ k ih =>
        rcases ih with q | q
        · obtain ⟨j, h1, h2, h3⟩ := mem_abv.1 q
          have e1 : way f (k + 1 + 1) e = way f (j + 1) e := by show f (way f (k + 1) e) = f (way f j e); rw [h3]
          rw [e1]
          rcases Nat.lt_or_ge j m with r | r
          · exact Or.inl (mem_abv.2 ⟨j + 1, by omega, by omega, rfl⟩)
          · rw [show j = m by omega]; exact h.symm
        · exact Or.inr (by show f (way f (k + 1) e) = 0; rw [q, h0])
    rintro ⟨k, h1, h2⟩
    rcases hc (k - 1) with q | q <;> rw [show k - 1 + 1 = k by omega, h2] at q
    · exact q
    · exact absurd q he
theorem back_turn {f : Int → Int} {x : Int} (h : Back f x) (j : Nat) : Back f (way f j x) := by
  obtain ⟨k, h1, h2⟩ := h
  exact ⟨k, h1, by rw [← way_add, Nat.add_comm, way_add, h2]⟩
/-- So many steps up, and none of them the end: no more than there are entities. -/
theorem way_stop {f : Int → Int} {n x : Int} {m : Nat} (hf : ∀ y, y ≠ 0 → ¬ Back f y) (hi : ∀ y, 0 ≤ f y ∧ (f y = 0 ∨ f y ≤ n)) (hx : 1 ≤ x ∧ x ≤ n) (hm : ∀ j, j ≤ m → way f j x ≠ 0) : (m : Int) + 1 ≤ n := by
  have h := way_few (f := f) (e := x) (U := (List.range n.toNat).map fun i : Nat => (i : Int) + 1) (k := m + 1) (fun i j hij hj q => by
    have := hf (way f i x) (hm i (by omega))
    exact this ⟨j - i, by omega, by rw [← way_add, show i + (j - i) = j by omega]; exact q.symm⟩) (fun j hj => by
    have h0 := hm j (by omega)
    have hr : 1 ≤ way f j x ∧ way f j x ≤ n := by
      cases j with
      | zero => exact hx
      | succ j =>
        have := hi (way f j x)
        have e : way f (j + 1) x = f (way f j x) := rfl
        rw [e] at h0 ⊢
        omega
    exact List.mem_map.2 ⟨(way f j x - 1).toNat, List.mem_range.2 (by omega), by omega⟩)
  rw [List.length_map, List.length_range] at h
  omega
end Go.Proofs.Yteendpdidkekkaa
