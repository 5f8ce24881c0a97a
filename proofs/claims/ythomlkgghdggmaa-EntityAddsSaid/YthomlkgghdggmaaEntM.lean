/-
  The words of layer 17: what a currency is, the first one of a row that is none, the places with some numbers. No Go function is walked here.
-/
import Derived.Test.YthomlkgghdggmaaMath
namespace Go.Proofs.Ythomlkgghdggmaa
open Go.RowKit

/-- A currency. -/
def Mon (z : Int) : Prop := 1 ≤ z ∧ z ≤ 8
instance (z : Int) : Decidable (Mon z) := by unfold Mon; exact inferInstance
/-- The place of the first one that is no currency. -/
def badAt (L : List Int) : Nat := L.findIdx (fun z => !decide (Mon z))
theorem badAt_le (L : List Int) : badAt L ≤ L.length := List.findIdx_le_length
theorem badAt_is {L : List Int} {k : Nat} (hk : k ≤ L.length) (h : ∀ j, j < k → Mon (L.getD j 0)) (h2 : k = L.length ∨ ¬ Mon (L.getD k 0)) : badAt L = k := by
  unfold badAt
  rcases Nat.lt_or_ge k L.length with q | q
  · rw [List.findIdx_eq q]
    refine ⟨?_, fun j hj => ?_⟩
    · rw [← getD_lt L k q]
      rcases h2 with h2 | h2
      · omega
      · simpa using h2
    · have := h j hj
      rw [getD_lt _ _ (by omega)] at this
      simpa using this
  · rw [show k = L.length by omega]
    refine List.findIdx_eq_length.2 fun x hx => ?_
    obtain ⟨j, hj, rfl⟩ := List.getElem_of_mem hx
    have := h j (by omega)
    rw [getD_lt _ _ hj] at this
    simpa using this
theorem badAt_ok {L : List Int} {j : Nat} (h : j < badAt L) : Mon (L.getD j 0) := by
  have hl := badAt_le L
  unfold badAt at h hl
  have := List.not_of_lt_findIdx h
  rw [getD_lt _ _ (by omega)]
  simpa using this
theorem badAt_no {L : List Int} (h : badAt L < L.length) : ¬ Mon (L.getD (badAt L) 0) := by
  have h' : L.findIdx (fun z => !decide (Mon z)) < L.length := h
  have e := List.findIdx_getElem (p := fun z => !decide (Mon z)) (w := h')
  rw [getD_lt _ _ h]
  intro q
  have q' : Mon (L[L.findIdx (fun z => !decide (Mon z))]'h') := q
  rw [decide_eq_true q'] at e
  cases e
/-- What Check tells. -/
def chkV (L : List Int) : Int := if 40 < L.length then 0 else (badAt L : Int)
def chkE (L : List Int) : Int := if 40 < L.length then 3 else if badAt L < L.length then 23 else 0
/-- What Currency tells. -/
def curV (L : List Int) (n : Int) : Int := if 1 ≤ n ∧ n ≤ (L.length : Int) then L.getD (n - 1).toNat 0 else 0
def curE (L : List Int) (n : Int) : Int := if 1 ≤ n ∧ n ≤ (L.length : Int) then 0 else 20
/-- What Add tells. -/
def addL (L : List Int) (c : Int) : List Int := if Mon c ∧ L.length < 40 then L ++ [c] else []
def addE (L : List Int) (c : Int) : Int := if Mon c then if L.length < 40 then 0 else 3 else 23
/-- The entities, up to so many, with one of some currencies. -/
def ofK (L M : List Int) : Nat → List Int
  | 0 => []
  | k + 1 => ofK L M k ++ (if L.getD k 0 ∈ M then [(k : Int) + 1] else [])
def ofL (L M : List Int) : List Int := ofK L M L.length
theorem ofK_yes {L M : List Int} {k : Nat} (h : L.getD k 0 ∈ M) : ofK L M (k + 1) = ofK L M k ++ [(k : Int) + 1] := by simp only [ofK]; rw [if_pos h]
theorem ofK_no {L M : List Int} {k : Nat} (h : ¬ L.getD k 0 ∈ M) : ofK L M (k + 1) = ofK L M k := by simp only [ofK]; rw [if_neg h, List.append_nil]
theorem ofK_len (L M : List Int) (k : Nat) : (ofK L M k).length ≤ k := by
  induction k with
  | zero => simp [ofK]
  | succ k ih => by_cases h : L.getD k 0 ∈ M
                 · rw [ofK_yes h, List.length_append]; simp; omega
                 · rw [ofK_no h]; omega
theorem mem_ofK {L M : List Int} {z : Int} (k : Nat) : z ∈ ofK L M k ↔ ∃ j, j < k ∧ z = (j : Int) + 1 ∧ L.getD j 0 ∈ M := by
  induction k with
  | zero => simp [ofK]
  | succ k ih =>
    by_cases h : L.getD k 0 ∈ M
    · rw [ofK_yes h, List.mem_append, ih]
      constructor
      · rintro (⟨j, hj, he, hm⟩ | hz)
        · exact ⟨j, by omega, he, hm⟩
        · exact ⟨k, by omega, by simpa using hz, h⟩
      · rintro ⟨j, hj, he, hm⟩
        rcases Nat.lt_or_ge j k with q | q
        · exact Or.inl ⟨j, q, he, hm⟩
        · right; rw [he, show j = k by omega]; simp
    · rw [ofK_no h, ih]
      constructor
      · rintro ⟨j, hj, he, hm⟩; exact ⟨j, by omega, he, hm⟩
      · rintro ⟨j, hj, he, hm⟩
        rcases Nat.lt_or_ge j k with q | q
        · exact ⟨j, q, he, hm⟩
        · exact absurd (by rwa [show j = k by omega] at hm) h
theorem ofK_in {L M : List Int} {k : Nat} (hk : k ≤ 1000000) : ∀ z ∈ ofK L M k, InR z := by
  intro z hz
  obtain ⟨j, hj, rfl, _⟩ := (mem_ofK k).1 hz
  unfold InR; omega
/-- They rise. -/
theorem ofK_rise {L M : List Int} (k : Nat) : (ofK L M k).Pairwise (· < ·) := by
  induction k with
  | zero => simp [ofK]
  | succ k ih =>
    by_cases h : L.getD k 0 ∈ M
    · rw [ofK_yes h, List.pairwise_append]
      refine ⟨ih, by simp, fun a ha b hb => ?_⟩
      obtain ⟨j, hj, rfl, _⟩ := (mem_ofK k).1 ha
      simp at hb; omega
    · rw [ofK_no h]; exact ih
theorem ofK_congr {L M M' : List Int} (h : ∀ z, z ∈ M ↔ z ∈ M') (k : Nat) : ofK L M k = ofK L M' k := by
  induction k with
  | zero => rfl
  | succ k ih => by_cases q : L.getD k 0 ∈ M
                 · rw [ofK_yes q, ofK_yes ((h _).1 q), ih]
                 · rw [ofK_no q, ofK_no (fun r => q ((h _).2 r)), ih]
end Go.Proofs.Ythomlkgghdggmaa
