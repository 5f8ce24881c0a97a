/-
  The nearest of those that a node reads, in plain words. No Go function is walked here.
-/
import Derived.Test.YtpjnpmdpabnjkaaRchL
namespace Go.Proofs.Ytpjnpmdpabnjkaa
open Go.RowKit
set_option linter.unusedSimpArgs false
set_option linter.unusedVariables false

section
variable {R : List (List Int)} {L S : List Int} {v k : Nat} {b : Int}
/-- b is the least number of steps of the first k that v reads, or -1. -/
def Best (R : List (List Int)) (S : List Int) (v k : Nat) (b : Int) : Prop :=
  (b = -1 ∧ ∀ i, i < k → i < (gR R v).length → S.getD (gY R v i) 0 = -1) ∨
  (0 ≤ b ∧ (∃ i, i < k ∧ i < (gR R v).length ∧ S.getD (gY R v i) 0 = b) ∧ ∀ i, i < k → i < (gR R v).length → S.getD (gY R v i) 0 ≠ -1 → b ≤ S.getD (gY R v i) 0)
def lower (b z : Int) : Bool := decide (0 ≤ z) && (decide (b < 0) || decide (z < b))
theorem Best.begin (R : List (List Int)) (S : List Int) (v : Nat) : Best R S v 0 (-1) := Or.inl ⟨rfl, fun i hi => absurd hi (Nat.not_lt_zero i)⟩
theorem isst_low (h : IsSt R.length (nUp R) L S) {u : Nat} (hu : u < R.length) : S.getD u 0 = -1 ∨ 0 ≤ S.getD u 0 := by
  rcases h.at' u hu with ⟨q, _⟩ | ⟨d, q, _⟩ <;> omega
theorem isst_lt (h : IsSt R.length (nUp R) L S) {u : Nat} (hu : u < R.length) : S.getD u 0 < (R.length : Int) := by
  rcases h.at' u hu with ⟨q, _⟩ | ⟨d, q, hw, hm⟩
  · omega
  · obtain ⟨e, h1, _, h3, _⟩ := way_short hw
    have := hm e h3; omega
theorem Best.skip (h : Best R S v k b) (hS : IsSt R.length (nUp R) L S) (hI : GrI R) (hk : k < (gR R v).length) (hn : lower b (S.getD (gY R v k) 0) = false) : Best R S v (k + 1) b := by
  have hlow := isst_low hS (gY_is hI hk).2
  unfold lower at hn
  rcases h with ⟨h1, h2⟩ | ⟨h1, ⟨i0, h2, h3, h4⟩, h5⟩
  · refine Or.inl ⟨h1, fun i hi hl => ?_⟩
    by_cases e : i = k
    · subst e
      rcases hlow with q | q
      · exact q
      · rw [decide_eq_true q, decide_eq_true (show b < 0 by omega)] at hn; cases hn
    · exact h2 i (by omega) hl
  · refine Or.inr ⟨h1, ⟨i0, by omega, h3, h4⟩, fun i hi hl hz => ?_⟩
    by_cases e : i = k
    · subst e
      rcases hlow with q | q
      · exact absurd q hz
      · rw [decide_eq_true q, Bool.true_and, Bool.or_eq_false_iff, decide_eq_false_iff_not, decide_eq_false_iff_not] at hn
        omega
    · exact h5 i (by omega) hl hz
theorem Best.take (h : Best R S v k b) (hk : k < (gR R v).length) (hn : lower b (S.getD (gY R v k) 0) = true) : Best R S v (k + 1) (S.getD (gY R v k) 0) := by
  unfold lower at hn
  rw [Bool.and_eq_true, Bool.or_eq_true, decide_eq_true_iff, decide_eq_true_iff, decide_eq_true_iff] at hn
  refine Or.inr ⟨hn.1, ⟨k, by omega, hk, rfl⟩, fun i hi hl hz => ?_⟩
  by_cases e : i = k
  · subst e; omega
  · rcases h with ⟨_, h2⟩ | ⟨h1, _, h5⟩
    · exact absurd (h2 i (by omega) hl) hz
    · have := h5 i (by omega) hl hz
      omega
theorem Best.bound (h : Best R S v k b) (hS : IsSt R.length (nUp R) L S) (hI : GrI R) : -1 ≤ b ∧ b < (R.length : Int) := by
  rcases h with ⟨h1, _⟩ | ⟨h1, ⟨i, _, hl, hz⟩, _⟩
  · have := hI.lo; omega
  · have := isst_lt hS (gY_is hI hl).2
    omega
theorem Best.fin (h : Best R S v (gR R v).length b) (hS : IsSt R.length (nUp R) L S) (hI : GrI R) (hv : v < R.length) : (0 < S.getD v 0 → S.getD v 0 = b + 1) ∧ (S.getD v 0 < 0 → b < 0) := by
  have hway : ∀ i, i < (gR R v).length → ∀ c : Nat, S.getD (gY R v i) 0 = (c : Int) → Way R.length (nUp R) L (c + 1) v := fun i hi c hc => by
    rcases hS.at' _ (gY_is hI hi).2 with ⟨q, _⟩ | ⟨d, q, hw, _⟩
    · omega
    · obtain rfl : d = c := by omega
      exact ⟨hv, _, hw, (up_iff hv _).2 (gY_mem hI hi)⟩
  constructor
  · intro hp
    rcases hS.at' v hv with ⟨q, _⟩ | ⟨d, q, hw, hm⟩
    · omega
    · cases d with
      | zero => omega
      | succ e =>
        obtain ⟨_, u, hu, hmm⟩ := hw
        obtain ⟨i, hi, hiu⟩ := gY_of ((up_iff hv u).1 hmm)
        have hle : S.getD (gY R v i) 0 ≠ -1 ∧ S.getD (gY R v i) 0 ≤ (e : Int) := by
          rw [hiu]
          rcases hS.at' u hu.lt with ⟨_, q2⟩ | ⟨c, q2, _, q3⟩
          · exact absurd hu (q2 e)
          · have := q3 e hu; omega
        rcases h with ⟨_, h2⟩ | ⟨h1, ⟨j, hj, hjl, hjb⟩, h5⟩
        · exact absurd (h2 i hi hi) hle.1
        · have h6 := h5 i hi hi hle.1
          have h7 := hm _ (hway j hjl b.toNat (by omega))
          omega
  · intro hp
    rcases h with ⟨h1, _⟩ | ⟨h1, ⟨j, hj, hjl, hjb⟩, _⟩
    · omega
    · have h7 := hway j hjl b.toNat (by omega)
      rcases hS.at' v hv with ⟨_, q⟩ | ⟨d, q, _⟩
      · exact absurd h7 (q _)
      · omega
theorem steps_in (hS : IsSt R.length (nUp R) L S) (hv : v < R.length) : decide (((v : Nat) : Int) ∈ fnd S) = decide (0 ≤ S.getD v 0) :=
  decide_eq_decide.2 (by
    rw [fnd_way hS, ← hS.reached hv]
    have := isst_low hS hv
    constructor
    · rintro ⟨_, q⟩; omega
    · intro q; exact ⟨hv, by omega⟩)
theorem steps_zero (hS : IsSt R.length (nUp R) L S) (hv : v < R.length) : decide (((v : Nat) : Int) ∈ L) = (S.getD v 0 == 0) := by
  rw [Bool.eq_iff_iff, decide_eq_true_iff, beq_iff_eq]
  rcases hS.at' v hv with ⟨q, hn⟩ | ⟨d, q, hw, hm⟩
  · exact ⟨fun h => absurd ⟨hv, h⟩ (hn 0), fun h => by omega⟩
  · constructor
    · intro h
      have := hm 0 ⟨hv, h⟩
      omega
    · intro h
      obtain rfl : d = 0 := by omega
      exact hw.2
end
end Go.Proofs.Ytpjnpmdpabnjkaa
