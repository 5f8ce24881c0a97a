/-
  What layer 13's laws ask besides: what is told of nodes fits. No Go function is walked here.
-/
import Derived.Test.YtpjnpmdpabnjkaaRchG
import Derived.Test.YtpjnpmdpabnjkaaR13b
import Derived.Test.YtpjnpmdpabnjkaaR13c
import Derived.Test.YtpjnpmdpabnjkaaR13d
namespace Go.Proofs.Ytpjnpmdpabnjkaa
open Go.RowKit
set_option linter.unusedSimpArgs false
set_option linter.unusedVariables false

section
variable {n : Nat} {N : Nat → List Int} {L S : List Int}
theorem fnd_inr (h : IsSt n N L S) (hn : n ≤ 20000) : ∀ z ∈ fnd S, InR z := fun z hz => by
  have := ((mem_fnd z).1 hz).1
  rw [h.len] at this
  unfold gnd at this; unfold InR; omega
theorem fnd_le (h : IsSt n N L S) (hn : n ≤ 20000) : (fnd S).length ≤ 20000 := by
  have := fnd_len S
  rw [h.len] at this; omega
theorem fnd_way (h : IsSt n N L S) (v : Nat) : ((v : Nat) : Int) ∈ fnd S ↔ v < n ∧ ∃ k, Way n N L k v := by
  rw [mem_fnd, h.len]
  constructor
  · rintro ⟨h1, h2⟩
    have hv : v < n := by unfold gnd at h1; omega
    rw [Int.toNat_natCast] at h2
    exact ⟨hv, (h.reached hv).1 h2⟩
  · rintro ⟨hv, hk⟩
    refine ⟨⟨by omega, by omega⟩, ?_⟩
    rw [Int.toNat_natCast]
    exact (h.reached hv).2 hk
end
section
variable {R : List (List Int)} {L S : List Int}
/-- Who reads is reached, up and down. -/
theorem way_dn {w : Nat} : ∀ {k v : Nat}, Way R.length (nUp R) [((w : Nat) : Int)] k v → ∀ {j z : Nat}, Way R.length (nDn R) [((z : Nat) : Int)] j v → Way R.length (nDn R) [((z : Nat) : Int)] (j + k) w
  | 0, v, h, j, z, hj => by
    have : v = w := by have := h.2; simp at this; omega
    subst this; exact hj
  | k + 1, v, ⟨hv, u, hu, hm⟩, j, z, hj => by
    have h1 : Way R.length (nDn R) [((z : Nat) : Int)] (j + 1) u := ⟨hu.lt, v, hj, (dn_iff hv u).2 ((up_iff hv u).1 hm)⟩
    have := way_dn hu h1
    rwa [show j + 1 + k = j + (k + 1) by omega] at this
theorem way_up {v : Nat} : ∀ {k w : Nat}, Way R.length (nDn R) [((v : Nat) : Int)] k w → ∀ {j z : Nat}, Way R.length (nUp R) [((z : Nat) : Int)] j w → Way R.length (nUp R) [((z : Nat) : Int)] (j + k) v
  | 0, w, h, j, z, hj => by
    have : w = v := by have := h.2; simp at this; omega
    subst this; exact hj
  | k + 1, w, ⟨hw, u, hu, hm⟩, j, z, hj => by
    have h1 : Way R.length (nUp R) [((z : Nat) : Int)] (j + 1) u := ⟨hu.lt, w, hj, (up_iff hu.lt w).2 ((dn_iff hu.lt w).1 hm)⟩
    have := way_up hu h1
    rwa [show j + 1 + k = j + (k + 1) by omega] at this
theorem way_turn {v w : Nat} (hv : v < R.length) (hw : w < R.length) : (∃ k, Way R.length (nUp R) [((w : Nat) : Int)] k v) ↔ ∃ k, Way R.length (nDn R) [((v : Nat) : Int)] k w :=
  ⟨fun ⟨k, hk⟩ => ⟨0 + k, way_dn hk (j := 0) (z := v) ⟨hv, by simp⟩⟩, fun ⟨k, hk⟩ => ⟨0 + k, way_up hk (j := 0) (z := w) ⟨hw, by simp⟩⟩⟩
theorem fnd_turn {S1 S2 : List Int} {v w : Nat} (hv : v < R.length) (hw : w < R.length) (h1 : IsSt R.length (nUp R) [((w : Nat) : Int)] S1) (h2 : IsSt R.length (nDn R) [((v : Nat) : Int)] S2) : decide (((w : Nat) : Int) ∈ fnd S2) = decide (((v : Nat) : Int) ∈ fnd S1) :=
  decide_eq_decide.2 (by rw [fnd_way h1, fnd_way h2, way_turn hv hw]; simp [hv, hw])
/-- Whether a node reads one of the first x that is reached. -/
def rdk (R : List (List Int)) (S : List Int) (v x : Nat) : Bool := (List.range x).any fun w => decide (((w : Nat) : Int) ∈ gR R v) && decide (((w : Nat) : Int) ∈ fnd S)
theorem rdk_step (R : List (List Int)) (S : List Int) (v x : Nat) : rdk R S v (x + 1) = (rdk R S v x || (decide (((x : Nat) : Int) ∈ gR R v) && decide (((x : Nat) : Int) ∈ fnd S))) := by
  unfold rdk
  rw [List.range_succ, List.any_append]
  simp
theorem closes_eq {v : Nat} (hv : v < R.length) (h : IsSt R.length (nUp R) L S) : decide (((v : Nat) : Int) ∈ fnd S) = (rdk R S v R.length || decide (((v : Nat) : Int) ∈ L)) := by
  rw [Bool.eq_iff_iff, Bool.or_eq_true, decide_eq_true_iff, decide_eq_true_iff, fnd_way h, rdk, List.any_eq_true]
  constructor
  · rintro ⟨_, k, hk⟩
    cases k with
    | zero => exact Or.inr hk.2
    | succ k =>
      obtain ⟨_, u, hu, hm⟩ := hk
      refine Or.inl ⟨u, List.mem_range.2 hu.lt, ?_⟩
      rw [Bool.and_eq_true, decide_eq_true_iff, decide_eq_true_iff]
      exact ⟨(up_iff hv u).1 hm, (fnd_way h u).2 ⟨hu.lt, k, hu⟩⟩
  · rintro (⟨u, hu, hq⟩ | hq)
    · rw [Bool.and_eq_true, decide_eq_true_iff, decide_eq_true_iff] at hq
      obtain ⟨_, k, hk⟩ := (fnd_way h u).1 hq.2
      exact ⟨hv, k + 1, hv, u, hk, (up_iff hv u).2 hq.1⟩
    · exact ⟨hv, 0, hv, hq⟩
end
end Go.Proofs.Ytpjnpmdpabnjkaa
