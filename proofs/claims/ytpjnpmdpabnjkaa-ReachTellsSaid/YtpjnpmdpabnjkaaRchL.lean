/-
  What layer 13's laws ask besides: what is told of nodes fits. No Go function is walked here.
-/
import Derived.Test.YtpjnpmdpabnjkaaRchG
import Derived.Test.YtpjnpmdpabnjkaaR13b
import Derived.Test.YtpjnpmdpabnjkaaR13c
import Derived.Test.YtpjnpmdpabnjkaaR13d
namespace Go.Proofs.Ytpjnpmdpabnjkaa
open Go.RowKit
set_option linter.unusedSimpArgs false
set_option linter.unusedVariables false

section
variable {n : Nat} {N : Nat → List Int} {L S : List Int}
theorem fnd_inr (h : IsSt n N L S) (hn : n ≤ 20000) : ∀ z ∈ fnd S, InR z := fun z hz => by
  have := ((mem_fnd z).1 hz).1
  rw [h.len] at this
  unfold gnd at this; unfold InR; omega
theorem fnd_le (h : IsSt n N L S) (hn : n ≤ 20000) : (fnd S).length ≤ 20000 := by
  have := fnd_len S
  rw [h.len] at this; omega
theorem fnd_way (h : IsSt n N L S) (v : Nat) : ((v : Nat) : Int) ∈ fnd S ↔ v < n ∧ ∃ k, Way n N L k v := by
  rw [mem_fnd, h.len]
  constructor
  · rintro ⟨h1, h2⟩
    have hv : v < n := by unfold gnd at h1; omega
    rw [Int.toNat_natCast] at h2
    exact ⟨hv, (h.reached hv).1 h2⟩
  · rintro ⟨hv, hk⟩
    refine ⟨⟨by omega, by omega⟩, ?_⟩
    rw [Int.toNat_natCast]
    exact (h.reached hv).2 hk
end
end Go.Proofs.Ytpjnpmdpabnjkaa
