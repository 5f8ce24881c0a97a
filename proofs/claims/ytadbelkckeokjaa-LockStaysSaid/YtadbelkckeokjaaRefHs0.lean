/-
  One step further in a list of numbers. No Go function is walked here.
-/
import Derived.Test.YtadbelkckeokjaaRow
import Derived.Deep.QuietTactic
import Derived.BigQuiet
import Derived.WalkSmall
namespace Go.Proofs.Ytadbelkckeokjaa
open Go.RowKit
theorem take_step {L : List Int} {k : Nat} (h : k < L.length) (p : Int → Prop) : (∀ s ∈ L.take (k + 1), p s) ↔ (∀ s ∈ L.take k, p s) ∧ p (L.getD k 0) := by
  rw [List.take_succ_eq_append_getElem h, getD_lt _ _ h]
  constructor
  · intro q
    exact ⟨fun s hs => q s (List.mem_append_left _ hs), q _ (List.mem_append_right _ (by simp))⟩
  · rintro ⟨q1, q2⟩ s hs
    rcases List.mem_append.mp hs with hs | hs
    · exact q1 s hs
    · simp at hs; rw [hs]; exact q2

end Go.Proofs.Ytadbelkckeokjaa
