/-
  Rising rows of numbers: two with the same numbers are one. No Go function is walked here. No conditions.
-/
import Derived.Test.YtogckefmmjbapaaBitM
namespace Go.Proofs.Ytogckefmmjbapaa
open Go.RowKit
set_option linter.unusedSimpArgs false
set_option linter.unusedVariables false

/-- A rising row. -/
def Rises (L : List Int) : Prop := L.Pairwise (· < ·)
theorem rises_ext : ∀ {L M : List Int}, Rises L → Rises M → (∀ z, z ∈ L ↔ z ∈ M) → L = M
  | [], [], _, _, _ => rfl
  | [], y :: M, _, _, h => by have := (h y).mpr (by simp); cases this
  | x :: L, [], _, _, h => by have := (h x).mp (by simp); cases this
  | x :: L, y :: M, hL, hM, h => by
    have h1 := List.pairwise_cons.1 hL
    have h2 := List.pairwise_cons.1 hM
    have e : x = y := by
      rcases List.mem_cons.1 ((h x).mp (by simp)) with q | q
      · exact q
      · rcases List.mem_cons.1 ((h y).mpr (by simp)) with r | r
        · exact r.symm
        · have := h1.1 y r; have := h2.1 x q; omega
    subst e
    refine congrArg (x :: ·) (rises_ext h1.2 h2.2 fun z => ?_)
    constructor
    · intro q
      rcases List.mem_cons.1 ((h z).mp (by simp [q])) with r | r
      · subst r; have := h1.1 z q; omega
      · exact r
    · intro q
      rcases List.mem_cons.1 ((h z).mpr (by simp [q])) with r | r
      · subst r; have := h2.1 z q; omega
      · exact r
theorem o_mem_wth (n z : Int) : ∀ L : List Int, z ∈ wth L n ↔ z = n ∨ z ∈ L
  | [] => by simp [wth]
  | x :: l => by
    unfold wth
    split
    · rw [List.mem_cons, o_mem_wth n z l, List.mem_cons]
      constructor
      · rintro (q | q | q)
        · exact Or.inr (Or.inl q)
        · exact Or.inl q
        · exact Or.inr (Or.inr q)
      · rintro (q | q | q)
        · exact Or.inr (Or.inl q)
        · exact Or.inl q
        · exact Or.inr (Or.inr q)
    · split
      · rename_i e
        subst e
        simp
      · simp
theorem o_rises_wth (n : Int) : ∀ L : List Int, Rises L → Rises (wth L n)
  | [], _ => by simp [wth, Rises]
  | x :: l, h => by
    have h1 := List.pairwise_cons.1 h
    unfold wth
    split
    · refine List.pairwise_cons.2 ⟨fun z hz => ?_, o_rises_wth n l h1.2⟩
      rcases (o_mem_wth n z l).1 hz with rfl | q
      · assumption
      · exact h1.1 z q
    · split
      · exact h
      · refine List.pairwise_cons.2 ⟨fun z hz => ?_, h⟩
        rcases List.mem_cons.1 hz with rfl | q
        · omega
        · have := h1.1 z q; omega
theorem o_mem_rise (z : Int) : ∀ (L : List Int) (A : List Int), z ∈ L.foldl wth A ↔ z ∈ L ∨ z ∈ A
  | [], A => by simp
  | x :: L, A => by
    rw [List.foldl_cons, o_mem_rise z L, o_mem_wth, List.mem_cons]
    constructor
    · rintro (q | q | q)
      · exact Or.inl (Or.inr q)
      · exact Or.inl (Or.inl q)
      · exact Or.inr q
    · rintro ((q | q) | q)
      · exact Or.inr (Or.inl q)
      · exact Or.inl q
      · exact Or.inr (Or.inr q)
theorem o_rises_rise : ∀ (L : List Int) (A : List Int), Rises A → Rises (L.foldl wth A)
  | [], _, h => h
  | x :: L, A, h => o_rises_rise L _ (o_rises_wth x A h)
end Go.Proofs.Ytogckefmmjbapaa
