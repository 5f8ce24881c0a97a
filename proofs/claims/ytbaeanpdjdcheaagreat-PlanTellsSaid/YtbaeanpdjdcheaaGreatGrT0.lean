/-
  Rows that a graph tells, or that are handed to it: they fit, and lie elsewhere. No conditions.
-/
import Derived.Test.YtbaeanpdjdcheaaGreatGrJ
namespace Go.Proofs.YtbaeanpdjdcheaaGreat
open Go.RowKit
set_option linter.unusedSimpArgs false
set_option linter.unusedVariables false

theorem slx_act {w0 w : World} {B : Nat} {R : List (List Int)} {F : Nat → Prop} (h : OneG w0 w B R F) {u : Value} {L : List Int} (hs : Sl w0 u L) : SlX F w u L := by
  have h0 := slx_of hs h.f
  refine ⟨hs.below h.b, fun hn b hb => ?_⟩
  have := h0.2 hn b hb
  exact ⟨Nat.lt_of_lt_of_le this.1 h.b.size, this.2⟩
theorem slx_fresh {w0 w w' : World} {B : Nat} {R : List (List Int)} {F : Nat → Prop} (h : OneG w0 w B R F) {u : Value} {L : List Int} (ho : Own w' w.heap.size u L) (hL : ∀ z ∈ L, InR z) : SlX F w' u L :=
  slx_own ho hL fun j hj => h.r.foot j hj
theorem inr_row {R : List (List Int)} (hI : GrI R) (v : Nat) : ∀ z ∈ gR R v, InR z := fun z hz => by
  have h1 := hI.nodes v z hz
  have h2 := hI.hi
  unfold gnd at h1; unfold InR; omega
theorem inr_greads {R : List (List Int)} (hI : GrI R) (v : Int) : ∀ z ∈ greads R v, InR z := fun z hz => by
  unfold greads at hz
  split at hz
  · exact inr_row hI _ z hz
  · cases hz
theorem inr_rdrs {R : List (List Int)} (hI : GrI R) (v : Int) : ∀ z ∈ grdrs R v, InR z := fun z hz => by
  unfold grdrs at hz
  obtain ⟨u, hu, rfl⟩ := List.mem_map.1 hz
  have h1 := List.mem_range.1 (List.mem_filter.1 hu).1
  have h2 := hI.hi
  unfold InR; omega
theorem rdrs_len {R : List (List Int)} (v : Int) : (grdrs R v).length ≤ R.length := by
  unfold grdrs
  rw [List.length_map]
  exact Nat.le_trans (List.length_filter_le _ _) (by simp)
end Go.Proofs.YtbaeanpdjdcheaaGreat
