/-
  One graph that a walk has made, carried on from call to call. No conditions.
-/
import Derived.Test.YtbaeanpdjdcheaaGreatGrG
import Derived.Test.YtbaeanpdjdcheaaGreatRfH
namespace Go.Proofs.YtbaeanpdjdcheaaGreat
open Go.RowKit
set_option linter.unusedSimpArgs false
set_option linter.unusedVariables false

theorem lit_rg (w : World) (L : List Int) (hL : ∀ z ∈ L, InR z) : Reads (w.alloc (.cells (L.map (Value.int .i64)).toArray 3)) (some ⟨w.heap.size, 0, none⟩) L :=
  ⟨hL, fun i hi => ⟨w.heap.size, 0, rfl, by rw [getD_lt _ _ hi]; simp [hi]⟩⟩
theorem lit_slo {F : Nat → Prop} (w : World) (L : List Int) (hL : ∀ z ∈ L, InR z) (hF : ∀ j, F j → j < w.heap.size) : SlX F (w.alloc (.cells (L.map (Value.int .i64)).toArray 3)) (.slice (some ⟨w.heap.size, 0, none⟩) L.length L.length) L :=
  ⟨⟨_, _, rfl, Nat.le_refl _, fun q => by (cases q), lit_rg w L hL⟩, fun _ b hb => by cases hb; exact ⟨by simp, fun q => by have := hF _ q; simp at this⟩⟩
/-- A graph that was made behind w0, at w. -/
structure OneG (w0 w : World) (B : Nat) (R : List (List Int)) (F : Nat → Prop) : Prop where
  r : GrR w B R F
  b : Below w0.heap.size w0 w
  f : ∀ j, F j → w0.heap.size ≤ j
theorem OneG.below {w0 w w' : World} {B : Nat} {R : List (List Int)} {F : Nat → Prop} (h : OneG w0 w B R F) (hb : Below w.heap.size w w') : OneG w0 w' B R F :=
  ⟨h.r.below hb, h.b.trans (hb.mono h.b.size), h.f⟩
theorem OneG.turn {w0 w w' : World} {B : Nat} {R R' : List (List Int)} {F F' : Nat → Prop} (h : OneG w0 w B R F) (hr : GrR w' B R' F') (ht : Turn F w w') (hs : ∀ j, F' j → F j ∨ w.heap.size ≤ j) : OneG w0 w' B R' F' :=
  ⟨hr, h.b.trans (ht.below h.f h.b.size), fun j hj => by
    rcases hs j hj with q | q
    · exact h.f j q
    · exact Nat.le_trans h.b.size q⟩
theorem OneG.new {w0 w w' : World} {B : Nat} {R : List (List Int)} {F : Nat → Prop} (hb0 : Below w0.heap.size w0 w) (hr : GrR w' B R F) (hb : Below w.heap.size w w') (hf : ∀ j, F j → w.heap.size ≤ j) : OneG w0 w' B R F :=
  ⟨hr, hb0.trans (hb.mono hb0.size), fun j hj => Nat.le_trans hb0.size (hf j hj)⟩
theorem set_o {w0 w : World} {B : Nat} {R : List (List Int)} {F : Nat → Prop} (h : OneG w0 w B R F) (v : Int) {x : Value} {l : List Int} (hl : SlX F w x l) (hn : l.length ≤ 1000000) :
    Calls Tryz.prog 21 #[.pointer (some ⟨B, 0, none⟩), .int .i64 v, x] w fun e w' => e = .returned (.tuple #[.int .i64 (gadd R v l), .int .i64 (gdrop R v l), .int .i64 (gfault R.length v l)]) ∧ ∃ F', OneG w0 w' B (gset R v l) F' ∧ Turn F w w' ∧ ∀ j, F' j → F j ∨ w.heap.size ≤ j :=
  (set_g h.r v hl hn).mono fun e w' ⟨h1, F', h2, h3, h4⟩ => ⟨h1, F', h.turn h2 h3 h4, h3, h4⟩
theorem has_o {w0 w : World} {B : Nat} {R : List (List Int)} {F : Nat → Prop} (h : OneG w0 w B R F) (v x : Int) (hv : InR v) :
    Calls Tryz.prog 16 #[.pointer (some ⟨B, 0, none⟩), .int .i64 v, .int .i64 x] w fun e w' => e = .returned (.bool (ghas R v x)) ∧ Below w.heap.size w w' := by
  obtain ⟨hI, A, S, V, M, hP, _⟩ := h.r
  rw [ghas_node hI]
  exact has_g hP v x hv
theorem nodes_o {w0 w : World} {B : Nat} {R : List (List Int)} {F : Nat → Prop} (h : OneG w0 w B R F) : Calls Tryz.prog 46 #[.pointer (some ⟨B, 0, none⟩)] w fun e w' => e = .returned (.int .i64 R.length) ∧ w' = w := by
  obtain ⟨hI, A, S, V, M, hP, _⟩ := h.r
  exact nodes_g hP.b0
theorem reads_o {w0 w : World} {B : Nat} {R : List (List Int)} {F : Nat → Prop} (h : OneG w0 w B R F) (v : Int) :
    Calls Tryz.prog 47 #[.pointer (some ⟨B, 0, none⟩), .int .i64 v] w fun e w' => ∃ u, e = .returned u ∧ Own w' w.heap.size u (greads R v) ∧ OneG w0 w' B R F ∧ Below w.heap.size w w' :=
  (reads_g h.r v).mono fun e w' ⟨u, h1, h2, h3⟩ => ⟨u, h1, h2, h.below h3, h3⟩
end Go.Proofs.YtbaeanpdjdcheaaGreat
