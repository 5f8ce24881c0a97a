/-
  One graph that a walk has made, carried on from call to call; layer 12's awake. No conditions.
-/
import Derived.Test.YtpnhlfbohchmbaaGrG
import Derived.Test.YtpnhlfbohchmbaaRefHs
namespace Go.Proofs.Ytpnhlfbohchmbaa
open Go.RowKit
set_option linter.unusedSimpArgs false
set_option linter.unusedVariables false

theorem lit_rg (w : World) (L : List Int) (hL : ∀ z ∈ L, InR z) : Reads (w.alloc (.cells (L.map (Value.int .i64)).toArray 3)) (some ⟨w.heap.size, 0, none⟩) L :=
  ⟨hL, fun i hi => ⟨w.heap.size, 0, rfl, by rw [getD_lt _ _ hi]; simp [hi]⟩⟩
theorem lit_slo {F : Nat → Prop} (w : World) (L : List Int) (hL : ∀ z ∈ L, InR z) (hF : ∀ j, F j → j < w.heap.size) : SlX F (w.alloc (.cells (L.map (Value.int .i64)).toArray 3)) (.slice (some ⟨w.heap.size, 0, none⟩) L.length L.length) L :=
  ⟨⟨_, _, rfl, Nat.le_refl _, fun q => by (cases q), lit_rg w L hL⟩, fun _ b hb => by cases hb; exact ⟨by simp, fun q => by have := hF _ q; simp at this⟩⟩
/-- A graph that was made behind w0, at w. -/
structure OneG (w0 w : World) (B : Nat) (R : List (List Int)) (F : Nat → Prop) : Prop where
  r : GrR w B R F
  b : Below w0.heap.size w0 w
  f : ∀ j, F j → w0.heap.size ≤ j
theorem OneG.below {w0 w w' : World} {B : Nat} {R : List (List Int)} {F : Nat → Prop} (h : OneG w0 w B R F) (hb : Below w.heap.size w w') : OneG w0 w' B R F :=
  ⟨h.r.below hb, h.b.trans (hb.mono h.b.size), h.f⟩
theorem OneG.turn {w0 w w' : World} {B : Nat} {R R' : List (List Int)} {F F' : Nat → Prop} (h : OneG w0 w B R F) (hr : GrR w' B R' F') (ht : Turn F w w') (hs : ∀ j, F' j → F j ∨ w.heap.size ≤ j) : OneG w0 w' B R' F' :=
  ⟨hr, h.b.trans (ht.below h.f h.b.size), fun j hj => by
    rcases hs j hj with q | q
    · exact h.f j q
    · exact Nat.le_trans h.b.size q⟩
theorem OneG.new {w0 w w' : World} {B : Nat} {R : List (List Int)} {F : Nat → Prop} (hb0 : Below w0.heap.size w0 w) (hr : GrR w' B R F) (hb : Below w.heap.size w w') (hf : ∀ j, F j → w.heap.size ≤ j) : OneG w0 w' B R F :=
  ⟨hr, hb0.trans (hb.mono hb0.size), fun j hj => Nat.le_trans hb0.size (hf j hj)⟩
theorem set_o {w0 w : World} {B : Nat} {R : List (List Int)} {F : Nat → Prop} (h : OneG w0 w B R F) (v : Int) {x : Value} {l : List Int} (hl : SlX F w x l) (hn : l.length ≤ 1000000) :
    Calls Try.prog 18 #[.pointer (some ⟨B, 0, none⟩), .int .i64 v, x] w fun e w' => e = .returned (.tuple #[.int .i64 (gadd R v l), .int .i64 (gdrop R v l), .int .i64 (gfault R.length v l)]) ∧ ∃ F', OneG w0 w' B (gset R v l) F' ∧ Turn F w w' ∧ ∀ j, F' j → F j ∨ w.heap.size ≤ j :=
  (set_g h.r v hl hn).mono fun e w' ⟨h1, F', h2, h3, h4⟩ => ⟨h1, F', h.turn h2 h3 h4, h3, h4⟩
theorem has_o {w0 w : World} {B : Nat} {R : List (List Int)} {F : Nat → Prop} (h : OneG w0 w B R F) (v x : Int) (hv : InR v) :
    Calls Try.prog 10 #[.pointer (some ⟨B, 0, none⟩), .int .i64 v, .int .i64 x] w fun e w' => e = .returned (.bool (ghas R v x)) ∧ Below w.heap.size w w' := by
  obtain ⟨hI, A, S, V, M, hP, _⟩ := h.r
  rw [ghas_node hI]
  exact has_g hP v x hv
theorem nodes_o {w0 w : World} {B : Nat} {R : List (List Int)} {F : Nat → Prop} (h : OneG w0 w B R F) : Calls Try.prog 21 #[.pointer (some ⟨B, 0, none⟩)] w fun e w' => e = .returned (.int .i64 R.length) ∧ w' = w := by
  obtain ⟨hI, A, S, V, M, hP, _⟩ := h.r
  exact nodes_g hP.b0
theorem edges_o {w0 w : World} {B : Nat} {R : List (List Int)} {F : Nat → Prop} (h : OneG w0 w B R F) : Calls Try.prog 20 #[.pointer (some ⟨B, 0, none⟩)] w fun e w' => e = .returned (.int .i64 (gedges R : Nat)) ∧ w' = w := by
  obtain ⟨hI, A, S, V, M, hP, _⟩ := h.r
  exact edges_g hP.b2
theorem reads_o {w0 w : World} {B : Nat} {R : List (List Int)} {F : Nat → Prop} (h : OneG w0 w B R F) (v : Int) :
    Calls Try.prog 13 #[.pointer (some ⟨B, 0, none⟩), .int .i64 v] w fun e w' => ∃ u, e = .returned u ∧ Own w' w.heap.size u (greads R v) ∧ OneG w0 w' B R F ∧ Below w.heap.size w w' :=
  (reads_g h.r v).mono fun e w' ⟨u, h1, h2, h3⟩ => ⟨u, h1, h2, h.below h3, h3⟩
theorem readers_o {w0 w : World} {B : Nat} {R : List (List Int)} {F : Nat → Prop} (h : OneG w0 w B R F) (v : Int) :
    Calls Try.prog 15 #[.pointer (some ⟨B, 0, none⟩), .int .i64 v] w fun e w' => ∃ u, e = .returned u ∧ Own w' w.heap.size u (grdrs R v) ∧ OneG w0 w' B R F ∧ Below w.heap.size w w' :=
  (readers_g h.r v).mono fun e w' ⟨u, h1, h2, h3⟩ => ⟨u, h1, h2, h.below h3, h3⟩
set_option maxHeartbeats 8000000 in
set_option maxRecDepth 100000 in
theorem g_awake (w : World) : Calls Try.prog 7 #[] w fun e w' => e = .returned (.bool true) ∧ Below w.heap.size w w' := by
  go_enter Try.func7, Try.ntmps7
  go_wp2_with fail
  refine (new_g 6 _ (by omega) (by omega)).mono ?_; rintro e w1 ⟨B, F, rfl, hr, hb, hf⟩
  have h1 := OneG.new (Below.refl w.heap.size w) hr hb hf
  rw [show (List.replicate 6 [] : List (List Int)) = [[], [], [], [], [], []] from rfl] at h1
  clear hr hb hf
  have hlt := h1.r.foot
  have hs := lit_slo (F := F) w1 ([0, 1] : List Int) (by decide) hlt
  have hb := below1 w1 (.cells #[.int .i64 0, .int .i64 1] 3)
  have hc := set_o (h1.below hb) 2 hs (by decide)
  rw [show gadd ([[], [], [], [], [], []] : List (List Int)) 2 [0, 1] = 2 by decide, show gdrop ([[], [], [], [], [], []] : List (List Int)) 2 [0, 1] = 0 by decide, show gfault ([[], [], [], [], [], []] : List (List Int)).length 2 [0, 1] = 0 by decide, show gset ([[], [], [], [], [], []] : List (List Int)) 2 [0, 1] = [[], [], [0, 1], [], [], []] by decide] at hc
  simp only [List.length_cons, List.length_nil, Nat.reduceAdd, List.map_cons, List.map_nil] at hc
  clear hlt hs hb
  go_wp2_with fail
  refine hc.mono ?_; clear hc; rintro e w2 ⟨rfl, F, h2, ht, hs⟩
  clear ht hs h1
  have hlt := h2.r.foot
  have hs := lit_slo (F := F) w2 ([1, 5] : List Int) (by decide) hlt
  have hb := below1 w2 (.cells #[.int .i64 1, .int .i64 5] 3)
  have hc := set_o (h2.below hb) 2 hs (by decide)
  rw [show gadd ([[], [], [0, 1], [], [], []] : List (List Int)) 2 [1, 5] = 1 by decide, show gdrop ([[], [], [0, 1], [], [], []] : List (List Int)) 2 [1, 5] = 1 by decide, show gfault ([[], [], [0, 1], [], [], []] : List (List Int)).length 2 [1, 5] = 0 by decide, show gset ([[], [], [0, 1], [], [], []] : List (List Int)) 2 [1, 5] = [[], [], [1, 5], [], [], []] by decide] at hc
  simp only [List.length_cons, List.length_nil, Nat.reduceAdd, List.map_cons, List.map_nil] at hc
  clear hlt hs hb
  go_wp2_with fail
  refine hc.mono ?_; clear hc; rintro e w3 ⟨rfl, F, h3, ht, hs⟩
  clear ht hs h2
  have hlt := h3.r.foot
  have hs := lit_slo (F := F) w3 ([2] : List Int) (by decide) hlt
  have hb := below1 w3 (.cells #[.int .i64 2] 3)
  have hc := set_o (h3.below hb) 2 hs (by decide)
  rw [show gadd ([[], [], [1, 5], [], [], []] : List (List Int)) 2 [2] = 0 by decide, show gdrop ([[], [], [1, 5], [], [], []] : List (List Int)) 2 [2] = 0 by decide, show gfault ([[], [], [1, 5], [], [], []] : List (List Int)).length 2 [2] = 26 by decide, show gset ([[], [], [1, 5], [], [], []] : List (List Int)) 2 [2] = [[], [], [1, 5], [], [], []] by decide] at hc
  simp only [List.length_cons, List.length_nil, Nat.reduceAdd, List.map_cons, List.map_nil] at hc
  clear hlt hs hb
  go_wp2_with fail
  refine hc.mono ?_; clear hc; rintro e w4 ⟨rfl, F, h4, ht, hs⟩
  clear ht hs h3
  have hlt := h4.r.foot
  have hs := lit_slo (F := F) w4 ([0, 0] : List Int) (by decide) hlt
  have hb := below1 w4 (.cells #[.int .i64 0, .int .i64 0] 3)
  have hc := set_o (h4.below hb) 2 hs (by decide)
  rw [show gadd ([[], [], [1, 5], [], [], []] : List (List Int)) 2 [0, 0] = 0 by decide, show gdrop ([[], [], [1, 5], [], [], []] : List (List Int)) 2 [0, 0] = 0 by decide, show gfault ([[], [], [1, 5], [], [], []] : List (List Int)).length 2 [0, 0] = 35 by decide, show gset ([[], [], [1, 5], [], [], []] : List (List Int)) 2 [0, 0] = [[], [], [1, 5], [], [], []] by decide] at hc
  simp only [List.length_cons, List.length_nil, Nat.reduceAdd, List.map_cons, List.map_nil] at hc
  clear hlt hs hb
  go_wp2_with fail
  refine hc.mono ?_; clear hc; rintro e w5 ⟨rfl, F, h5, ht, hs⟩
  clear ht hs h4
  have hlt := h5.r.foot
  have hs := lit_slo (F := F) w5 ([6] : List Int) (by decide) hlt
  have hb := below1 w5 (.cells #[.int .i64 6] 3)
  have hc := set_o (h5.below hb) 2 hs (by decide)
  rw [show gadd ([[], [], [1, 5], [], [], []] : List (List Int)) 2 [6] = 0 by decide, show gdrop ([[], [], [1, 5], [], [], []] : List (List Int)) 2 [6] = 0 by decide, show gfault ([[], [], [1, 5], [], [], []] : List (List Int)).length 2 [6] = 2 by decide, show gset ([[], [], [1, 5], [], [], []] : List (List Int)) 2 [6] = [[], [], [1, 5], [], [], []] by decide] at hc
  simp only [List.length_cons, List.length_nil, Nat.reduceAdd, List.map_cons, List.map_nil] at hc
  clear hlt hs hb
  go_wp2_with fail
  refine hc.mono ?_; clear hc; rintro e w6 ⟨rfl, F, h6, ht, hs⟩
  clear ht hs h5
  go_wp2_with fail
  refine (set_n 0 _).mono ?_; rintro e w7 ⟨rfl, hb⟩
  have h7 := h6.below hb
  clear hb h6
  go_wp2_with fail
  refine (new_no_g 0 _ (by omega)).mono ?_; rintro e w8 ⟨rfl, rfl⟩
  have h8 := h7; clear h7
  have hc := reads_o h8 2
  rw [show greads ([[], [], [1, 5], [], [], []] : List (List Int)) 2 = [1, 5] by decide] at hc
  go_wp2_with fail
  refine hc.mono ?_; clear hc; rintro e w9 ⟨u, rfl, hown, h9, hb⟩
  obtain ⟨a0, c0, rfl, _, hrd⟩ := hown.reads (by decide)
  clear hown hb h8
  have hl3 := lit_rg w9 ([1, 5] : List Int) (by decide)
  have hb3 := below1 w9 (.cells #[.int .i64 1, .int .i64 5] 3)
  have hsm := same_any a0 (some ⟨w9.heap.size, 0, none⟩) c0 2 [1, 5] [1, 5] _ (hrd.below hb3) hl3 (by decide)
  rw [show decide (([1, 5] : List Int) = [1, 5]) = true by decide] at hsm
  simp only [List.length_cons, List.length_nil, Nat.reduceAdd, List.map_cons, List.map_nil] at hsm ⊢
  have H9 := Lib.hid (h9.below hb3)
  clear hl3 hrd hb3 h9
  go_wp2_with fail
  refine hsm.mono ?_; clear hsm; rintro e w10 ⟨rfl, hb⟩
  have h10 := H9.out.below hb
  clear hb H9
  have hc := readers_o h10 5
  rw [show grdrs ([[], [], [1, 5], [], [], []] : List (List Int)) 5 = [2] by decide] at hc
  go_wp2_with fail
  refine hc.mono ?_; clear hc; rintro e w11 ⟨u, rfl, hown, h11, hb⟩
  obtain ⟨a0, c0, rfl, _, hrd⟩ := hown.reads (by decide)
  clear hown hb h10
  have hl3 := lit_rg w11 ([2] : List Int) (by decide)
  have hb3 := below1 w11 (.cells #[.int .i64 2] 3)
  have hsm := same_any a0 (some ⟨w11.heap.size, 0, none⟩) c0 1 [2] [2] _ (hrd.below hb3) hl3 (by decide)
  rw [show decide (([2] : List Int) = [2]) = true by decide] at hsm
  simp only [List.length_cons, List.length_nil, Nat.reduceAdd, List.map_cons, List.map_nil] at hsm ⊢
  have H11 := Lib.hid (h11.below hb3)
  clear hl3 hrd hb3 h11
  go_wp2_with fail
  refine hsm.mono ?_; clear hsm; rintro e w12 ⟨rfl, hb⟩
  have h12 := H11.out.below hb
  clear hb H11
  have hc := readers_o h12 0
  rw [show grdrs ([[], [], [1, 5], [], [], []] : List (List Int)) 0 = [] by decide] at hc
  go_wp2_with fail
  refine hc.mono ?_; clear hc; rintro e w13 ⟨u, rfl, hown, h13, hb⟩
  obtain ⟨a0, c0, rfl, _, hrd⟩ := hown.reads (by decide)
  clear hown hb hrd h12
  have hc := has_o h13 2 1 (by decide)
  rw [show ghas ([[], [], [1, 5], [], [], []] : List (List Int)) 2 1 = true by decide] at hc
  go_wp2_with fail
  refine hc.mono ?_; clear hc; rintro e w14 ⟨rfl, hb⟩
  have h14 := h13.below hb; clear hb h13
  have hc := has_o h14 1 2 (by decide)
  rw [show ghas ([[], [], [1, 5], [], [], []] : List (List Int)) 1 2 = false by decide] at hc
  go_wp2_with fail
  refine hc.mono ?_; clear hc; rintro e w15 ⟨rfl, hb⟩
  have h15 := h14.below hb; clear hb h14
  have hc := edges_o h15
  rw [show gedges ([[], [], [1, 5], [], [], []] : List (List Int)) = 2 by decide] at hc
  go_wp2_with fail
  refine hc.mono ?_; clear hc; rintro e w16 ⟨rfl, rfl⟩
  have hc := nodes_o h15
  go_wp2_with fail
  refine hc.mono ?_; clear hc; rintro e w17 ⟨rfl, rfl⟩
  have HB := Lib.hid h15.b; clear h15
  go_wp2_with fail
  go_ret
  exact ⟨rfl, HB.out⟩
end Go.Proofs.Ytpnhlfbohchmbaa
