/-
  Layer 13's row and awake. No conditions.
-/
import Derived.Test.YtpjnpmdpabnjkaaRchE
import Derived.Test.YtpjnpmdpabnjkaaGrV
import Derived.Test.YtpjnpmdpabnjkaaGrU
namespace Go.Proofs.Ytpjnpmdpabnjkaa
open Go.RowKit
set_option linter.unusedSimpArgs false
set_option linter.unusedVariables false

/-- Steps that are looked through one by one. -/
theorem isst_check {n : Nat} {N : Nat → List Int} {L : List Int} (S : List Int) (hl : S.length = n) (h0 : ∀ v, v < n → ((v : Nat) : Int) ∈ L → S.getD v 0 = 0) (h1 : ∀ u, u < n → S.getD u 0 ≠ -1 → ∀ x ∈ N u, gnd n x → S.getD x.toNat 0 ≠ -1 ∧ S.getD x.toNat 0 ≤ S.getD u 0 + 1)
    (h2 : ∀ v, v < n → S.getD v 0 = -1 ∨ (S.getD v 0 = 0 ∧ ((v : Nat) : Int) ∈ L) ∨ (0 < S.getD v 0 ∧ ∃ u, u < n ∧ S.getD u 0 = S.getD v 0 - 1 ∧ ((v : Nat) : Int) ∈ N u)) : IsSt n N L S := by
  have hs : ∀ (d : Nat) v, v < n → S.getD v 0 = (d : Int) → Way n N L d v := by
    intro d
    induction d with
    | zero =>
      intro v hv e
      rcases h2 v hv with q | q | q
      · omega
      · exact ⟨hv, q.2⟩
      · omega
    | succ d ih =>
      intro v hv e
      rcases h2 v hv with q | q | ⟨_, u, hu, q, hm⟩
      · omega
      · omega
      · exact ⟨hv, u, ih u hu (by omega), hm⟩
  refine isst_of hl (fun v hv => ?_) ?_
  · rcases h2 v hv with q | q | q
    · exact Or.inl q
    · exact Or.inr ⟨0, q.1, hs 0 v hv q.1⟩
    · exact Or.inr ⟨(S.getD v 0).toNat, by omega, hs _ v hv (by omega)⟩
  · intro k
    induction k with
    | zero => intro v hw; rw [h0 v hw.1 hw.2]; omega
    | succ k ih =>
      rintro v ⟨hv, u, hu, hvu⟩
      have q1 := ih u hu
      have q2 := h1 u hu.lt q1.1 (v : Int) hvu ⟨by omega, by omega⟩
      rw [Int.toNat_natCast] at q2
      omega
def rowA : List GA := [(1, [0]), (2, [1])]
set_option maxRecDepth 100000 in
theorem row_r (w : World) : Calls Try.prog 19 #[] w fun e w' => ∃ a c, e = .returned (.slice a 2 c) ∧ ActsG w' a rowA ∧ Below w.heap.size w w' := by
  go_enter Try.func19, Try.ntmps19
  go_wp2_with fail
  go_ret
  refine ⟨_, _, rfl, fun k hk => ?_, below3 w _ _ _⟩
  have r1 : Sl (((w.alloc (.cells #[.int .i64 0] 3)).alloc (.cells #[.int .i64 1] 3)).alloc (.cells #[.int .i64 1, .slice (some ⟨w.heap.size, 0, none⟩) 1 1, .int .i64 2, .slice (some ⟨w.heap.size + 1, 0, none⟩) 1 1] 40)) (.slice (some ⟨w.heap.size, 0, none⟩) 1 1) [0] :=
    ⟨_, _, rfl, Nat.le_refl _, fun q => (by cases q), (lit_rg w [0] (by decide)).below (below2 _ _ _)⟩
  have r2 : Sl (((w.alloc (.cells #[.int .i64 0] 3)).alloc (.cells #[.int .i64 1] 3)).alloc (.cells #[.int .i64 1, .slice (some ⟨w.heap.size, 0, none⟩) 1 1, .int .i64 2, .slice (some ⟨w.heap.size + 1, 0, none⟩) 1 1] 40)) (.slice (some ⟨w.heap.size + 1, 0, none⟩) 1 1) [1] :=
    ⟨_, _, rfl, Nat.le_refl _, fun q => (by cases q), by
      have := (lit_rg (w.alloc (.cells #[.int .i64 0] 3)) [1] (by decide)).below ((Below.refl _ _).alloc (Nat.le_refl _) (.cells #[.int .i64 1, .slice (some ⟨w.heap.size, 0, none⟩) 1 1, .int .i64 2, .slice (some ⟨w.heap.size + 1, 0, none⟩) 1 1] 40))
      simpa using this⟩
  have hk : k < 2 := hk
  rcases (by omega : k = 0 ∨ k = 1) with rfl | rfl
  · exact ⟨_, _, _, rfl, by simp [go_sem, gAt, rowA], by simp [go_sem, gAt, rowA], r1, by decide⟩
  · exact ⟨_, _, _, rfl, by simp [go_sem, gAt, rowA], by simp [go_sem, gAt, rowA], r2, by decide⟩
def R4 : List (List Int) := [[], [0], [1], []]
theorem up1 : IsSt 4 (nUp R4) [1] [-1, 0, 1, -1] := isst_check _ rfl (by decide) (by decide) (by decide)
theorem up0 : IsSt 4 (nUp R4) [0] [0, 1, 2, -1] := isst_check _ rfl (by decide) (by decide) (by decide)
theorem up9 : IsSt 4 (nUp R4) [9] [-1, -1, -1, -1] := isst_check _ rfl (by decide) (by decide) (by decide)
theorem dn1 : IsSt 4 (nDn R4) [1] [1, 0, -1, -1] := isst_check _ rfl (by decide) (by decide) (by decide)
theorem gfold4 : gfold 4 rowA rowA.length = R4 := by decide
set_option maxHeartbeats 8000000 in
set_option maxRecDepth 100000 in
theorem awake13 (w : World) : Calls Try.prog 7 #[] w fun e w' => e = .returned (.bool true) ∧ Below w.heap.size w w' := by
  go_enter Try.func7, Try.ntmps7
  go_wp2_with fail
  refine (row_r _).mono ?_; rintro e w1 ⟨a, c, rfl, hA, hb1⟩
  have hmk := made_at 4 (by omega) (by omega) a c rowA w1 hA (by decide)
  rw [gfold4] at hmk
  have HB1 := Lib.hid hb1
  clear hA hb1
  go_wp2_with fail
  refine hmk.mono ?_; clear hmk; rintro e w2 ⟨B, F, x, rfl, hG⟩
  have hx := hG.x
  obtain ⟨xa, xc, us, rfl, _⟩ := hx
  have hG1 : OneG w w2 B R4 F := ⟨hG.s.r, HB1.out.trans (hG.s.b.mono HB1.out.size), fun j hj => Nat.le_trans HB1.out.size (hG.s.f j hj)⟩
  clear hG HB1
  go_upto_region 4 with fail
  have h3 := hG1.below (below1 w2 (.cells #[.slice xa R4.length xc] 29))
  clear hG1
  generalize w2.alloc (.cells #[.slice xa R4.length xc] 29) = w3 at *
  -- THE CALLS (gen13a.py)
  have hb0 := below1 w3 (.cells #[.int .i64 1] 3)
  have hc := reach_o (h3.below hb0) (some ⟨w3.heap.size, 0, none⟩) 1 [1] (lit_rg w3 [1] (by decide)) (by decide)
  simp only [List.length_cons, List.length_nil, Nat.reduceAdd, List.map_cons, List.map_nil] at hc
  have H3 := Lib.hid (h3.below hb0)
  clear hb0 h3
  go_wp2_with fail
  refine hc.mono ?_; clear hc; rintro e w4 ⟨u, S, rfl, ho, hS, hb⟩
  obtain rfl := hS.uniq up1
  rw [show fnd [-1, 0, 1, -1] = [1, 2] from by decide] at ho
  have h4 := H3.out.below hb
  obtain ⟨a0, c0, rfl, _, hrd⟩ := ho.reads (by decide)
  clear ho hb hS H3
  have hl3 := lit_rg w4 ([1, 2] : List Int) (by decide)
  have hb3 := below1 w4 (.cells #[.int .i64 1, .int .i64 2] 3)
  have hsm := same_any a0 (some ⟨w4.heap.size, 0, none⟩) c0 2 [1, 2] [1, 2] _ (hrd.below hb3) hl3 (by decide)
  rw [show decide (([1, 2] : List Int) = [1, 2]) = true by decide] at hsm
  simp only [List.length_cons, List.length_nil, Nat.reduceAdd, List.map_cons, List.map_nil] at hsm ⊢
  have H4 := Lib.hid (h4.below hb3)
  clear hl3 hrd hb3 h4
  go_wp2_with fail
  refine hsm.mono ?_; clear hsm; rintro e w5 ⟨rfl, hb⟩
  have h5 := H4.out.below hb
  clear hb H4
  have hb0 := below1 w5 (.cells #[.int .i64 1] 3)
  have hc := needs_o (h5.below hb0) (some ⟨w5.heap.size, 0, none⟩) 1 [1] (lit_rg w5 [1] (by decide)) (by decide)
  simp only [List.length_cons, List.length_nil, Nat.reduceAdd, List.map_cons, List.map_nil] at hc
  have H5 := Lib.hid (h5.below hb0)
  clear hb0 h5
  go_wp2_with fail
  refine hc.mono ?_; clear hc; rintro e w6 ⟨u, S, rfl, ho, hS, hb⟩
  obtain rfl := hS.uniq dn1
  rw [show fnd [1, 0, -1, -1] = [0, 1] from by decide] at ho
  have h6 := H5.out.below hb
  obtain ⟨a0, c0, rfl, _, hrd⟩ := ho.reads (by decide)
  clear ho hb hS H5
  have hl3 := lit_rg w6 ([0, 1] : List Int) (by decide)
  have hb3 := below1 w6 (.cells #[.int .i64 0, .int .i64 1] 3)
  have hsm := same_any a0 (some ⟨w6.heap.size, 0, none⟩) c0 2 [0, 1] [0, 1] _ (hrd.below hb3) hl3 (by decide)
  rw [show decide (([0, 1] : List Int) = [0, 1]) = true by decide] at hsm
  simp only [List.length_cons, List.length_nil, Nat.reduceAdd, List.map_cons, List.map_nil] at hsm ⊢
  have H6 := Lib.hid (h6.below hb3)
  clear hl3 hrd hb3 h6
  go_wp2_with fail
  refine hsm.mono ?_; clear hsm; rintro e w7 ⟨rfl, hb⟩
  have h7 := H6.out.below hb
  clear hb H6
  have hb0 := below1 w7 (.cells #[.int .i64 0] 3)
  have hc := steps_o (h7.below hb0) (some ⟨w7.heap.size, 0, none⟩) 1 [0] (lit_rg w7 [0] (by decide)) (by decide)
  simp only [List.length_cons, List.length_nil, Nat.reduceAdd, List.map_cons, List.map_nil] at hc
  have H7 := Lib.hid (h7.below hb0)
  clear hb0 h7
  go_wp2_with fail
  refine hc.mono ?_; clear hc; rintro e w8 ⟨u, S, rfl, ho, hS, hb⟩
  obtain rfl := hS.uniq up0
  have h8 := H7.out.below hb
  obtain ⟨a0, c0, rfl, _, hrd⟩ := ho.reads (by decide)
  clear ho hb hS H7
  have hl3 := lit_rg w8 ([0, 1, 2, -1] : List Int) (by decide)
  have hb3 := below1 w8 (.cells #[.int .i64 0, .int .i64 1, .int .i64 2, .int .i64 (-1)] 3)
  have hsm := same_any a0 (some ⟨w8.heap.size, 0, none⟩) c0 4 [0, 1, 2, -1] [0, 1, 2, -1] _ (hrd.below hb3) hl3 (by decide)
  rw [show decide (([0, 1, 2, -1] : List Int) = [0, 1, 2, -1]) = true by decide] at hsm
  simp only [List.length_cons, List.length_nil, Nat.reduceAdd, List.map_cons, List.map_nil] at hsm ⊢
  have H8 := Lib.hid (h8.below hb3)
  clear hl3 hrd hb3 h8
  go_wp2_with fail
  refine hsm.mono ?_; clear hsm; rintro e w9 ⟨rfl, hb⟩
  have h9 := H8.out.below hb
  clear hb H8
  have hb0 := below1 w9 (.cells #[.int .i64 0] 3)
  have hc := reach_n (some ⟨w9.heap.size, 0, none⟩) 1 [0] (lit_rg w9 [0] (by decide)) (by decide)
  simp only [List.length_cons, List.length_nil, Nat.reduceAdd, List.map_cons, List.map_nil] at hc
  have H9 := Lib.hid (h9.below hb0)
  clear hb0 h9
  go_wp2_with fail
  refine hc.mono ?_; clear hc; rintro e w10 ⟨u, rfl, ho, hb⟩
  have h10 := H9.out.below hb
  obtain ⟨a0, c0, rfl, _, hrd⟩ := ho.reads (by decide)
  clear ho hb H9
  simp only [List.length_cons, List.length_nil, Nat.reduceAdd, List.map_cons, List.map_nil]
  clear hrd
  have hb0 := below1 w10 (.cells #[.int .i64 9] 3)
  have hc := reach_o (h10.below hb0) (some ⟨w10.heap.size, 0, none⟩) 1 [9] (lit_rg w10 [9] (by decide)) (by decide)
  simp only [List.length_cons, List.length_nil, Nat.reduceAdd, List.map_cons, List.map_nil] at hc
  have H10 := Lib.hid (h10.below hb0)
  clear hb0 h10
  go_wp2_with fail
  refine hc.mono ?_; clear hc; rintro e w11 ⟨u, S, rfl, ho, hS, hb⟩
  obtain rfl := hS.uniq up9
  rw [show fnd [-1, -1, -1, -1] = [] from by decide] at ho
  have h11 := H10.out.below hb
  obtain ⟨a0, c0, rfl, _, hrd⟩ := ho.reads (by decide)
  clear ho hb hS H10
  simp only [List.length_cons, List.length_nil, Nat.reduceAdd, List.map_cons, List.map_nil]
  clear hrd
  go_wp2_with fail
  go_ret
  exact ⟨rfl, h11.b⟩
end Go.Proofs.Ytpjnpmdpabnjkaa
