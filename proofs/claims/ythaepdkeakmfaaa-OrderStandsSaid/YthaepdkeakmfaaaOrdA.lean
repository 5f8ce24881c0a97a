/-
  Layer 14's awake. No conditions.
-/
import Derived.Test.YthaepdkeakmfaaaR14d
import Derived.Test.YthaepdkeakmfaaaGrV
import Derived.Test.YthaepdkeakmfaaaGrU
namespace Go.Proofs.Ythaepdkeakmfaaa
open Go.RowKit
set_option linter.unusedSimpArgs false
set_option linter.unusedVariables false

def RA : List (List Int) := [[2], [], [], []]
def RB : List (List Int) := [[1], [0]]
def rowA : List GA := [(0, [2])]
def rowB : List GA := [(0, [1]), (1, [0])]
theorem foldA : gfold 4 rowA rowA.length = RA := by decide
theorem foldB : gfold 2 rowB rowB.length = RB := by decide
set_option maxRecDepth 100000 in
theorem ordA1 : IsOrd RA (sel RA.length [0, 1, 2, 2, 9]) [1, 2, 0] := ⟨by unfold OrdP; decide, by decide⟩
set_option maxRecDepth 100000 in
theorem ordB1 : IsOrd RB (sel RB.length [0, 1]) [] := ⟨by unfold OrdP; decide, by decide⟩
set_option maxRecDepth 100000 in
theorem ordB2 : IsOrd RB (sel RB.length [1]) [1] := ⟨by unfold OrdP; decide, by decide⟩
set_option maxRecDepth 100000 in
theorem ordA2 : IsOrd RA (sel RA.length [0, 2]) [2, 0] := ⟨by unfold OrdP; decide, by decide⟩
set_option maxRecDepth 100000 in
theorem wavA1 : IsWav RA (sel RA.length [0, 1, 2]) [[1, 2], [0]] := ⟨by unfold WavP; decide, by decide⟩
/-- A circle has two nodes at least, and no more than there are. -/
theorem cyc_two {R : List (List Int)} {A C : List Int} (hI : GrI R) (hA : ∀ x ∈ A, gnd R.length x) (h : IsCyc R A C) : 2 ≤ C.length ∧ C.length ≤ R.length := by
  refine ⟨?_, nodup_len h.nd fun x hx => hA x (h.sub x hx)⟩
  have h0 := h.pos
  refine Classical.byContradiction fun q => ?_
  have h1 : C.length = 1 := by omega
  have h2 := h.rd 0 h0
  rw [if_neg (by omega)] at h2
  have hg := hA _ (h.sub (C.getD 0 0) (by rw [getD_lt _ _ h0]; exact List.getElem_mem h0))
  obtain ⟨v, hv⟩ : ∃ v : Nat, C.getD 0 0 = (v : Int) := ⟨(C.getD 0 0).toNat, by unfold gnd at hg; omega⟩
  rw [hv, Int.toNat_natCast] at h2
  exact hI.self v h2
theorem s_no {s : Bool} {P : Prop} (h : s = true ↔ P) (hn : ¬ P) : s = false := by
  cases s with
  | false => rfl
  | true => exact absurd (h.1 rfl) hn
theorem s_yes {s : Bool} {P : Prop} (h : s = true ↔ P) (hn : P) : s = true := h.2 hn
structure AwI (w wk : World) (Bg : Nat) (Fg : Nat → Prop) (Bh : Nat) (Fh : Nat → Prop) : Prop where
  g : OneG w wk Bg RA Fg
  h : OneG w wk Bh RB Fh
theorem AwI.below {w wk w' : World} {Bg Bh : Nat} {Fg Fh : Nat → Prop} (a : AwI w wk Bg Fg Bh Fh) (hb : Below wk.heap.size wk w') : AwI w w' Bg Fg Bh Fh := ⟨a.g.below hb, a.h.below hb⟩
theorem one_low {w w1 w2 : World} {B : Nat} {R : List (List Int)} {F : Nat → Prop} (h : OneG w1 w2 B R F) (hb : Below w.heap.size w w1) : OneG w w2 B R F := ⟨h.r, hb.trans (h.b.mono hb.size), fun j hj => Nat.le_trans hb.size (h.f j hj)⟩
/-- Rows that are written out. -/
theorem lit_rows (w : World) : RowsR (((w.alloc (.cells #[.int .i64 1, .int .i64 2] 3)).alloc (.cells #[.int .i64 0] 3)).alloc (.cells #[.slice (some ⟨w.heap.size, 0, none⟩) 2 2, .slice (some ⟨w.heap.size + 1, 0, none⟩) 1 1] 23)) 0 (.slice (some ⟨w.heap.size + 1 + 1, 0, none⟩) 2 2) [[1, 2], [0]] := by
  have hs : ((w.alloc (.cells #[.int .i64 1, .int .i64 2] 3)).alloc (.cells #[.int .i64 0] 3)).heap.size = w.heap.size + 1 + 1 := by simp
  have ho := World.ownsRow_lit (base := 0) (e := 23) (size := 1) ((w.alloc (.cells #[.int .i64 1, .int .i64 2] 3)).alloc (.cells #[.int .i64 0] 3)) #[.slice (some ⟨w.heap.size, 0, none⟩) 2 2, .slice (some ⟨w.heap.size + 1, 0, none⟩) 1 1] 2 (Nat.zero_le _) (by unfold maxLen; omega) rfl
  rw [hs] at ho
  refine ⟨_, ho, rfl, fun i hi => ?_⟩
  have hi : i < 2 := hi
  rcases (by omega : i = 0 ∨ i = 1) with rfl | rfl
  · exact ⟨_, _, rfl, Nat.le_refl _, fun q => (by cases q), (lit_rg w [1, 2] (by decide)).below (((Below.refl _ _).alloc (Nat.le_refl _) _).alloc (by simp) _)⟩
  · refine ⟨_, _, rfl, Nat.le_refl _, fun q => (by cases q), ?_⟩
    have := (lit_rg (w.alloc (.cells #[.int .i64 1, .int .i64 2] 3)) [0] (by decide)).below ((Below.refl _ _).alloc (Nat.le_refl _) (.cells #[.slice (some ⟨w.heap.size, 0, none⟩) 2 2, .slice (some ⟨w.heap.size + 1, 0, none⟩) 1 1] 23))
    simpa using this
set_option maxHeartbeats 8000000 in
set_option maxRecDepth 100000 in
theorem awake14 (w : World) : Calls Try.prog 7 #[] w fun e w' => e = .returned (.bool true) ∧ Below w.heap.size w w' := by
  have hA1 : ActsG ((w.alloc (.cells #[.int .i64 2] 3)).alloc (.cells #[.int .i64 0, .slice (some ⟨w.heap.size, 0, none⟩) 1 1] 48)) (some ⟨w.heap.size + 1, 0, none⟩) rowA := fun k hk => by
    have r1 : Sl ((w.alloc (.cells #[.int .i64 2] 3)).alloc (.cells #[.int .i64 0, .slice (some ⟨w.heap.size, 0, none⟩) 1 1] 48)) (.slice (some ⟨w.heap.size, 0, none⟩) 1 1) [2] :=
      ⟨_, _, rfl, Nat.le_refl _, fun q => (by cases q), (lit_rg w [2] (by decide)).below ((Below.refl _ _).alloc (Nat.le_refl _) _)⟩
    have hk : k < 1 := hk
    obtain rfl : k = 0 := by omega
    exact ⟨_, _, _, rfl, by simp [go_sem, gAt, rowA], by simp [go_sem, gAt, rowA], r1, by decide⟩
  have hmk := made_at 4 (by omega) (by omega) _ 1 rowA _ hA1 (by decide)
  rw [foldA] at hmk
  have hl1 : rowA.length = 1 := rfl
  rw [hl1] at hmk
  have HB1 := Lib.hid (below2 w (.cells #[.int .i64 2] 3) (.cells #[.int .i64 0, .slice (some ⟨w.heap.size, 0, none⟩) 1 1] 48))
  clear hA1
  go_enter Try.func7, Try.ntmps7
  go_wp2_with fail
  refine hmk.mono ?_; clear hmk; rintro e w2 ⟨Bg, Fg, x, rfl, hG⟩
  obtain ⟨xa, xc, us, rfl, _⟩ := hG.x
  have hG1 := one_low hG.s HB1.out
  clear hG HB1
  go_upto_region 2 with fail
  have h3 := hG1.below (below1 w2 (.cells #[.slice xa RA.length xc] 29))
  clear hG1
  generalize w2.alloc (.cells #[.slice xa RA.length xc] 29) = w3 at *
  have hA2 : ActsG (((w3.alloc (.cells #[.int .i64 1] 3)).alloc (.cells #[.int .i64 0] 3)).alloc (.cells #[.int .i64 0, .slice (some ⟨w3.heap.size, 0, none⟩) 1 1, .int .i64 1, .slice (some ⟨w3.heap.size + 1, 0, none⟩) 1 1] 48)) (some ⟨w3.heap.size + 1 + 1, 0, none⟩) rowB := fun k hk => by
    have r1 : Sl (((w3.alloc (.cells #[.int .i64 1] 3)).alloc (.cells #[.int .i64 0] 3)).alloc (.cells #[.int .i64 0, .slice (some ⟨w3.heap.size, 0, none⟩) 1 1, .int .i64 1, .slice (some ⟨w3.heap.size + 1, 0, none⟩) 1 1] 48)) (.slice (some ⟨w3.heap.size, 0, none⟩) 1 1) [1] :=
      ⟨_, _, rfl, Nat.le_refl _, fun q => (by cases q), (lit_rg w3 [1] (by decide)).below (below2 _ _ _)⟩
    have r2 : Sl (((w3.alloc (.cells #[.int .i64 1] 3)).alloc (.cells #[.int .i64 0] 3)).alloc (.cells #[.int .i64 0, .slice (some ⟨w3.heap.size, 0, none⟩) 1 1, .int .i64 1, .slice (some ⟨w3.heap.size + 1, 0, none⟩) 1 1] 48)) (.slice (some ⟨w3.heap.size + 1, 0, none⟩) 1 1) [0] :=
      ⟨_, _, rfl, Nat.le_refl _, fun q => (by cases q), by
        have := (lit_rg (w3.alloc (.cells #[.int .i64 1] 3)) [0] (by decide)).below ((Below.refl _ _).alloc (Nat.le_refl _) (.cells #[.int .i64 0, .slice (some ⟨w3.heap.size, 0, none⟩) 1 1, .int .i64 1, .slice (some ⟨w3.heap.size + 1, 0, none⟩) 1 1] 48))
        simpa using this⟩
    have hk : k < 2 := hk
    rcases (by omega : k = 0 ∨ k = 1) with rfl | rfl
    · exact ⟨_, _, _, rfl, by simp [go_sem, gAt, rowB], by simp [go_sem, gAt, rowB], r1, by decide⟩
    · exact ⟨_, _, _, rfl, by simp [go_sem, gAt, rowB], by simp [go_sem, gAt, rowB], r2, by decide⟩
  have hmk := made_at 2 (by omega) (by omega) _ 2 rowB _ hA2 (by decide)
  rw [foldB] at hmk
  have hl2 : rowB.length = 2 := rfl
  rw [hl2] at hmk
  have HB4 := Lib.hid (below3 w3 (.cells #[.int .i64 1] 3) (.cells #[.int .i64 0] 3) (.cells #[.int .i64 0, .slice (some ⟨w3.heap.size, 0, none⟩) 1 1, .int .i64 1, .slice (some ⟨w3.heap.size + 1, 0, none⟩) 1 1] 48))
  have H3 := Lib.hid h3
  clear hA2 h3
  go_wp2_with fail
  refine hmk.mono ?_; clear hmk; rintro e w5 ⟨Bh, Fh, x, rfl, hG⟩
  obtain ⟨ya, yc, us2, rfl, _⟩ := hG.x
  have hH5 := one_low hG.s (H3.out.b.trans (HB4.out.mono H3.out.b.size))
  have hG5 := (H3.out.below HB4.out).below hG.s.b
  clear hG HB4 H3
  go_upto_region 5 with fail
  have h6 : AwI w (w5.alloc (.cells #[.slice ya RB.length yc] 29)) Bg Fg Bh Fh := AwI.below ⟨hG5, hH5⟩ (below1 w5 (.cells #[.slice ya RB.length yc] 29))
  clear hG5 hH5
  generalize w5.alloc (.cells #[.slice ya RB.length yc] 29) = w6 at *
  -- THE CALLS (gen14a.py)
  have hc := order_o (h6.below (below1 w6 (.cells #[.int .i64 0, .int .i64 1, .int .i64 2, .int .i64 2, .int .i64 9] 3))).g (some ⟨w6.heap.size, 0, none⟩) 5 [0, 1, 2, 2, 9] (lit_rg w6 [0, 1, 2, 2, 9] (by decide)) (by decide)
  simp only [List.length_cons, List.length_nil, Nat.reduceAdd, List.map_cons, List.map_nil] at hc
  have hb0 := below1 w6 (.cells #[.int .i64 0, .int .i64 1, .int .i64 2, .int .i64 2, .int .i64 9] 3)
  have H6 := Lib.hid (h6.below hb0)
  clear hb0 h6
  go_wp2_with fail
  refine hc.mono ?_; clear hc; rintro e w7 ⟨u, l, s, rfl, ho, hO, hs, hb⟩
  obtain rfl := hO.uniq ordA1
  obtain rfl := s_no hs (by decide)
  simp only [ecir, Bool.false_eq_true, if_false, if_true] at ho ⊢
  have h7 := H6.out.below hb
  obtain ⟨al, cl, rfl, _, hl⟩ := ho.reads (by decide)
  have Kl := Lib.hid hl
  simp only [List.length_cons, List.length_nil, Nat.reduceAdd, List.map_cons, List.map_nil]
  clear hl
  clear hb ho hO hs H6
  have hc := waves_o (h7.below (below1 w7 (.cells #[.int .i64 0, .int .i64 1, .int .i64 2] 3))).g (some ⟨w7.heap.size, 0, none⟩) 3 [0, 1, 2] (lit_rg w7 [0, 1, 2] (by decide)) (by decide)
  simp only [List.length_cons, List.length_nil, Nat.reduceAdd, List.map_cons, List.map_nil] at hc
  have hb0 := below1 w7 (.cells #[.int .i64 0, .int .i64 1, .int .i64 2] 3)
  have H7 := Lib.hid (h7.below hb0)
  have Kl_ := Lib.hid (Kl.out.below hb0)
  clear Kl
  have Kl := Kl_
  clear Kl_
  clear hb0 h7
  go_wp2_with fail
  refine hc.mono ?_; clear hc; rintro e w8 ⟨u, l, s, rfl, ho, hO, hs, hb⟩
  obtain rfl := hO.uniq wavA1
  obtain rfl := s_no hs (by decide)
  simp only [ecir, Bool.false_eq_true, if_false, if_true] at ho ⊢
  have h8 := H7.out.below hb
  have Kl_ := Lib.hid (Kl.out.below hb)
  clear Kl
  have Kl := Kl_
  clear Kl_
  have hv := ho
  obtain ⟨av, cv, rfl⟩ := rows_form ho
  have Kv := Lib.hid hv
  simp only [List.length_cons, List.length_nil, Nat.reduceAdd, List.map_cons, List.map_nil]
  clear hv
  clear hb ho hO hs H7
  have hc := order_o (h8.below (below1 w8 (.cells #[.int .i64 0, .int .i64 1] 3))).h (some ⟨w8.heap.size, 0, none⟩) 2 [0, 1] (lit_rg w8 [0, 1] (by decide)) (by decide)
  simp only [List.length_cons, List.length_nil, Nat.reduceAdd, List.map_cons, List.map_nil] at hc
  have hb0 := below1 w8 (.cells #[.int .i64 0, .int .i64 1] 3)
  have H8 := Lib.hid (h8.below hb0)
  have Kl_ := Lib.hid (Kl.out.below hb0)
  have Kv_ := Lib.hid (Kv.out.below hb0)
  clear Kl Kv
  have Kl := Kl_
  have Kv := Kv_
  clear Kl_ Kv_
  clear hb0 h8
  go_wp2_with fail
  refine hc.mono ?_; clear hc; rintro e w9 ⟨u, l, s, rfl, ho, hO, hs, hb⟩
  obtain rfl := hO.uniq ordB1
  obtain rfl := s_yes hs (by decide)
  simp only [ecir, Bool.false_eq_true, if_false, if_true] at ho ⊢
  have h9 := H8.out.below hb
  have Kl_ := Lib.hid (Kl.out.below hb)
  have Kv_ := Lib.hid (Kv.out.below hb)
  clear Kl Kv
  have Kl := Kl_
  have Kv := Kv_
  clear Kl_ Kv_
  clear hb ho hO hs H8
  have hc := order_o (h9.below (below1 w9 (.cells #[.int .i64 1] 3))).h (some ⟨w9.heap.size, 0, none⟩) 1 [1] (lit_rg w9 [1] (by decide)) (by decide)
  simp only [List.length_cons, List.length_nil, Nat.reduceAdd, List.map_cons, List.map_nil] at hc
  have hb0 := below1 w9 (.cells #[.int .i64 1] 3)
  have H9 := Lib.hid (h9.below hb0)
  have Kl_ := Lib.hid (Kl.out.below hb0)
  have Kv_ := Lib.hid (Kv.out.below hb0)
  clear Kl Kv
  have Kl := Kl_
  have Kv := Kv_
  clear Kl_ Kv_
  clear hb0 h9
  go_wp2_with fail
  refine hc.mono ?_; clear hc; rintro e w10 ⟨u, l, s, rfl, ho, hO, hs, hb⟩
  obtain rfl := hO.uniq ordB2
  obtain rfl := s_no hs (by decide)
  simp only [ecir, Bool.false_eq_true, if_false, if_true] at ho ⊢
  have h10 := H9.out.below hb
  have Kl_ := Lib.hid (Kl.out.below hb)
  have Kv_ := Lib.hid (Kv.out.below hb)
  clear Kl Kv
  have Kl := Kl_
  have Kv := Kv_
  clear Kl_ Kv_
  obtain ⟨am, cm, rfl, _, hm⟩ := ho.reads (by decide)
  have Km := Lib.hid hm
  simp only [List.length_cons, List.length_nil, Nat.reduceAdd, List.map_cons, List.map_nil]
  clear hm
  clear hb ho hO hs H9
  have hl3 := lit_rg w10 ([1, 2, 0] : List Int) (by decide)
  have hsm := same_any al (some ⟨w10.heap.size, 0, none⟩) cl 3 [1, 2, 0] [1, 2, 0] _ (Kl.out.below (below1 w10 (.cells #[.int .i64 1, .int .i64 2, .int .i64 0] 3))) hl3 (by decide)
  rw [show decide (([1, 2, 0] : List Int) = [1, 2, 0]) = true by decide] at hsm
  simp only [List.length_cons, List.length_nil, Nat.reduceAdd, List.map_cons, List.map_nil] at hsm ⊢
  clear Kl
  have hb0 := below1 w10 (.cells #[.int .i64 1, .int .i64 2, .int .i64 0] 3)
  have H10 := Lib.hid (h10.below hb0)
  have Kv_ := Lib.hid (Kv.out.below hb0)
  have Km_ := Lib.hid (Km.out.below hb0)
  clear Kv Km
  have Kv := Kv_
  have Km := Km_
  clear Kv_ Km_
  clear hl3 hb0 h10
  go_wp2_with fail
  refine hsm.mono ?_; clear hsm; rintro e w11 ⟨rfl, hb⟩
  have h11 := H10.out.below hb
  have Kv_ := Lib.hid (Kv.out.below hb)
  have Km_ := Lib.hid (Km.out.below hb)
  clear Kv Km
  have Kv := Kv_
  have Km := Km_
  clear Kv_ Km_
  clear hb H10
  have hb0 := below3 w11 (.cells #[.int .i64 1, .int .i64 2] 3) (.cells #[.int .i64 0] 3) (.cells #[.slice (some ⟨w11.heap.size, 0, none⟩) 2 2, .slice (some ⟨w11.heap.size + 1, 0, none⟩) 1 1] 23)
  have hsm := r14same (Kv.out.below hb0) (lit_rows w11) (by decide) (by decide)
  rw [show decide (([[1, 2], [0]] : List (List Int)) = [[1, 2], [0]]) = true by decide] at hsm
  simp only [List.length_cons, List.length_nil, Nat.reduceAdd, List.map_cons, List.map_nil] at hsm ⊢
  clear Kv
  have H11 := Lib.hid (h11.below hb0)
  have Km_ := Lib.hid (Km.out.below hb0)
  clear Km
  have Km := Km_
  clear Km_
  clear hb0 h11
  go_wp2_with fail
  refine hsm.mono ?_; clear hsm; rintro e w12 ⟨rfl, hb⟩
  have h12 := H11.out.below hb
  have Km_ := Lib.hid (Km.out.below hb)
  clear Km
  have Km := Km_
  clear Km_
  clear hb H11
  have hl3 := lit_rg w12 ([1] : List Int) (by decide)
  have hsm := same_any am (some ⟨w12.heap.size, 0, none⟩) cm 1 [1] [1] _ (Km.out.below (below1 w12 (.cells #[.int .i64 1] 3))) hl3 (by decide)
  rw [show decide (([1] : List Int) = [1]) = true by decide] at hsm
  simp only [List.length_cons, List.length_nil, Nat.reduceAdd, List.map_cons, List.map_nil] at hsm ⊢
  clear Km
  have hb0 := below1 w12 (.cells #[.int .i64 1] 3)
  have H12 := Lib.hid (h12.below hb0)
  clear hl3 hb0 h12
  go_wp2_with fail
  refine hsm.mono ?_; clear hsm; rintro e w13 ⟨rfl, hb⟩
  have h13 := H12.out.below hb
  clear hb H12
  have hc := circle_o (h13.below (below1 w13 (.cells #[.int .i64 0, .int .i64 1] 3))).h (some ⟨w13.heap.size, 0, none⟩) 2 [0, 1] (lit_rg w13 [0, 1] (by decide)) (by decide)
  simp only [List.length_cons, List.length_nil, Nat.reduceAdd, List.map_cons, List.map_nil] at hc
  have hb0 := below1 w13 (.cells #[.int .i64 0, .int .i64 1] 3)
  have H13 := Lib.hid (h13.below hb0)
  clear hb0 h13
  go_wp2_with fail
  refine hc.mono ?_; clear hc; rintro e w14 ⟨u, C, l, s, rfl, ho, hC0, hC1, hO, hs, hb⟩
  obtain rfl := hO.uniq ordB1
  have hC := hC1 (s_yes hs (by decide))
  have h2 := cyc_two H13.out.h.r.1 (fun x hx => (mem_sel.1 hx).1) hC
  have hCl : C.length = 2 := by have : RB.length = 2 := rfl; omega
  obtain ⟨ua, uc, rfl⟩ := (ownsRow_slc ho).form
  rw [hCl]
  have h14 := H13.out.below hb
  clear hb ho hC0 hC1 hO hs H13 hC h2 hCl
  have hc := circle_o (h14.below (below1 w14 (.cells #[.int .i64 0, .int .i64 2] 3))).g (some ⟨w14.heap.size, 0, none⟩) 2 [0, 2] (lit_rg w14 [0, 2] (by decide)) (by decide)
  simp only [List.length_cons, List.length_nil, Nat.reduceAdd, List.map_cons, List.map_nil] at hc
  have hb0 := below1 w14 (.cells #[.int .i64 0, .int .i64 2] 3)
  have H14 := Lib.hid (h14.below hb0)
  clear hb0 h14
  go_wp2_with fail
  refine hc.mono ?_; clear hc; rintro e w15 ⟨u, C, l, s, rfl, ho, hC0, hC1, hO, hs, hb⟩
  obtain rfl := hO.uniq ordA2
  obtain rfl := hC0 (s_no hs (by decide))
  obtain ⟨ua, uc, rfl⟩ := (ownsRow_slc ho).form
  simp only [List.length_cons, List.length_nil, Nat.reduceAdd, List.map_cons, List.map_nil]
  have h15 := H14.out.below hb
  clear hb ho hC0 hC1 hO hs H14
  have HEND := Lib.hid h15.g.b
  clear h15
  go_wp2_with fail
  go_ret
  exact ⟨rfl, HEND.out⟩
end Go.Proofs.Ythaepdkeakmfaaa
