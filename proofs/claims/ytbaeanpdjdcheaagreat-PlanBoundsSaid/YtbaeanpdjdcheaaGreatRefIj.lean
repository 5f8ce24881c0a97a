/-
  What the document's own Set (gavelkindref12) answers, for whatever graph and row. The conditions: what a graph's rows always are; at most 10^6 numbers.
-/
import Derived.Test.YtbaeanpdjdcheaaGreatRefIi
namespace Go.Proofs.YtbaeanpdjdcheaaGreat
open Go.RowKit
set_option linter.unusedSimpArgs false
set_option linter.unusedVariables false

theorem us_one {w : World} {us : List Value} {R : List (List Int)} (h4 : us.length = R.length) (h6 : ∀ v, v < R.length → Sl w (us.getD v undef) (gR R v)) : ∀ u ∈ us, u.oneCell' = true := fun u hu => by
  obtain ⟨k, hk, rfl⟩ := List.getElem_of_mem hu
  obtain ⟨a, c, e, _⟩ := h6 k (by omega)
  rw [List.getD_eq_getElem?_getD, List.getElem?_eq_getElem hk] at e
  simp at e
  rw [e]; rfl
set_option maxHeartbeats 4000000 in
set_option maxRecDepth 100000 in
theorem r12set {w : World} {x : Value} {R : List (List Int)} (G : Nat → Prop) (hGs : ∀ j, G j → j < w.heap.size) (hO : GRefO G w x R) (hI : ∀ v, (gR R v).length ≤ 20000) (hR : R.length ≤ 20000) (v : Int) {y : Value} {l : List Int} (hy : Sl w y l) (hn : l.length ≤ 1000000) :
    Calls Tryz.prog 22 #[x, .int .i64 v, y] w fun e w' => ∃ x', e = .returned (.tuple #[x', .int .i64 (gadd R v l), .int .i64 (gdrop R v l), .int .i64 (gfault R.length v l)]) ∧ GRefO G w' x' (gset R v l) ∧ Below w.heap.size w w' := by
  have h := hO.ref
  have HGs := Lib.hid hGs; have HO := Lib.hid hO
  clear hGs
  have hx := h
  clear hx
  obtain ⟨ga, gc, us, rfl, h2, h3, h4, h5, hx6, h7⟩ := hO
  have h6 : ∀ v, v < R.length → Sl w (us.getD v undef) (gR R v) := fun v hv => (hx6 v hv).1
  have HX6 := Lib.hid hx6
  clear hx6
  obtain ⟨a, c, rfl, hlc, hac, hrd⟩ := hy
  have hb := below2 w (.cells #[.slice ga R.length gc] 32) (.cells #[.slice none 0 0] 32)
  have hmay := r12may (h.below hb) hR v (⟨a, c, rfl, hlc, hac, hrd.below hb⟩ : Sl _ (.slice a l.length c) l) hn
  have hbx : ((w.alloc (.cells #[.slice ga R.length gc] 32)).alloc (.cells #[.slice none 0 0] 32)).cell? ⟨w.heap.size, 0, none⟩ = some (.slice ga R.length gc) := by simp [go_sem]
  have hby : ((w.alloc (.cells #[.slice ga R.length gc] 32)).alloc (.cells #[.slice none 0 0] 32)).cell? ⟨w.heap.size + 1, 0, none⟩ = some (.slice none 0 0) := by simp [go_sem]
  have hzy : ((w.alloc (.cells #[.slice ga R.length gc] 32)).alloc (.cells #[.slice none 0 0] 32)).frozen? ⟨w.heap.size + 1, 0, none⟩ = false := by simp [go_sem]
  have hsz : ((w.alloc (.cells #[.slice ga R.length gc] 32)).alloc (.cells #[.slice none 0 0] 32)).heap.size = w.heap.size + 2 := by simp
  have HB := Lib.hid hb; have HG := Lib.hid h
  have HRD := Lib.hid hrd; have H5 := Lib.hid h5; have H6 := Lib.hid h6
  clear hb h hrd h5 h6
  by_cases hf : gfault R.length v l = 0
  · rw [hf] at hmay ⊢
    obtain ⟨f1, f2, f3, f4⟩ := gfault_ok hf
    obtain ⟨k, rfl⟩ := Int.eq_ofNat_of_zero_le f1.1
    have hk : k < R.length := by have := f1.2; omega
    have hgs : gset R (k : Int) l = R.set k l := by unfold gset; rw [if_pos hf, Int.toNat_natCast]
    have hga : gadd R (k : Int) l = (gmiss l (gR R k) : Nat) := by unfold gadd; rw [if_pos hf, Int.toNat_natCast]
    have hgd : gdrop R (k : Int) l = (gmiss (gR R k) l : Nat) := by unfold gdrop; rw [if_pos hf, Int.toNat_natCast]
    rw [hgs, hga, hgd]
    obtain ⟨gb, goff, sa, sc, rfl, hcell, hsl1, hsl2, hrk⟩ := GRef.at h4 H5.out H6.out hk
    have hSC : Hid (SlC w (.slice (some ⟨gb, goff, none⟩) R.length gc) 1 R.length us) := ⟨_, _, rfl, h2, h3, by rw [Nat.mul_one, h4], H5.out⟩
    have hone := us_one h4 H6.out
    have hlk := hI k
    have i0 : (0 : Int) ≤ (k : Int) := by omega
    have i1 : (k : Int) < (R.length : Int) := by omega
    have HCL := Lib.hid hcell; have HRK := Lib.hid hrk
    clear hf hgs hga hgd f1 f3 f4 hcell hrk
    go_enter Tryz.func22, Tryz.ntmps22
    go_wp2_with fail
    generalize hW : (w.alloc (.cells #[.slice (some ⟨gb, goff, none⟩) R.length gc] 32)).alloc (.cells #[.slice none 0 0] 32) = W at *
    clear hW
    refine hmay.mono ?_; rintro e w1 ⟨rfl, hb1⟩
    have hbx1 := (hb1.cell (p := ⟨w.heap.size, 0, none⟩) (by show w.heap.size < W.heap.size; omega)).trans hbx
    have hby1 := (hb1.cell (p := ⟨w.heap.size + 1, 0, none⟩) (by show w.heap.size + 1 < W.heap.size; omega)).trans hby
    have hzy1 := (hb1.frozen (p := ⟨w.heap.size + 1, 0, none⟩) (by show w.heap.size + 1 < W.heap.size; omega)).trans hzy
    have HB1 := Lib.hid (HB.out.trans (hb1.mono (by omega)))
    have hs1 : w.heap.size + 2 ≤ w1.heap.size := by have := hb1.size; omega
    have hs2 : w.heap.size < w1.heap.size := by omega
    have hs3 : w.heap.size + 1 < w1.heap.size := by omega
    clear hb1 hmay hbx hby hzy
    have hbe := below1 w1 (.cells #[] 23)
    have hro : (w1.alloc (.cells #[] 23)).ownsRow w1.heap.size 23 1 (.slice (some ⟨w1.heap.size, 0, none⟩) 0 0) 0 [] :=
      World.ownsRow_lit (base := w1.heap.size) (e := 23) (size := 1) w1 #[] 0 (Nat.le_refl _) (by unfold maxLen; omega) rfl
    have HRO := Lib.hid hro
    have HSC1 := Lib.hid (hSC.out.below (HB1.out.trans (hbe.mono HB1.out.size)))
    clear hro hbe
    go_upto_region 5 with (first
      | (at_builtin
         refine wpList_app rfl (.tmp 20) (.tmp 22) 30 rfl w1.heap.size 23 1 24 (.slice none 0 0) Tryz.underlying30 rows_info rfl (by decide) _ 0 [] rfl HRO.out _ R.length us rfl HSC1.out hone (by omega) (by omega) (by simp) ?_
         go_loud (
         intro v2 w2 o2 b2 g2
         have o2 : w2.ownsRow w1.heap.size 23 1 v2 R.length us := by simpa using o2
         obtain ⟨g2', c2, cur2, rfl, hge2⟩ : ∃ g2' c2 cur2, v2 = .slice (some ⟨g2', 0, none⟩) R.length c2 ∧ (w1.heap.size ≤ g2' ∧ w2.heap[g2']? = some (.cells cur2 23 (0, 0))) := by
           rcases o2.2 with ⟨_, q⟩ | ⟨g, cap, cur, q1, q2, q3, _⟩
           · omega
           · exact ⟨g, cap, cur, q1, q2, q3⟩
         have HO2 := Lib.hid o2; have HB2 := Lib.hid ((below1 w1 (.cells #[] 23)).trans (b2.mono (Nat.le_refl _)))
         have hg2 : g2' < w2.heap.size := (Array.getElem?_eq_some_iff.1 hge2.2).1
         have hc2k := World.ownsRow.cellAt o2 k (by omega)
         rw [List.getElem?_eq_getElem (by omega)] at hc2k
         have hz2k := World.ownsRow.frozenAt o2 k
         clear o2 b2 g2)))
    go_upto_region 6 with (first
      | (at_builtin
         go_loud (
         refine wp_cat _ rfl (.tmp 26) (.tmp 27) rfl w2.heap.size _ [] l a c rfl (Own.lit w2) rfl (((HRD.out.below HB1.out).below HB2.out).below (below1 _ _)) hac (by simp; omega) (by simp) ?_
         intro v3 w3 o3 b3
         rw [List.nil_append] at o3
         have HB3 := Lib.hid ((below1 w2 (.cells #[] 3)).trans (b3.mono (Nat.le_refl _)))
         have HO3 := Lib.hid o3
         have hc3 := (HB3.out.cell (p := ⟨g2', k, none⟩) hg2).trans hc2k
         have hz3 := (HB3.out.frozen (p := ⟨g2', k, none⟩) hg2).trans hz2k
         obtain ⟨a3, c3, rfl⟩ := (ownsRow_slc o3).form
         clear o3 b3)))
    have ha3 : ∀ b, (Value.slice a3 l.length c3).ownBlock = some b → w2.heap.size ≤ b := fun b hb => (World.ownsRow.lt HO3.out b hb).1
    have hO2w3 := ownsRow_below HO2.out HB3.out
    obtain ⟨hst, hgr⟩ := World.ownsRow.stored hO2w3 k (.slice a3 l.length c3)
    have HBW3 : Below w.heap.size w w3 := (HB1.out.trans (HB2.out.mono HB1.out.size)).trans (HB3.out.mono (by have := HB1.out.size; have := HB2.out.size; omega))
    have HB4 := Lib.hid (HBW3.setCell (p := ⟨g2', k, none⟩) (by show w.heap.size ≤ g2'; omega) (.slice a3 l.length c3))
    have hsl3 : Sl w3 (.slice a3 l.length c3) l := HO3.out.sl HRD.out.1
    have HGF : Hid (∀ W, Below w.heap.size w W → (∀ j, w1.heap.size ≤ j → W.heap[j]? = (w3.setCell ⟨g2', k, none⟩ (.slice a3 l.length c3)).heap[j]?) → GRefO G W (.agg #[.slice (some ⟨g2', 0, none⟩) R.length c2]) (R.set k l)) := by
      intro W hBW hW
      obtain ⟨aa, cc, e1, e2, e3, e4, e5⟩ := ownsRow_slc hst
      cases e1
      have hrowW : ∀ j, j < (us.set k (.slice a3 l.length c3)).length → W.cell? ⟨g2', 0 + j, none⟩ = (us.set k (.slice a3 l.length c3))[j]? := fun j hj => by
        obtain ⟨b, off, q1, q2⟩ := e5 j hj
        cases q1
        exact (cell_of (hW g2' (by omega)) _).trans q2
      refine ⟨_, _, us.set k (.slice a3 l.length c3), by rw [List.length_set], by rw [List.length_set]; exact e2, e3, by rw [List.length_set, List.length_set]; exact h4, fun j hj => ⟨_, _, rfl, hrowW j hj⟩, fun x hx => ?_, fun _ b hb => ?_⟩
      · rw [List.length_set] at hx
        rw [gR_set hk]
        by_cases e : x = k
        · subst e
          rw [if_pos rfl, List.getD_eq_getElem?_getD, List.getElem?_set_self (by omega)]
          have hslW : Sl W (.slice a3 l.length c3) l := by
            refine sl_keep (sl_keep hsl3 fun b hb => Below.heap_setCell _ ⟨g2', x, none⟩ (.slice a3 l.length c3) b (fun q => by have := ha3 b hb; have : b = g2' := q; omega)) fun b hb => hW b ?_
            have := ha3 b hb; have := HB2.out.size; omega
          refine ⟨hslW, fun hnl b hb => ?_⟩
          obtain ⟨sa', sc', q1, _, _, q4⟩ := hslW
          obtain ⟨d, off, q5, q6⟩ := q4.2 0 (List.length_pos_iff.2 hnl)
          have hbd : b = d := by
            have e9 : (Value.slice a3 l.length c3).ownBlock = some b := hb
            rw [q1, q5] at e9
            simpa [Value.ownBlock] using e9.symm
          exact ⟨by rw [hbd]; exact World.block_lt_of_cell? W _ q6, fun q => by have := HGs.out b q; have := ha3 b hb; have := HB2.out.size; omega⟩
        · rw [if_neg e, List.getD_eq_getElem?_getD, List.getElem?_set_ne (Ne.symm e), ← List.getD_eq_getElem?_getD]
          exact (HX6.out x hx).below hBW
      · cases hb
        have hr0 := hrowW 0 (by rw [List.length_set]; omega)
        rw [List.getElem?_eq_getElem (by rw [List.length_set]; omega)] at hr0
        exact ⟨World.block_lt_of_cell? W _ hr0, fun q => by have : g2' < w.heap.size := HGs.out _ q; omega⟩
    have hbx4 : (w3.setCell ⟨g2', k, none⟩ (.slice a3 l.length c3)).cell? ⟨w.heap.size, 0, none⟩ = some (.slice (some ⟨gb, goff, none⟩) R.length gc) := by
      rw [World.cell?_setCell_other _ _ _ _ (fun q => by cases q; omega)]
      exact (HB3.out.cell (p := ⟨w.heap.size, 0, none⟩) (by have := HB2.out.size; show w.heap.size < w2.heap.size; omega)).trans ((HB2.out.cell (p := ⟨w.heap.size, 0, none⟩) hs2).trans hbx1)
    have hby4 : (w3.setCell ⟨g2', k, none⟩ (.slice a3 l.length c3)).cell? ⟨w.heap.size + 1, 0, none⟩ = some (.slice none 0 0) := by
      rw [World.cell?_setCell_other _ _ _ _ (fun q => by cases q; omega)]
      exact (HB3.out.cell (p := ⟨w.heap.size + 1, 0, none⟩) (by have := HB2.out.size; show w.heap.size + 1 < w2.heap.size; omega)).trans ((HB2.out.cell (p := ⟨w.heap.size + 1, 0, none⟩) hs3).trans hby1)
    have hzy4 : (w3.setCell ⟨g2', k, none⟩ (.slice a3 l.length c3)).frozen? ⟨w.heap.size + 1, 0, none⟩ = false := by
      rw [World.frozen?_setCell]
      exact (HB3.out.frozen (p := ⟨w.heap.size + 1, 0, none⟩) (by have := HB2.out.size; show w.heap.size + 1 < w2.heap.size; omega)).trans ((HB2.out.frozen (p := ⟨w.heap.size + 1, 0, none⟩) hs3).trans hzy1)
    generalize w3.setCell ⟨g2', k, none⟩ (.slice a3 l.length c3) = w4 at *
    have hgb : gb < w.heap.size := World.block_lt_of_cell? w _ HCL.out
    have hcl4 := (HB4.out.cell (p := ⟨gb, goff + k, none⟩) hgb).trans HCL.out
    have hd4 := (Below.refl w4.heap.size w4).drew
    have hm1 := r12miss a sa c sc l (gR R k) w4.drew ((HRD.out.below HB4.out).below hd4) ((HRK.out.below HB4.out).below hd4) hn (by omega)
    have hm2 := r12miss sa a sc c (gR R k) l w4.drew ((HRK.out.below HB4.out).below hd4) ((HRD.out.below HB4.out).below hd4) (by omega) hn
    have hS5 : (w4.drew.setCell ⟨w.heap.size + 1, 0, none⟩ (.slice (some ⟨g2', 0, none⟩) R.length c2)).cell? ⟨w.heap.size, 0, none⟩ = some (.slice (some ⟨gb, goff, none⟩) R.length gc) ∧ (w4.drew.setCell ⟨w.heap.size + 1, 0, none⟩ (.slice (some ⟨g2', 0, none⟩) R.length c2)).cell? ⟨gb, goff + k, none⟩ = some (.slice sa (gR R k).length sc) :=
      ⟨(World.cell?_setCell_other _ _ _ _ (fun q => by have := congrArg Addr.block q; simp at this)).trans hbx4, (World.cell?_setCell_other _ _ _ _ (fun q => by have := congrArg Addr.block q; simp at this; omega)).trans hcl4⟩
    have hr5 : (w4.drew.setCell ⟨w.heap.size + 1, 0, none⟩ (.slice (some ⟨g2', 0, none⟩) R.length c2)).cell? ⟨w.heap.size + 1, 0, none⟩ = some (.slice (some ⟨g2', 0, none⟩) R.length c2) := World.cell?_setCell_same _ _ _ hby4
    have HB5 := Lib.hid ((HB4.out.setCell (p := ⟨w.heap.size + 1, 0, none⟩) (by show w.heap.size ≤ w.heap.size + 1; omega) (.slice (some ⟨g2', 0, none⟩) R.length c2)).drew)
    have hr6 : (w4.setCell ⟨w.heap.size + 1, 0, none⟩ (.slice (some ⟨g2', 0, none⟩) R.length c2)).drew.cell? ⟨w.heap.size + 1, 0, none⟩ = some (.slice (some ⟨g2', 0, none⟩) R.length c2) := hr5
    have HGF5 : Hid (GRefO G (w4.setCell ⟨w.heap.size + 1, 0, none⟩ (.slice (some ⟨g2', 0, none⟩) R.length c2)).drew (.agg #[.slice (some ⟨g2', 0, none⟩) R.length c2]) (R.set k l)) :=
      HGF.out _ HB5.out fun j hj => Below.heap_setCell w4 ⟨w.heap.size + 1, 0, none⟩ _ j (fun q => by have : j = w.heap.size + 1 := q; omega)
    clear hst hgr hO2w3 hsl3 ha3 HBW3 hd4
    -- REGION
    refine wp_region_held_drew (S := fun wz => wz.cell? ⟨w.heap.size, 0, none⟩ = some (.slice (some ⟨gb, goff, none⟩) R.length gc) ∧ wz.cell? ⟨gb, goff + k, none⟩ = some (.slice sa (gR R k).length sc)) (by kernel_rfl) (⟨hbx4, hcl4⟩) (fun hHeld => ?_)
    refine wpAnyH_take (i := 0) (v := ?_) rfl (by kernel_rfl) (by kernel_rfl) (by kernel_rfl) (fun _ _ _ h => h) (Or.inl ⟨by rfl, ?y0⟩) (by assumption) ?_
    case y0 => intro w hSw; (try dsimp only at hSw); go_simp; (try with_reducible rfl)
    (try simp only [Act.put, List.setIfInBounds_toArray, List.set_cons_zero, List.set_cons_succ, List.getElem_toArray, List.getElem_cons_zero, List.getElem_cons_succ])
    refine wpAnyH_take (i := 1) (v := ?_) rfl (by kernel_rfl) (by kernel_rfl) (by kernel_rfl) (fun _ _ _ h => h) (Or.inl ⟨by rfl, ?y1⟩) (by assumption) ?_
    case y1 => intro w hSw; (try dsimp only at hSw); go_simp; (try with_reducible rfl)
    (try simp only [Act.put, List.setIfInBounds_toArray, List.set_cons_zero, List.set_cons_succ, List.getElem_toArray, List.getElem_cons_zero, List.getElem_cons_succ])
    refine wpAnyH_take (i := 2) (v := ?_) rfl (by kernel_rfl) (by kernel_rfl) (by kernel_rfl) (fun _ _ _ h => h) (Or.inl ⟨by rfl, ?y2⟩) (by assumption) ?_
    case y2 => intro w hSw; (try dsimp only at hSw); go_simp; (try with_reducible rfl)
    (try simp only [Act.put, List.setIfInBounds_toArray, List.set_cons_zero, List.set_cons_succ, List.getElem_toArray, List.getElem_cons_zero, List.getElem_cons_succ])
    refine wpAnyH_take (i := 3) (v := ?_) rfl (by kernel_rfl) (by kernel_rfl) (by kernel_rfl) (fun _ _ _ h => h) (Or.inl ⟨by rfl, ?y3⟩) (by assumption) ?_
    case y3 => intro w hSw; (try dsimp only at hSw); go_simp; (try with_reducible rfl)
    (try simp only [Act.put, List.setIfInBounds_toArray, List.set_cons_zero, List.set_cons_succ, List.getElem_toArray, List.getElem_cons_zero, List.getElem_cons_succ])
    refine wpAnyH_take (i := 4) (v := ?_) rfl (by kernel_rfl) (by kernel_rfl) (by kernel_rfl) (fun _ _ _ h => h) (Or.inl ⟨by rfl, ?y4⟩) (by assumption) ?_
    case y4 => intro w hSw; (try dsimp only at hSw); go_simp; (try with_reducible rfl)
    (try simp only [Act.put, List.setIfInBounds_toArray, List.set_cons_zero, List.set_cons_succ, List.getElem_toArray, List.getElem_cons_zero, List.getElem_cons_succ])
    refine wpAnyH_take (i := 5) (v := ?_) rfl (by kernel_rfl) (by kernel_rfl) (by kernel_rfl) (fun _ _ _ h => h) (Or.inl ⟨by rfl, ?y5⟩) (by assumption) ?_
    case y5 => intro w hSw; (try dsimp only at hSw); go_simp; (try with_reducible rfl)
    (try simp only [Act.put, List.setIfInBounds_toArray, List.set_cons_zero, List.set_cons_succ, List.getElem_toArray, List.getElem_cons_zero, List.getElem_cons_succ])
    refine wpAnyH_take (i := 6) (v := ?_) rfl (by kernel_rfl) (by kernel_rfl) (by kernel_rfl) (fun _ _ _ h => h) (Or.inl ⟨by rfl, ?y6⟩) (by assumption) ?_
    case y6 => intro w hSw; (try dsimp only at hSw); go_simp; (try with_reducible rfl)
    (try simp only [Act.put, List.setIfInBounds_toArray, List.set_cons_zero, List.set_cons_succ, List.getElem_toArray, List.getElem_cons_zero, List.getElem_cons_succ])
    refine wpAnyH_take (i := 7) (v := ?_) rfl (by kernel_rfl) (by kernel_rfl) (by kernel_rfl) (fun _ _ _ h => h) (Or.inl ⟨by rfl, ?y7⟩) (by assumption) ?_
    case y7 => intro w hSw; (try dsimp only at hSw); go_simp; (try with_reducible rfl)
    (try simp only [Act.put, List.setIfInBounds_toArray, List.set_cons_zero, List.set_cons_succ, List.getElem_toArray, List.getElem_cons_zero, List.getElem_cons_succ])
    refine wpAnyH_take (i := 9) (v := ?_) rfl (by kernel_rfl) (by kernel_rfl) (by kernel_rfl) (fun _ _ _ h => h) (Or.inl ⟨by rfl, ?y9⟩) (by assumption) ?_
    case y9 => intro w hSw; (try dsimp only at hSw); go_simp; (try with_reducible rfl)
    (try simp only [Act.put, List.setIfInBounds_toArray, List.set_cons_zero, List.set_cons_succ, List.getElem_toArray, List.getElem_cons_zero, List.getElem_cons_succ])
    refine wpAnyH_take (i := 10) (v := ?_) rfl (by kernel_rfl) (by kernel_rfl) (by kernel_rfl) (fun _ _ _ h => h) (Or.inl ⟨by rfl, ?y10⟩) (by assumption) ?_
    case y10 => intro w hSw; (try dsimp only at hSw); go_simp; (try with_reducible rfl)
    (try simp only [Act.put, List.setIfInBounds_toArray, List.set_cons_zero, List.set_cons_succ, List.getElem_toArray, List.getElem_cons_zero, List.getElem_cons_succ])
    refine wpAnyH_take (i := 11) (v := ?_) rfl (by kernel_rfl) (by kernel_rfl) (by kernel_rfl) (fun _ _ _ h => h) (Or.inl ⟨by rfl, ?y11⟩) (by assumption) ?_
    case y11 => intro w hSw; (try dsimp only at hSw); go_simp; (try with_reducible rfl)
    (try simp only [Act.put, List.setIfInBounds_toArray, List.set_cons_zero, List.set_cons_succ, List.getElem_toArray, List.getElem_cons_zero, List.getElem_cons_succ])
    refine wpAnyH_take (i := 12) (v := ?_) rfl (by kernel_rfl) (by kernel_rfl) (by kernel_rfl) (fun _ _ _ h => h) (Or.inl ⟨by rfl, ?y12⟩) (by assumption) ?_
    case y12 => intro w hSw; (try dsimp only at hSw); go_simp; (try with_reducible rfl)
    (try simp only [Act.put, List.setIfInBounds_toArray, List.set_cons_zero, List.set_cons_succ, List.getElem_toArray, List.getElem_cons_zero, List.getElem_cons_succ])
    refine wpAnyH_take (i := 13) (v := ?_) rfl (by kernel_rfl) (by kernel_rfl) (by kernel_rfl) (fun _ _ _ h => h) (Or.inl ⟨by rfl, ?y13⟩) (by assumption) ?_
    case y13 => intro w hSw; (try dsimp only at hSw); go_simp; (try with_reducible rfl)
    (try simp only [Act.put, List.setIfInBounds_toArray, List.set_cons_zero, List.set_cons_succ, List.getElem_toArray, List.getElem_cons_zero, List.getElem_cons_succ])
    refine wpAnyH_take (i := 14) (v := ?_) rfl (by kernel_rfl) (by kernel_rfl) (by kernel_rfl) (fun _ _ _ h => h) (Or.inl ⟨by rfl, ?y14⟩) (by assumption) ?_
    case y14 => intro w hSw; (try dsimp only at hSw); go_simp; (try with_reducible rfl)
    (try simp only [Act.put, List.setIfInBounds_toArray, List.set_cons_zero, List.set_cons_succ, List.getElem_toArray, List.getElem_cons_zero, List.getElem_cons_succ])
    refine wpAnyH_ready (rs := [8]) (by kernel_rfl) (by simp) ?_
    refine AllReadyH.cons rfl (fun K hK => ?_) AllReadyH.nil
    go_simp
    refine hm1.mono ?_; rintro e wq ⟨rfl, rfl⟩
    refine hK.out _ _ (⟨hbx4, hcl4⟩) (fun hHeld => ?_)
    clear hK K
    (try simp only [Act.put, List.setIfInBounds_toArray, List.set_cons_zero, List.set_cons_succ, List.getElem_toArray, List.getElem_cons_zero, List.getElem_cons_succ])
    refine wpAnyH_ready (rs := [15]) (by kernel_rfl) (by simp) ?_
    refine AllReadyH.cons rfl (fun K hK => ?_) AllReadyH.nil
    go_simp
    refine hm2.mono ?_; rintro e wq ⟨rfl, rfl⟩
    refine hK.out _ _ (⟨hbx4, hcl4⟩) (fun hHeld => ?_)
    clear hK K
    (try simp only [Act.put, List.setIfInBounds_toArray, List.set_cons_zero, List.set_cons_succ, List.getElem_toArray, List.getElem_cons_zero, List.getElem_cons_succ])
    refine wpAnyH_ready (rs := [16]) (by kernel_rfl) (by simp) ?_
    refine AllReadyH.cons rfl (fun K hK => ?_) AllReadyH.nil
    go_simp
    refine hK.out _ _ (hS5) (fun hHeld => ?_)
    clear hK K
    (try simp only [Act.put, List.setIfInBounds_toArray, List.set_cons_zero, List.set_cons_succ, List.getElem_toArray, List.getElem_cons_zero, List.getElem_cons_succ])
    refine wpAnyH_take (i := 17) (v := ?_) rfl (by kernel_rfl) (by kernel_rfl) (by kernel_rfl) (fun _ _ _ h => h) (Or.inl ⟨by rfl, ?y17⟩) (by assumption) ?_
    case y17 => intro w hSw; (try dsimp only at hSw); go_simp; (try with_reducible rfl)
    (try simp only [Act.put, List.setIfInBounds_toArray, List.set_cons_zero, List.set_cons_succ, List.getElem_toArray, List.getElem_cons_zero, List.getElem_cons_succ])
    refine wpAnyH_take (i := 18) (v := ?_) rfl (by kernel_rfl) (by kernel_rfl) (by kernel_rfl) (fun _ _ _ h => h) (Or.inl ⟨by rfl, ?y18⟩) (by assumption) ?_
    case y18 => intro w hSw; (try dsimp only at hSw); go_simp; (try with_reducible rfl)
    (try simp only [Act.put, List.setIfInBounds_toArray, List.set_cons_zero, List.set_cons_succ, List.getElem_toArray, List.getElem_cons_zero, List.getElem_cons_succ])
    refine wpAnyH_take (i := 19) (v := ?_) rfl (by kernel_rfl) (by kernel_rfl) (by kernel_rfl) (fun _ _ _ h => h) (Or.inl ⟨by rfl, ?y19⟩) (by assumption) ?_
    case y19 => intro w hSw; (try dsimp only at hSw); go_simp; (try with_reducible rfl)
    (try simp only [Act.put, List.setIfInBounds_toArray, List.set_cons_zero, List.set_cons_succ, List.getElem_toArray, List.getElem_cons_zero, List.getElem_cons_succ])
    refine wpAnyH_done (by kernel_rfl) ?_ _
    -- END
    go_wp2_with fail
    exact bodyPost_ret (v := .tuple #[.agg #[.slice (some ⟨g2', 0, none⟩) R.length c2], .int .i64 (gmiss l (gR R k) : Nat), .int .i64 (gmiss (gR R k) l : Nat), .int .i64 0]) (by simp [results, Tryz.results22, go_sem, hr6]) rfl ⟨_, rfl, HGF5.out, HB5.out⟩
  · have hgs : gset R v l = R := by unfold gset; rw [if_neg hf]
    have hga : gadd R v l = 0 := by unfold gadd; rw [if_neg hf]
    have hgd : gdrop R v l = 0 := by unfold gdrop; rw [if_neg hf]
    rw [hgs, hga, hgd]
    have hne : (gfault R.length v l != 0) = true := by simpa using hf
    clear hf hgs hga hgd
    generalize gfault R.length v l = e0 at *
    go_enter Tryz.func22, Tryz.ntmps22
    go_wp2_with fail
    generalize hW : (w.alloc (.cells #[.slice ga R.length gc] 32)).alloc (.cells #[.slice none 0 0] 32) = W at *
    clear hW
    refine hmay.mono ?_; rintro e w1 ⟨rfl, hb1⟩
    have hbx1 := (hb1.cell (p := ⟨w.heap.size, 0, none⟩) (by show w.heap.size < W.heap.size; omega)).trans hbx
    have hby1 := (hb1.cell (p := ⟨w.heap.size + 1, 0, none⟩) (by show w.heap.size + 1 < W.heap.size; omega)).trans hby
    have hzy1 := (hb1.frozen (p := ⟨w.heap.size + 1, 0, none⟩) (by show w.heap.size + 1 < W.heap.size; omega)).trans hzy
    have HB1 := Lib.hid (HB.out.trans (hb1.mono (by omega)))
    have HB5 := Lib.hid (HB1.out.setCell (p := ⟨w.heap.size + 1, 0, none⟩) (by show w.heap.size ≤ w.heap.size + 1; omega) (.slice ga R.length gc))
    have hr5 : (w1.setCell ⟨w.heap.size + 1, 0, none⟩ (.slice ga R.length gc)).cell? ⟨w.heap.size + 1, 0, none⟩ = some (.slice ga R.length gc) := World.cell?_setCell_same _ _ _ hby1
    have HG5 := Lib.hid (HO.out.below HB5.out)
    clear hb1 hmay hbx hby hzy
    go_wp2_with fail
    exact bodyPost_ret (v := .tuple #[.agg #[.slice ga R.length gc], .int .i64 0, .int .i64 0, .int .i64 e0]) (by simp [results, Tryz.results22, go_sem, hr5]) rfl ⟨_, rfl, HG5.out, HB5.out⟩
end Go.Proofs.YtbaeanpdjdcheaaGreat
