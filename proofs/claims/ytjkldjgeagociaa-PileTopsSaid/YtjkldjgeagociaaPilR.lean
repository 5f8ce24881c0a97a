/-
  What layer 9's own 'refDo' answers, for whatever row of pairs and call. No conditions besides.
-/
import Derived.Test.YtjkldjgeagociaaPilD
import Derived.Deep.DeepCutAuto
import Derived.Deep.RegionHeld3
namespace Go.Proofs.Ytjkldjgeagociaa
open Go.RowKit
set_option linter.unusedSimpArgs false
set_option linter.unusedVariables false

theorem own_plit (w : World) (base : Nat) (hb : base ≤ w.heap.size) : (w.alloc (.cells #[] 25)).ownsRow base 25 2 (.slice (some ⟨w.heap.size, 0, none⟩) 0 0) 0 (prs []) :=
  World.ownsRow_lit (base := base) (e := 25) (size := 2) w #[] 0 hb (by unfold maxLen; omega) rfl
theorem own_plit1 (w : World) (base : Nat) (hb : base ≤ w.heap.size) (x y : Int) : (w.alloc (.cells #[.int .i64 x, .int .i64 y] 25)).ownsRow base 25 2 (.slice (some ⟨w.heap.size, 0, none⟩) 1 1) 1 (prs [(x, y)]) :=
  World.ownsRow_lit (base := base) (e := 25) (size := 2) w #[.int .i64 x, .int .i64 y] 1 hb (by unfold maxLen; omega) rfl
theorem lit_pa (w : World) : ((w.alloc (.cells #[] 25)).drew).ownsRow w.heap.size 25 2 (.slice (some ⟨w.heap.size, 0, none⟩) 0 0) 0 (prs []) := (own_plit w _ (Nat.le_refl _)).drew
theorem lit_pab (w : World) (x y : Int) : (((w.alloc (.cells #[] 25)).alloc (.cells #[.int .i64 x, .int .i64 y] 25)).drew).ownsRow w.heap.size 25 2 (.slice (some ⟨w.heap.size, 0, none⟩) 0 0) 0 (prs []) := ((own_plit w _ (Nat.le_refl _)).alloc _).drew
theorem lit_pba (w : World) (x y : Int) : (((w.alloc (.cells #[.int .i64 x, .int .i64 y] 25)).alloc (.cells #[] 25)).drew).ownsRow w.heap.size 25 2 (.slice (some ⟨w.heap.size + 1, 0, none⟩) 0 0) 0 (prs []) := by
  have h := (own_plit (w.alloc (.cells #[.int .i64 x, .int .i64 y] 25)) w.heap.size (by simp)).drew
  rwa [show (w.alloc (.cells #[.int .i64 x, .int .i64 y] 25)).heap.size = w.heap.size + 1 by simp] at h
theorem one_pa (w : World) (x y : Int) : SlC (w.alloc (.cells #[.int .i64 x, .int .i64 y] 25)) (.slice (some ⟨w.heap.size, 0, none⟩) 1 1) 2 1 (prs [(x, y)]) := ownsRow_slc (own_plit1 w 0 (Nat.zero_le _) x y)
theorem one_pab (w : World) (x y : Int) : SlC ((w.alloc (.cells #[] 25)).alloc (.cells #[.int .i64 x, .int .i64 y] 25)).drew (.slice (some ⟨w.heap.size + 1, 0, none⟩) 1 1) 2 1 (prs [(x, y)]) := by
  have h := ownsRow_slc (own_plit1 (w.alloc (.cells #[] 25)) 0 (Nat.zero_le _) x y).drew
  rwa [show (w.alloc (.cells #[] 25)).heap.size = w.heap.size + 1 by simp] at h
theorem one_pba (w : World) (x y : Int) : SlC ((w.alloc (.cells #[.int .i64 x, .int .i64 y] 25)).alloc (.cells #[] 25)).drew (.slice (some ⟨w.heap.size, 0, none⟩) 1 1) 2 1 (prs [(x, y)]) :=
  ownsRow_slc ((own_plit1 w 0 (Nat.zero_le _) x y).alloc _).drew

theorem SlPO.fin {w : World} {u : Value} {L : List (Int × Int)} {N : Nat} {a b : Value} (h : SlP w u L) (hq : 0 < L.length → ∀ q, u.ownBlock = some q → ¬ q = N) : SlP ((w.setCell ⟨N, 0, none⟩ a).setCell ⟨N, 1, none⟩ b) u L := by
  obtain ⟨a', cap, rfl, h2, h3, h4, h5⟩ := h
  refine ⟨a', cap, rfl, h2, h3, h4, fun i hi => ?_⟩
  obtain ⟨b', off, rfl, hc⟩ := h5 i hi
  refine ⟨b', off, rfl, ?_⟩
  rw [← hc]
  exact (turn_one2 w N a b).cell (a := ⟨b', off + i, none⟩) (World.block_lt_of_cell? w _ (hc.trans (List.getElem?_eq_getElem hi))) (hq (by rw [prs_len] at hi; omega) b' rfl)

theorem SlP.lt {w : World} {u : Value} {L : List (Int × Int)} (h : SlP w u L) (hp : 0 < L.length) : ∀ q, u.ownBlock = some q → q < w.heap.size := by
  obtain ⟨a', cap, rfl, h2, h3, h4, h5⟩ := h
  have hi : 0 < (prs L).length := by rw [prs_len]; omega
  obtain ⟨b', off, rfl, hc⟩ := h5 0 hi
  intro q hq
  have : b' = q := by simpa [Value.ownBlock] using hq
  subst this
  exact World.block_lt_of_cell? w _ (hc.trans (List.getElem?_eq_getElem hi))

set_option maxHeartbeats 4000000 in
set_option maxRecDepth 100000 in
theorem ref9 (G : Nat → Prop) (v : Value) (L : List (Int × Int)) (d x y : Int) (w : World) (hv : SlP w v L) (hG : 0 < L.length → ∀ q, v.ownBlock = some q → G q) (hn : L.length ≤ 900000) :
    Calls Try.prog 10 #[v, .agg #[.int .i64 d, .int .i64 x, .int .i64 y]] w fun e w' => ∃ u, e = .returned (.tuple #[u, .agg #[.int .i64 (pa1 L d).1, .int .i64 (pa1 L d).2], .bool (pa2 L d)]) ∧ SlP w' u (paL L d x y) ∧ (0 < (paL L d x y).length → ∀ q, u.ownBlock = some q → G q ∨ w.heap.size ≤ q) ∧ Below w.heap.size w w' := by
  have hb2 := below2 w (.cells #[.int .i64 d, .int .i64 x, .int .i64 y] 32) (.cells #[.int .i64 0, .int .i64 0] 25)
  have N0 := Lib.hid (Ow2.new2 w (.cells #[.int .i64 d, .int .i64 x, .int .i64 y] 32) (.int .i64 0) (.int .i64 0) 25)
  obtain ⟨x0, x1, x2⟩ : ((w.alloc (.cells #[.int .i64 d, .int .i64 x, .int .i64 y] 32)).alloc (.cells #[.int .i64 0, .int .i64 0] 25)).cell? ⟨w.heap.size, 0, none⟩ = some (.int .i64 d) ∧ ((w.alloc (.cells #[.int .i64 d, .int .i64 x, .int .i64 y] 32)).alloc (.cells #[.int .i64 0, .int .i64 0] 25)).cell? ⟨w.heap.size, 1, none⟩ = some (.int .i64 x) ∧ ((w.alloc (.cells #[.int .i64 d, .int .i64 x, .int .i64 y] 32)).alloc (.cells #[.int .i64 0, .int .i64 0] 25)).cell? ⟨w.heap.size, 2, none⟩ = some (.int .i64 y) := by refine ⟨?_, ?_, ?_⟩ <;> simp [go_sem]
  have HV := Lib.hid (hv.below hb2)
  have HS : Hid (w.heap.size + 1 < ((w.alloc (.cells #[.int .i64 d, .int .i64 x, .int .i64 y] 32)).alloc (.cells #[.int .i64 0, .int .i64 0] 25)).heap.size) := by show _ < _; simp
  have HQ := Lib.hid hv.lt
  obtain ⟨a, c, rfl⟩ := hv.form
  clear hv
  have HGG := Lib.hid hG; clear hG
  have HN := Lib.hid hn; clear hn
  have HB2 := Lib.hid hb2
  unfold pa1 pa2 paL
  by_cases h0 : d = 0
  · subst h0
    rw [if_pos rfl, if_pos rfl, if_pos rfl]
    clear hb2
    go_enter Try.func10, Try.ntmps10
    go_wp2_with fail
    generalize (w.alloc (.cells #[.int .i64 0, .int .i64 x, .int .i64 y] 32)).alloc (.cells #[.int .i64 0, .int .i64 0] 25) = W at *
    have HT := Lib.hid (show SlC W (.slice a L.length c) 2 L.length (prs L) from HV.out)
    have CL : Hid (∀ wz, Below (w.heap.size + 1) W wz → wz.cell? ⟨w.heap.size, 1, none⟩ = some (.int .i64 x) ∧ wz.cell? ⟨w.heap.size, 2, none⟩ = some (.int .i64 y)) := fun wz h => ⟨(h.cell (p := ⟨w.heap.size, 1, none⟩) (Nat.lt_succ_self _)).trans x1, (h.cell (p := ⟨w.heap.size, 2, none⟩) (Nat.lt_succ_self _)).trans x2⟩
    obtain ⟨⟨o0, o1, o2⟩, f1, f2⟩ := N0.out
    go_region_held3 (fun wz => wz.cell? ⟨w.heap.size, 1, none⟩ = some (.int .i64 x) ∧ wz.cell? ⟨w.heap.size, 2, none⟩ = some (.int .i64 y))
      ((refine CL.out _ ?_; repeat first | exact below_set2 (KB2.out.mono (Nat.le_of_lt HS.out)) (Nat.le_refl _) | exact (Below.refl _ _) | exact KB2.out.mono (Nat.le_of_lt HS.out) | exact KB1.out.mono (Nat.le_of_lt HS.out) | refine Below.drew ?_ | refine Below.setCell ?_ (Nat.le_refl _) _ | refine Below.alloc ?_ (by first | exact Nat.le_of_lt HS.out | exact Nat.le_trans (Nat.le_of_lt HS.out) KB1.out.size | exact Nat.le_trans (Nat.le_of_lt HS.out) KB2.out.size | (simp; have := HS.out; omega)) _))
      (first
        | (refine step_app rfl (.tmp 21) (.tmp 22) 28 rfl W.heap.size 25 2 16 (.agg #[.int .i64 0, .int .i64 0]) Try.underlying28 pair_info rfl (by omega) (.slice (some ⟨W.heap.size, 0, none⟩) 0 0) 0 (prs []) (by simp [Act.eval, Act.put]) (lit_pa W) (.slice a L.length c) L.length (prs L) (by simp [Act.eval, Act.put]) (HT.out.below (below1d W _)) (prs_one _) (by have := HN.out; omega) (by omega) (by simp) ?_; intro v1 w1 hown1' hb1 hg1; have KB1 := Lib.hid ((below1d W (.cells #[] 25)).trans hb1); have own1 := Lib.hid hown1'; clear hown1' hb1 hg1)
        | (refine step_app rfl (.tmp 21) (.tmp 22) 28 rfl W.heap.size 25 2 16 (.agg #[.int .i64 0, .int .i64 0]) Try.underlying28 pair_info rfl (by omega) (.slice (some ⟨W.heap.size, 0, none⟩) 0 0) 0 (prs []) (by simp [Act.eval, Act.put]) (lit_pab W x y) (.slice a L.length c) L.length (prs L) (by simp [Act.eval, Act.put]) (HT.out.below (below2d W _ _)) (prs_one _) (by have := HN.out; omega) (by omega) (by simp; omega) ?_; intro v1 w1 hown1' hb1 hg1; have KB1 := Lib.hid ((below2d W (.cells #[] 25) (.cells #[.int .i64 x, .int .i64 y] 25)).trans hb1); have own1 := Lib.hid hown1'; have N1 := Lib.hid ((one_pab W x y).grown hg1 (by intro q hq; simp [Value.ownBlock] at hq ⊢; omega)); clear hown1' hb1 hg1)
        | (refine step_app rfl (.tmp 21) (.tmp 22) 28 rfl W.heap.size 25 2 16 (.agg #[.int .i64 0, .int .i64 0]) Try.underlying28 pair_info rfl (by omega) (.slice (some ⟨W.heap.size + 1, 0, none⟩) 0 0) 0 (prs []) (by simp [Act.eval, Act.put]) (lit_pba W x y) (.slice a L.length c) L.length (prs L) (by simp [Act.eval, Act.put]) (HT.out.below (below2d W _ _)) (prs_one _) (by have := HN.out; omega) (by omega) (by simp; omega) ?_; intro v1 w1 hown1' hb1 hg1; have KB1 := Lib.hid ((below2d W (.cells #[.int .i64 x, .int .i64 y] 25) (.cells #[] 25)).trans hb1); have own1 := Lib.hid hown1'; have N1 := Lib.hid ((one_pba W x y).grown hg1 (by intro q hq; simp [Value.ownBlock] at hq ⊢; omega)); clear hown1' hb1 hg1)
        | (refine step_app rfl (.tmp 23) (.tmp 26) 28 rfl W.heap.size 25 2 16 (.agg #[.int .i64 0, .int .i64 0]) Try.underlying28 pair_info rfl (by omega) v1 (0 + L.length) (prs [] ++ prs L) (by simp [Act.eval, Act.put]) (own1.out.alloc _) (.slice (some ⟨w1.heap.size, 0, none⟩) 1 1) 1 (prs [(x, y)]) (by simp [Act.eval, Act.put]) (one_pa w1 x y) (prs_one _) (by have := HN.out; omega) (by omega) (by have := KB1.out.size; simp; omega) ?_; intro v2 w2 hown2' hb2 hg2; have KB2 := Lib.hid ((KB1.out.alloc KB1.out.size _).trans hb2); have own2 := Lib.hid hown2'; clear hown2' hb2 hg2; clear o0 o1 o2 f1 f2; obtain ⟨⟨o0, o1, o2⟩, f1, f2⟩ := N0.out.below KB2.out)
        | (refine step_app rfl (.tmp 23) (.tmp 26) 28 rfl W.heap.size 25 2 16 (.agg #[.int .i64 0, .int .i64 0]) Try.underlying28 pair_info rfl (by omega) v1 (0 + L.length) (prs [] ++ prs L) (by simp [Act.eval, Act.put]) own1.out (.slice (some ⟨W.heap.size + 1, 0, none⟩) 1 1) 1 (prs [(x, y)]) (by simp [Act.eval, Act.put]) N1.out (prs_one _) (by have := HN.out; omega) (by omega) KB1.out.size ?_; intro v2 w2 hown2' hb2 hg2; have KB2 := Lib.hid (KB1.out.trans hb2); have own2 := Lib.hid hown2'; clear hown2' hb2 hg2; clear o0 o1 o2 f1 f2; obtain ⟨⟨o0, o1, o2⟩, f1, f2⟩ := N0.out.below KB2.out)
        | (refine step_app rfl (.tmp 23) (.tmp 26) 28 rfl W.heap.size 25 2 16 (.agg #[.int .i64 0, .int .i64 0]) Try.underlying28 pair_info rfl (by omega) v1 (0 + L.length) (prs [] ++ prs L) (by simp [Act.eval, Act.put]) own1.out (.slice (some ⟨W.heap.size, 0, none⟩) 1 1) 1 (prs [(x, y)]) (by simp [Act.eval, Act.put]) N1.out (prs_one _) (by have := HN.out; omega) (by omega) KB1.out.size ?_; intro v2 w2 hown2' hb2 hg2; have KB2 := Lib.hid (KB1.out.trans hb2); have own2 := Lib.hid hown2'; clear hown2' hb2 hg2; clear o0 o1 o2 f1 f2; obtain ⟨⟨o0, o1, o2⟩, f1, f2⟩ := N0.out.below KB2.out))
    all_goals go_wp2_with fail
    all_goals (obtain ⟨p0, p1, p2⟩ := At2.put (w := w2) (a := .int .i64 0) (b := .int .i64 0) ⟨o0, o1, o2⟩)
    all_goals refine bodyPost_ret (v := .tuple #[v2, .agg #[.int .i64 0, .int .i64 0], .bool true]) (by simp [results, Try.results10, go_sem, p0, p1]) rfl ⟨v2, rfl, ?_, fun _ q hq => Or.inr (Nat.le_trans HB2.out.size (World.ownsRow.lt own2.out q hq).1), HB2.out.trans (below_set2 (KB2.out.mono HB2.out.size) (Nat.le_succ _))⟩
    all_goals (have h8 := ownsRow_setCell_below (ownsRow_setCell_below own2.out (a := ⟨w.heap.size + 1, 0, none⟩) HS.out (.int .i64 0)) (a := ⟨w.heap.size + 1, 1, none⟩) HS.out (.int .i64 0))
    all_goals (have h9 := ownsRow_slc h8)
    all_goals (show SlC _ _ _ _ _; rw [show prs [] = [] from rfl, List.nil_append, prs_app] at h9; rw [Nat.zero_add] at h9; rw [List.length_append]; exact h9)
  · rw [if_neg h0, if_neg h0, if_neg h0]
    have e0 : (d == 0) = false := by simpa using h0
    generalize hW : (w.alloc (.cells #[.int .i64 d, .int .i64 x, .int .i64 y] 32)).alloc (.cells #[.int .i64 0, .int .i64 0] 25) = W at *
    by_cases h1 : d = 1
    · subst h1
      rw [if_pos rfl]
      have hp := r9pop _ L W HV.out (by have := HN.out; omega)
      clear hb2
      go_enter Try.func10, Try.ntmps10
      go_wp2_with fail
      refine hp.mono ?_; rintro e w1 ⟨u, rfl, hu, huq, hb1⟩
      clear hp x0 x1 x2 hW
      have HU := Lib.hid hu; have HUQ := Lib.hid huq; have HB1 := Lib.hid hb1
      obtain ⟨⟨o0, o1, o2⟩, f1, f2⟩ := N0.out.below hb1
      clear hu huq hb1
      go_wp2_with fail
      obtain ⟨p0, p1, p2⟩ := At2.put (w := w1) (a := .int .i64 (peekv L).1) (b := .int .i64 (peekv L).2) ⟨o0, o1, o2⟩
      refine bodyPost_ret (v := .tuple #[u, .agg #[.int .i64 (peekv L).1, .int .i64 (peekv L).2], .bool (decide (0 < L.length))]) (by simp [results, Try.results10, go_sem, p0, p1]) rfl ⟨u, rfl, ?_, fun hp q hq => Or.inr ?_, HB2.out.trans (below_set2 (HB1.out.mono HB2.out.size) (Nat.le_succ _))⟩
      · refine SlPO.fin HU.out (fun hp q hq => ?_)
        have := HUQ.out (by have := (pop_sub L).length_le; omega) q hq
        have := HS.out; omega
      · exact Nat.le_trans HB2.out.size (HUQ.out (by have := (pop_sub L).length_le; omega) q hq)
    · rw [if_neg h1]
      have e1 : (d == 1) = false := by simpa using h1
      have hp := r9peek _ L W HV.out (by have := HN.out; omega)
      clear hb2
      go_enter Try.func10, Try.ntmps10
      go_wp2_with fail
      refine hp.mono ?_; rintro e w1 ⟨rfl, hb1⟩
      clear hp x0 x1 x2 hW
      have HB1 := Lib.hid hb1
      have A7 := Lib.hid (At2.new w1 (.int .i64 (peekv L).1) (.int .i64 (peekv L).2) 25)
      have HW1 := Lib.hid (below1 w1 (.cells #[.int .i64 (peekv L).1, .int .i64 (peekv L).2] 25))
      have HNE : Hid (¬ w1.heap.size = w.heap.size + 1) := by show ¬ _; have := HS.out; have := hb1.size; omega
      have NX := Lib.hid ((N0.out.below hb1).below HW1.out)
      obtain ⟨⟨o0, o1, o2⟩, f1, f2⟩ := NX.out
      obtain ⟨y0, y1, y2⟩ := A7.out
      clear hb1
      go_wp2_with fail
      generalize w1.alloc (.cells #[.int .i64 (peekv L).1, .int .i64 (peekv L).2] 25) = V at *
      go_region_held3 (fun wz => wz.cell? ⟨w1.heap.size, 0, none⟩ = some (.int .i64 (peekv L).1) ∧ wz.cell? ⟨w1.heap.size, 1, none⟩ = some (.int .i64 (peekv L).2))
        ((first | exact ⟨A7.out.1, A7.out.2.1⟩ | exact ⟨(A7.out.turn (turn_one2 _ _ _ _) HNE.out).1, (A7.out.turn (turn_one2 _ _ _ _) HNE.out).2.1⟩ | exact ⟨(A7.out.turn (turn_one2 V.drew (w.heap.size + 1) (.int .i64 (peekv L).1) (.int .i64 (peekv L).2)) HNE.out).1, (A7.out.turn (turn_one2 V.drew (w.heap.size + 1) (.int .i64 (peekv L).1) (.int .i64 (peekv L).2)) HNE.out).2.1⟩))
        (fail)
      all_goals go_wp2_with fail
      all_goals (obtain ⟨p0, p1, p2⟩ := At2.put (w := V) (a := .int .i64 (peekv L).1) (b := .int .i64 (peekv L).2) ⟨o0, o1, o2⟩)
      all_goals refine bodyPost_ret (v := .tuple #[.slice a L.length c, .agg #[.int .i64 (peekv L).1, .int .i64 (peekv L).2], .bool (decide (0 < L.length))]) (by simp [results, Try.results10, go_sem, p0, p1]) rfl ⟨_, rfl, ?_, fun hp q hq => Or.inl (HGG.out hp q hq), HB2.out.trans (below_set2 ((HB1.out.trans (HW1.out.mono HB1.out.size)).mono HB2.out.size) (Nat.le_succ _)).drew⟩
      all_goals exact SlP.below (SlPO.fin (SlP.below (SlP.below HV.out HB1.out) HW1.out) (fun hp q hq => by have := HQ.out hp q hq; omega)) ((Below.refl _ _).drew)
end Go.Proofs.Ytjkldjgeagociaa
