/-
  The landed Up, comesBack and Check. The condition: at most 1000 accounts.
-/
import Derived.Test.YteendpdidkekkaaAccE
namespace Go.Proofs.Yteendpdidkekkaa
open Go.RowKit
set_option linter.unusedSimpArgs false
set_option linter.unusedVariables false

/-- What is kept on the way up. -/
structure UpW (w0 w : World) (g m n : Nat) (f : Int → Int) (a : Int) (out : List Int) (x : Int) (I : List Bool) (v : Value) : Prop where
  s : UpS n f a out x
  i : OwnB w w0.heap.size (.slice (some ⟨g, 0, none⟩) m m) I
  l : I.length = m
  t : ∀ j : Nat, j < m → I.getD j false = decide ((j : Int) = a ∨ (j : Int) ∈ out)
  o : Own w w0.heap.size v out
  b : Below w0.heap.size w0 w
set_option maxHeartbeats 8000000 in
set_option maxRecDepth 100000 in
theorem up_y (a : Option Addr) (c : Nat) (L : List AcT) (y : Int) (w : World) (hL : RdA w a L) (hn : L.length ≤ 1000) (hy : Ent (L.length : Int) y) :
    Calls Try.prog 18 #[.slice a L.length c, .int .i64 y] w fun e w' => ∃ v, e = .returned v ∧ Own w' w.heap.size v (ups L.length (pa L) y) ∧ Below w.heap.size w w' := by
  obtain ⟨ya, rfl⟩ : ∃ ya : Nat, y = (ya : Int) := ⟨y.toNat, by unfold Ent at hy; omega⟩
  obtain ⟨m, hm⟩ : ∃ m, m = L.length + 1 := ⟨_, rfl⟩
  obtain ⟨ii, hi, hz0, hz1, hz2⟩ := info_parts bool20
  have hmk : (Instr.makeSlice 64 (.int .i64 m) (.int .i64 m)).run Try.prog w = .ok (.slice (some ⟨w.heap.size, 0, none⟩) m m) (w.alloc (.cells (madeCells #[.bool false] m) 4)) := by
    have := run_makeSlice (P := Try.prog) (w := w) 64 4 ii (.bool false) Try.underlying64 hi hz0 .i64 .i64 m m (by omega) (by omega) (by rw [hz1]; omega) (by rw [hz2]; omega) (by omega)
    rw [hz1] at this; simpa [Value.cells] using this
  have hmi : (m : Int) = (L.length : Int) + 1 := by omega
  rw [hmi] at hmk
  have e0 : wrap64 ((L.length : Int) + 1) = (L.length : Int) + 1 := by unfold wrap64; omega
  have hO1 := bools_made w m (by omega)
  have hB1 := below1 w (.cells (madeCells #[.bool false] m) 4)
  have hyl : ya < m := by unfold Ent at hy; omega
  obtain ⟨hcy, hzy⟩ := hO1.at (by rw [List.length_replicate]) hyl
  have hO2 := hO1.store (by rw [List.length_replicate]) ya true
  have ht2 : Turn (fun i => i = w.heap.size) (w.alloc (.cells (madeCells #[.bool false] m) 4)) ((w.alloc (.cells (madeCells #[.bool false] m) 4)).setCell ⟨w.heap.size, ya, none⟩ (.bool true)) := turn_set (F := fun i => i = w.heap.size) (p := ⟨w.heap.size, ya, none⟩) (Turn.refl _ _) (Or.inl (show w.heap.size = w.heap.size from rfl)) _
  have hB2 := hB1.trans (ht2.below (fun i e => by omega) hB1.size)
  have H0 : Hid (UpW w ((w.alloc (.cells (madeCells #[.bool false] m) 4)).setCell ⟨w.heap.size, ya, none⟩ (.bool true)) w.heap.size m L.length (pa L) (ya : Int) [] (pa L (ya : Int)) ((List.replicate m false).set ya true) (.slice none 0 0)) := by
    refine ⟨UpS.start hy, hO2, by rw [List.length_set, List.length_replicate], fun j hj => ?_, Own.nil _ _, hB2⟩
    rw [getD_set _ _ _ (by rw [List.length_replicate]; exact hyl), getD_false, Bool.or_false, decide_eq_decide]
    constructor
    · intro e; exact Or.inl (by rw [e])
    · rintro (e | e)
      · omega
      · cases e
  have hp := par_c a c L (ya : Int) ((w.alloc (.cells (madeCells #[.bool false] m) 4)).setCell ⟨w.heap.size, ya, none⟩ (.bool true)) (hL.below hB2) hy (by omega)
  have hio := isone_c a L.length c (ya : Int) w
  rw [decide_eq_true hy] at hio
  have y0 : (0 : Int) ≤ (ya : Int) := by omega
  have y1 : (ya : Int) < (m : Int) := by omega
  have HL := Lib.hid hL
  have HM : Hid (m = L.length + 1 ∧ L.length ≤ 1000) := ⟨hm, hn⟩
  rw [getD_false] at hcy
  obtain ⟨W2, hW2⟩ : ∃ W2, W2 = (w.alloc (.cells (madeCells #[.bool false] m) 4)).setCell ⟨w.heap.size, ya, none⟩ (.bool true) := ⟨_, rfl⟩
  rw [← hW2] at hp H0
  have HW2 : Hid (w.alloc (.cells ((madeCells #[.bool false] m).setIfInBounds ya (.bool true)) 4) = W2) := by show _ = _; rw [hW2]; simp [go_sem]
  clear hW2
  clear hi hz0 hz1 hz2 ii hL hO1 hB1 hO2 ht2 hB2 hm hmi hy hn
  go_enter Try.func18, Try.ntmps18
  go_wp2_with fail
  refine hio.mono ?_; clear hio; rintro e w0 ⟨rfl, rfl⟩
  go_wp2_with fail
  rw [HW2.out]
  refine hp.mono ?_; clear hp; rintro e w0 ⟨rfl, rfl⟩
  clear hmk hcy hzy HW2
  go_wp2_with fail
  obtain ⟨g, hg⟩ : ∃ g, g = w.heap.size := ⟨_, rfl⟩
  have HG := Lib.hid hg
  rw [← hg] at H0
  simp only [← hg]
  clear hg
  go_loopg [5, 7] L.length (fun k vu vx wr => ∃ (out : List Int) (x : Int) (I : List Bool), vx = .int .i64 x ∧ UpW w wr g m L.length (pa L) (ya : Int) out x I vu ∧ L.length - out.length ≤ k)
  case atStart => exact ⟨_, _, _, rfl, H0.out, by simp⟩
  case round =>
    clear H0
    obtain ⟨out, x, I, rfl, hU, hk⟩ := hrel
    have hio := isone_c a L.length c x wr
    have HU := Lib.hid hU
    by_cases hx : Ent (L.length : Int) x
    · rw [decide_eq_true hx] at hio
      obtain ⟨j, rfl⟩ : ∃ j : Nat, x = (j : Int) := ⟨x.toNat, by unfold Ent at hx; omega⟩
      have hjm : j < m := by have := HM.out; unfold Ent at hx; omega
      obtain ⟨hbj, hbz⟩ := hU.i.at hU.l hjm
      rw [hU.t j hjm] at hbj
      have j0 : (0 : Int) ≤ (j : Int) := by omega
      have j1 : (j : Int) < (m : Int) := by omega
      by_cases hst : (j : Int) = (ya : Int) ∨ (j : Int) ∈ out
      · rw [decide_eq_true hst] at hbj
        have HE : Hid (ups L.length (pa L) (ya : Int) = out) := hU.s.stop (fun q => hst.elim q.2.1 q.2.2)
        clear hU hk hx hst hjm
        go_wp2_with fail
        refine hio.mono ?_; clear hio; rintro e w0 ⟨rfl, rfl⟩
        go_wp2_with fail
        go_ret
        exact ⟨_, rfl, by rw [HE.out]; exact HU.out.o, HU.out.b⟩
      · rw [decide_eq_false hst] at hbj
        have hgo := hU.s.go hx (fun q => hst (Or.inl q)) (fun q => hst (Or.inr q))
        have hlen := hgo.len
        rw [List.length_append, List.length_singleton] at hlen
        have HS := Lib.hid hgo
        have HK : Hid (L.length - out.length ≤ gk ∧ out.length + 2 ≤ L.length ∧ L.length ≤ 1000) := ⟨hk, by omega, HM.out.2⟩
        have HX := Lib.hid hx
        have HJM := Lib.hid hjm
        have hsz := hU.b.size
        clear hU hk hgo hlen hst hx hjm
        go_wp2_with fail
        refine hio.mono ?_; clear hio; rintro e w0 ⟨rfl, rfl⟩
        go_wp2_with
          (at_builtin
           refine wpList_app rfl (.tmp 35) (.tmp 37) 30 rfl w.heap.size 3 1 8 (.int .i64 0) Try.underlying30 int_info rfl (by decide) _ out.length (out.map (Value.int .i64)) rfl (HU.out.o.alloc _) (.slice (some ⟨wr.heap.size, 0, none⟩) 1 1) 1 (ints [(j : Int)]) rfl (one_a wr (j : Int)) (ints_one _) (by have := HK.out; omega) (by decide) (by simp; omega) ?_
           intro v5 w5 ho5 hb5 hg5
           have ho6 : Own w5 w.heap.size v5 (out ++ [(j : Int)]) := by
             show World.ownsRow _ _ _ _ _ _ _
             rw [List.length_append, List.map_append]; exact ho5
           have hB5 : OwnB (wr.alloc (.cells #[.int .i64 (j : Int)] 3)) w.heap.size (.slice (some ⟨g, 0, none⟩) m m) I := HU.out.i.below (below1 _ _)
           have hB6 := ownB_turn hB5 (turn_grown hg5) (fun b e r => own_apart (HU.out.o.alloc _) hB5 r e)
           have hb6 : Below w.heap.size w w5 := (HU.out.b.trans ((below1 wr (.cells #[.int .i64 (j : Int)] 3)).mono HU.out.b.size)).trans hb5
           have hcell := hB6.at HU.out.l HJM.out
           rw [HU.out.t j HJM.out] at hcell
           obtain ⟨hcj, hzj⟩ := hcell
           have H6 := Lib.hid (And.intro hB6 (And.intro ho6 hb6))
           clear ho5 hb5 hg5 ho6 hB6 hB5 hb6 hbj hbz)
        have hB7 := H6.out.1.store HU.out.l j true
        have ht7 : Turn (fun i => i = g) w5 (w5.setCell ⟨g, j, none⟩ (.bool true)) := turn_set (F := fun i => i = g) (p := ⟨g, j, none⟩) (Turn.refl _ _) (Or.inl (show g = g from rfl)) _
        have hO7 := own_turnI H6.out.2.1 ht7 (fun b e r => by subst r; exact own_apart H6.out.2.1 H6.out.1 e rfl)
        have hb7 : Below w.heap.size w (w5.setCell ⟨g, j, none⟩ (.bool true)) := H6.out.2.2.trans (ht7.below (fun i e => by have := HG.out; omega) H6.out.2.2.size)
        have hp := par_c a c L (j : Int) (w5.setCell ⟨g, j, none⟩ (.bool true)) (HL.out.below hb7) HX.out (by have := HM.out; omega)
        have H7 := Lib.hid (And.intro hB7 (And.intro hO7 hb7))
        clear hB7 ht7 hO7 hb7
        go_wp2_with fail
        refine hp.mono ?_; clear hp; rintro e w0 ⟨rfl, rfl⟩
        go_wp2_with fail
        go_roundg (gk - 1)
        case measure => have := HK.out; omega
        case rel =>
          refine ⟨_, _, _, rfl, ⟨HS.out, H7.out.1, by rw [List.length_set]; exact HU.out.l, fun i hi => ?_, H7.out.2.1, H7.out.2.2⟩, ?_⟩
          · rw [getD_set _ _ _ (by rw [HU.out.l]; exact HJM.out), HU.out.t i hi, Bool.eq_iff_iff, Bool.or_eq_true, decide_eq_true_eq, decide_eq_true_eq, decide_eq_true_eq, List.mem_append, List.mem_singleton]
            constructor
            · rintro (e | e | e)
              · exact Or.inr (Or.inr (by rw [e]))
              · exact Or.inl e
              · exact Or.inr (Or.inl e)
            · rintro (e | e | e)
              · exact Or.inr (Or.inl e)
              · exact Or.inr (Or.inr e)
              · exact Or.inl (by omega)
          · have := HK.out
            rw [List.length_append, List.length_singleton]; omega
    · rw [decide_eq_false hx] at hio
      have HE : Hid (ups L.length (pa L) (ya : Int) = out) := hU.s.stop (fun q => hx q.1)
      clear hU hk hx
      go_wp2_with fail
      refine hio.mono ?_; clear hio; rintro e w0 ⟨rfl, rfl⟩
      go_wp2_with fail
      go_ret
      exact ⟨_, rfl, by rw [HE.out]; exact HU.out.o, HU.out.b⟩
set_option maxHeartbeats 1000000 in
set_option maxRecDepth 100000 in
theorem up_a (a : Option Addr) (c : Nat) (L : List AcT) (y : Int) (w : World) (hL : RdA w a L) (hn : L.length ≤ 1000) :
    Calls Try.prog 18 #[.slice a L.length c, .int .i64 y] w fun e w' => ∃ v, e = .returned v ∧ Own w' w.heap.size v (ups L.length (pa L) y) ∧ Below w.heap.size w w' := by
  by_cases hy : Ent (L.length : Int) y
  · exact up_y a c L y w hL hn hy
  · have hio := isone_c a L.length c y w
    rw [decide_eq_false hy] at hio
    rw [ups_no hy]
    clear hL hn hy
    go_enter Try.func18, Try.ntmps18
    go_wp2_with fail
    refine hio.mono ?_; clear hio; rintro e w0 ⟨rfl, rfl⟩
    go_wp2_with fail
    go_ret
    exact ⟨_, rfl, Own.nil _ _, Below.refl _ _⟩
theorem last_at (a : Int) (U : List Int) : (a :: U).getD U.length 0 = U.getLastD a := by
  rw [List.getLastD_eq_getLast?]
  rcases List.eq_nil_or_concat U with rfl | ⟨V, z, rfl⟩
  · rfl
  · simp [List.getD]
theorem last_ent {n : Nat} {f : Int → Int} {a : Int} (h : Ent (n : Int) a) : Ent (n : Int) ((ups n f a).getLastD a) := by
  rcases List.eq_nil_or_concat (ups n f a) with e | ⟨V, z, e⟩
  · rw [e]; exact h
  · rw [e]
    have : (V ++ [z]).getLastD a = z := by simp [List.getLastD_concat]
    rw [List.concat_eq_append, this]
    exact ups_ent (f := f) (a := a) (by rw [e]; simp)
set_option maxHeartbeats 2000000 in
set_option maxRecDepth 100000 in
theorem comes_c (a : Option Addr) (c : Nat) (L : List AcT) (y : Int) (w : World) (hL : RdA w a L) (hn : L.length ≤ 1000) (hy : Ent (L.length : Int) y) :
    Calls Try.prog 35 #[.slice a L.length c, .int .i64 y] w fun e w' => e = .returned (.bool (rnd L.length (pa L) y)) ∧ Below w.heap.size w w' := by
  have hB1 := below1 w (.cells #[.int .i64 y] 3)
  have hu := up_a a c L y (w.alloc (.cells #[.int .i64 y] 3)) (hL.below hB1) hn
  have hO1 : Own (w.alloc (.cells #[.int .i64 y] 3)) w.heap.size (.slice (some ⟨w.heap.size, 0, none⟩) 1 1) [y] := own_lit1 w w.heap.size (Nat.le_refl _) y
  have HU : Hid ((ups L.length (pa L) y).length ≤ 1000 ∧ ∀ z ∈ ups L.length (pa L) y, InR z) := ⟨Nat.le_trans (ups_few _ _ _) hn, ups_in hn⟩
  have HLA : Hid (([y] ++ ups L.length (pa L) y).getD (ups L.length (pa L) y).length 0 = (ups L.length (pa L) y).getLastD y) := last_at y _
  have HLE : Hid (Ent (L.length : Int) ((ups L.length (pa L) y).getLastD y)) := last_ent hy
  have HR : Hid (rnd L.length (pa L) y = (pa L ((ups L.length (pa L) y).getLastD y) == y)) := rfl
  have HYI : Hid (InR y) := by show InR y; unfold Ent at hy; unfold InR; omega
  have HYU : Hid (∀ q ∈ [y] ++ ups L.length (pa L) y, InR q) := fun q hq => by
    rcases List.mem_append.1 hq with h | h
    · rw [List.mem_singleton.1 h]; exact HYI.out
    · exact HU.out.2 q h
  have HB1 := Lib.hid hB1
  have HL := Lib.hid hL
  have HN := Lib.hid hn
  generalize ups L.length (pa L) y = U at *
  generalize U.getLastD y = z at *
  rw [HR.out]
  clear hL hn hy HR hB1
  have HO1 := Lib.hid hO1
  clear hO1
  go_enter Try.func35, Try.ntmps35
  go_wp2_with fail
  generalize hw1 : w.alloc (.cells #[.int .i64 y] 3) = W1 at *
  clear hw1
  refine hu.mono ?_; clear hu; rintro e w2 ⟨v, rfl, ho, hb2⟩
  have HO2 := Lib.hid (HO1.out.below hb2)
  have hSL := (ho.sl HU.out.2).slc
  obtain ⟨va, vc, rfl⟩ := (ho.sl HU.out.2).form
  have HB2 : Hid (Below w.heap.size w w2) := HB1.out.trans (hb2.mono HB1.out.size)
  have HSL := Lib.hid hSL
  have hsz := HB2.out.size
  clear ho hb2 hSL
  go_wp2_with
    (at_builtin
     refine wpList_app rfl (.tmp 7) (.tmp 10) 30 rfl w.heap.size 3 1 8 (.int .i64 0) Try.underlying30 int_info rfl (by decide) _ 1 ([y].map (Value.int .i64)) rfl HO2.out (.slice va U.length vc) U.length (ints U) rfl HSL.out (ints_one _) (by have := HU.out.1; omega) (by decide) hsz ?_
     intro v5 w5 ho5 hb5 hg5
     have ho6 : Own w5 w.heap.size v5 ([y] ++ U) := by
       show World.ownsRow _ _ _ _ _ _ _
       rw [List.length_append, List.map_append]; exact ho5
     have HO6 := Lib.hid ho6
     have HB6 : Hid (Below w.heap.size w w5) := HB2.out.trans hb5
     clear ho5 hb5 hg5 ho6
     have HR6 := HO6.out.reads HYU.out
     obtain ⟨ra, rc, rfl, -, hR⟩ := HR6
     have hl : ([y] ++ U).length = U.length + 1 := by rw [List.length_append, List.length_singleton]; omega
     obtain ⟨b, off, rfl, hc⟩ := hR.2 U.length (by omega)
     rw [HLA.out] at hc
     obtain ⟨l, hll⟩ : ∃ l, U.length = l := ⟨_, rfl⟩
     obtain ⟨q, hq⟩ : ∃ q, q = l + 1 := ⟨_, rfl⟩
     have hp := par_c a c L z w5 (HL.out.below HB6.out) HLE.out (by have := HN.out; omega)
     simp only [hl, hll, ← hq] at hc ⊢
     have hlq : l ≤ 1000 := by have := HU.out.1; omega
     have e1 : wrap64 ((q : Int) - 1) = (l : Int) := by unfold wrap64; omega
     have i0 : (0 : Int) ≤ (l : Int) := by omega
     have i1 : (l : Int) < (q : Int) := by omega
     clear hR hl hll hq hlq)
  refine hp.mono ?_; clear hp; rintro e w6 ⟨rfl, rfl⟩
  go_wp2_with fail
  go_ret
  exact ⟨rfl, HB6.out⟩
theorem ck_a {L : List AcT} (h : 60 < L.length) : ckV L = 0 ∧ ckE L = 3 := by unfold ckV ckE; rw [if_pos h, if_pos h]; exact ⟨rfl, rfl⟩
theorem ck_b {L : List AcT} (h : ¬ 60 < L.length) (hb : bgO L = false) : ckV L = 0 ∧ ckE L = 28 := by unfold ckV ckE; rw [if_neg h, if_neg h, if_pos hb, if_pos hb]; exact ⟨rfl, rfl⟩
theorem ck_c {L : List AcT} (h : ¬ 60 < L.length) (hb : bgO L = true) {k : Nat} (hk : k < L.length) (h1 : ∀ j, j < k → wrA (L.getD j zA) (L.length : Int) = 0) (h2 : wrA (L.getD k zA) (L.length : Int) ≠ 0) : ckV L = (k : Int) ∧ ckE L = wrA (L.getD k zA) (L.length : Int) := by
  have e : fb1 L = k := fI_at hk (fun j hj => by unfold bad1; rw [h1 j hj]; rfl) (decide_eq_true h2)
  have hb' : ¬ bgO L = false := by rw [hb]; decide
  unfold ckV ckE
  rw [if_neg h, if_neg h, if_neg hb', if_neg hb', e, if_pos hk, if_pos hk]; exact ⟨rfl, rfl⟩
theorem ck_d {L : List AcT} (h : ¬ 60 < L.length) (hb : bgO L = true) (h1 : ∀ j, j < L.length → wrA (L.getD j zA) (L.length : Int) = 0) {k : Nat} (hk : k < L.length) (h2 : ∀ j, j < k → rnd L.length (pa L) ((j : Int) + 1) = false) (h3 : rnd L.length (pa L) ((k : Int) + 1) = true) : ckV L = (k : Int) ∧ ckE L = 26 := by
  have e : fb1 L = L.length := fI_all fun j hj => by unfold bad1; rw [h1 j hj]; rfl
  have e2 : fb2 L = k := fI_at hk (fun j hj => h2 j hj) h3
  have hb' : ¬ bgO L = false := by rw [hb]; decide
  unfold ckV ckE
  rw [if_neg h, if_neg h, if_neg hb', if_neg hb', e, if_neg (by omega), if_neg (by omega), e2, if_pos hk]; exact ⟨rfl, rfl⟩
theorem ck_e {L : List AcT} (h : ¬ 60 < L.length) (hb : bgO L = true) (h1 : ∀ j, j < L.length → wrA (L.getD j zA) (L.length : Int) = 0) (h2 : ∀ j, j < L.length → rnd L.length (pa L) ((j : Int) + 1) = false) : ckV L = (L.length : Int) ∧ ckE L = 0 := by
  have := ck_of (L := L) ⟨by omega, hb, h1, h2⟩
  exact ⟨this.2, this.1⟩
set_option maxHeartbeats 4000000 in
set_option maxRecDepth 100000 in
theorem check_a (a : Option Addr) (c : Nat) (L : List AcT) (w : World) (hL : RdA w a L) (hc : L.length ≤ c) (hn : L.length ≤ 1000) :
    Calls Try.prog 9 #[.slice a L.length c] w fun e w' => e = .returned (.tuple #[.int .i64 (ckV L), .int .i64 (ckE L)]) ∧ Below w.heap.size w w' := by
  obtain ⟨zv, hzv⟩ : ∃ zv, ckV L = zv := ⟨_, rfl⟩
  obtain ⟨ze, hze⟩ : ∃ ze, ckE L = ze := ⟨_, rfl⟩
  rw [hzv, hze]
  have HL := Lib.hid hL
  by_cases h60 : 60 < L.length
  · have d0 : decide ((60 : Int) < (L.length : Int)) = true := decide_eq_true (by omega)
    obtain ⟨q1, q2⟩ := ck_a h60
    have HZ : Hid (zv = 0 ∧ ze = 3) := ⟨hzv.symm.trans q1, hze.symm.trans q2⟩
    clear hL hzv hze q1 q2 h60
    go_enter Try.func9, Try.ntmps9
    go_wp2_with fail
    go_ret2
    exact ⟨by rw [HZ.out.1, HZ.out.2]; rfl, Below.refl _ _⟩
  · have d0 : decide ((60 : Int) < (L.length : Int)) = false := decide_eq_false (by omega)
    have hbg := begins_c a c L w hL hc (by omega)
    cases hbo : bgO L with
    | false =>
      rw [hbo] at hbg
      obtain ⟨q1, q2⟩ := ck_b h60 hbo
      have HZ : Hid (zv = 0 ∧ ze = 28) := ⟨hzv.symm.trans q1, hze.symm.trans q2⟩
      clear hL hzv hze q1 q2 h60 hbo
      go_enter Try.func9, Try.ntmps9
      go_wp2_with fail
      refine hbg.mono ?_; clear hbg; rintro e w1 ⟨rfl, hb⟩
      have HB := Lib.hid hb
      clear hb
      go_wp2_with fail
      go_ret2
      exact ⟨by rw [HZ.out.1, HZ.out.2]; rfl, HB.out⟩
    | true =>
      rw [hbo] at hbg
      have HC : Hid (∀ k, k < L.length → (∀ j, j < k → wrA (L.getD j zA) (L.length : Int) = 0) → wrA (L.getD k zA) (L.length : Int) ≠ 0 → zv = (k : Int) ∧ ze = wrA (L.getD k zA) (L.length : Int)) := fun k hk h1 h2 => by rw [← hzv, ← hze]; exact ck_c h60 hbo hk h1 h2
      have HD : Hid (∀ k, k < L.length → (∀ j, j < L.length → wrA (L.getD j zA) (L.length : Int) = 0) → (∀ j, j < k → rnd L.length (pa L) ((j : Int) + 1) = false) → rnd L.length (pa L) ((k : Int) + 1) = true → zv = (k : Int) ∧ ze = 26) := fun k hk h1 h2 h3 => by rw [← hzv, ← hze]; exact ck_d h60 hbo h1 hk h2 h3
      have HE : Hid ((∀ j, j < L.length → wrA (L.getD j zA) (L.length : Int) = 0) → (∀ j, j < L.length → rnd L.length (pa L) ((j : Int) + 1) = false) → zv = (L.length : Int) ∧ ze = 0) := fun h1 h2 => by rw [← hzv, ← hze]; exact ck_e h60 hbo h1 h2
      have HN : Hid (L.length ≤ 60) := by show _ ≤ _; omega
      clear hL hzv hze h60 hbo hn hc
      go_enter Try.func9, Try.ntmps9
      go_wp2_with fail
      refine hbg.mono ?_; clear hbg; rintro e w1 ⟨rfl, hb⟩
      have HB0 := Lib.hid hb
      clear hb
      go_wp2_with fail
      go_loopw [18] (fun i wr => ∃ k : Nat, k ≤ L.length ∧ i = .int .i64 (k : Int) ∧ (∀ j, j < k → wrA (L.getD j zA) (L.length : Int) = 0) ∧ Below w.heap.size w wr) (fun i _ => L.length - (RowKit.intOf i).toNat)
      case atStart => exact ⟨0, Nat.zero_le _, rfl, fun j hj => (by cases hj), HB0.out⟩
      case round =>
        clear HB0
        obtain ⟨k, hk, rfl, hs, hb⟩ := hrel
        have HS := Lib.hid hs
        have HB := Lib.hid hb
        by_cases hlt : k < L.length
        · obtain ⟨b, off, rfl, c0, c1, c2, c3⟩ := (HL.out.below hb).2 k hlt
          have i0 : (0 : Int) ≤ (k : Int) := by omega
          have i1 : (k : Int) < (L.length : Int) := by omega
          have HY : Hid (wrA (L.getD k zA) (L.length : Int) ≠ 0 → zv = (k : Int) ∧ ze = wrA (L.getD k zA) (L.length : Int)) := HC.out k hlt hs
          have HNX : Hid (wrA (L.getD k zA) (L.length : Int) = 0 → ∀ j, j < k + 1 → wrA (L.getD j zA) (L.length : Int) = 0) := fun q j hj => by
            rcases Nat.lt_or_ge j k with r | r
            · exact HS.out j r
            · rw [show j = k by omega]; exact q
          generalize L.getD k zA = s at *
          have hbs := below1 wr (.cells #[.int .i64 s.1, .int .i64 s.2.1, .bool s.2.2.1, .bool s.2.2.2] 35)
          obtain ⟨g0, g1, g2, g3, -⟩ := Ow4.new wr (.int .i64 s.1) (.int .i64 s.2.1) (.bool s.2.2.1) (.bool s.2.2.2) 35
          have hw := wrong_c s (L.length : Int) (wr.alloc (.cells #[.int .i64 s.1, .int .i64 s.2.1, .bool s.2.2.1, .bool s.2.2.2] 35))
          have HB1 : Hid (Below w.heap.size w (wr.alloc (.cells #[.int .i64 s.1, .int .i64 s.2.1, .bool s.2.2.1, .bool s.2.2.2] 35))) := hb.trans (hbs.mono hb.size)
          generalize wrA s (L.length : Int) = z at *
          clear hs hb hbs
          by_cases hz : z = 0
          · subst hz
            have HNX2 := Lib.hid (HNX.out rfl)
            have hn60 := HN.out
            clear HY HNX
            go_wp2_with fail
            refine hw.mono ?_; clear hw; rintro e w2 ⟨rfl, hb2⟩
            have HB2 : Hid (Below w.heap.size w w2) := HB1.out.trans (hb2.mono HB1.out.size)
            clear hb2
            go_wp2_with fail
            go_roundw
            · exact ⟨k + 1, by omega, by go_num, HNX2.out, HB2.out⟩
            · simp [RowKit.intOf]; omega
          · have hz' : (z != 0) = true := by simpa using hz
            have HY2 := Lib.hid (HY.out hz)
            clear HY HNX hz
            go_wp2_with fail
            refine hw.mono ?_; clear hw; rintro e w2 ⟨rfl, hb2⟩
            have HB2 : Hid (Below w.heap.size w w2) := HB1.out.trans (hb2.mono HB1.out.size)
            clear hb2
            go_wp2_with fail
            go_ret2
            exact ⟨by rw [HY2.out.1, HY2.out.2]; rfl, HB2.out⟩
        · obtain rfl : k = L.length := by omega
          have hd0 : decide ((L.length : Int) < (L.length : Int)) = false := decide_eq_false (by omega)
          clear hs hb hk hlt
          go_wp2_with fail
          go_loopw [34] (fun i wy => ∃ k : Nat, k ≤ L.length ∧ i = .int .i64 (k : Int) ∧ (∀ j, j < k → rnd L.length (pa L) ((j : Int) + 1) = false) ∧ Below w.heap.size w wy) (fun i _ => L.length - (RowKit.intOf i).toNat)
          case atStart => exact ⟨0, Nat.zero_le _, rfl, fun j hj => (by cases hj), HB.out⟩
          case round =>
            obtain ⟨k, hk, rfl, hs, hb⟩ := hrel
            have HS2 := Lib.hid hs
            have HBY := Lib.hid hb
            by_cases hlt : k < L.length
            · have i1 : (k : Int) < (L.length : Int) := by omega
              have i1' : decide ((k : Int) < (L.length : Int)) = true := decide_eq_true i1
              have hcm := comes_c a c L ((k : Int) + 1) _ (HL.out.below hb) (by have := HN.out; omega) ⟨by omega, by omega⟩
              have e1 : wrap64 ((k : Int) + 1) = (k : Int) + 1 := by have := HN.out; unfold wrap64; omega
              have HY : Hid (rnd L.length (pa L) ((k : Int) + 1) = true → zv = (k : Int) ∧ ze = 26) := HD.out k hlt HS.out hs
              have HNX : Hid (rnd L.length (pa L) ((k : Int) + 1) = false → ∀ j, j < k + 1 → rnd L.length (pa L) ((j : Int) + 1) = false) := fun q j hj => by
                rcases Nat.lt_or_ge j k with r | r
                · exact HS2.out j r
                · rw [show j = k by omega]; exact q
              have HRR : Hid (k + 1 ≤ L.length ∧ L.length - (RowKit.intOf (.int .i64 ((k : Int) + 1))).toNat < L.length - (RowKit.intOf (.int .i64 (k : Int))).toNat) := ⟨hlt, by simp [RowKit.intOf]; omega⟩
              generalize rnd L.length (pa L) ((k : Int) + 1) = z at *
              clear hs hb
              cases z with
              | true =>
                have HY2 := Lib.hid (HY.out rfl)
                clear HY HNX
                go_wp2_with fail
                refine hcm.mono ?_; clear hcm; rintro e w2 ⟨rfl, hb2⟩
                have HB2 : Hid (Below w.heap.size w w2) := HBY.out.trans (hb2.mono HBY.out.size)
                clear hb2
                go_wp2_with fail
                go_ret2
                exact ⟨by rw [HY2.out.1, HY2.out.2]; rfl, HB2.out⟩
              | false =>
                have HNX2 := Lib.hid (HNX.out rfl)
                clear HY HNX
                go_wp2_with fail
                refine hcm.mono ?_; clear hcm; rintro e w2 ⟨rfl, hb2⟩
                have HB2 : Hid (Below w.heap.size w w2) := HBY.out.trans (hb2.mono HBY.out.size)
                clear hb2
                go_wp2_with fail
                go_roundw
                · exact ⟨k + 1, HRR.out.1, by go_num, HNX2.out, HB2.out⟩
                · have := HRR.out.2; first | exact this | (rw [e1]; exact this) | (simp [RowKit.intOf]; omega)
            · obtain rfl : k = L.length := by omega
              have HZ := Lib.hid (HE.out HS.out hs)
              clear hs hb hk hlt
              go_wp2_with fail
              go_ret2
              exact ⟨by rw [HZ.out.1, HZ.out.2]; rfl, HBY.out⟩
end Go.Proofs.Yteendpdidkekkaa
