/-
  The document's Begin of layer 16. The condition: the rows' lengths.
-/
import Derived.Test.YtmhfgkkiplencaaR16c
namespace Go.Proofs.Ytmhfgkkiplencaa
open Go.RowKit
set_option linter.unusedSimpArgs false
set_option linter.unusedVariables false

theorem rows_info16 : (Try.prog.info? 26).map (fun i => (i.zero, i.size, i.bytes)) = some (some (.slice none 0 0), 1, 24) := by kernel_rfl
theorem lit_e (w : World) (base : Nat) (hb : base ≤ w.heap.size) : (w.alloc (.cells #[] 26)).ownsRow base 26 1 (.slice (some ⟨w.heap.size, 0, none⟩) 0 0) 0 [] :=
  World.ownsRow_lit (e := 26) (size := 1) w #[] 0 hb (by unfold maxLen; omega) rfl
theorem one_v (w : World) (v : Value) : SlC (w.alloc (.cells #[v] 26)) (.slice (some ⟨w.heap.size, 0, none⟩) 1 1) 1 1 [v] :=
  ownsRow_slc (World.ownsRow_lit (base := w.heap.size) (e := 26) (size := 1) w #[v] 1 (Nat.le_refl _) (by unfold maxLen; omega) rfl)
theorem getD_snoc_lt {α : Type} (l : List α) (x z : α) {i : Nat} (h : i < l.length) : (l ++ [x]).getD i z = l.getD i z := by
  rw [List.getD_eq_getElem?_getD, List.getD_eq_getElem?_getD, List.getElem?_append_left h]
theorem getD_snoc_end {α : Type} (l : List α) (x z : α) {i : Nat} (h : i = l.length) : (l ++ [x]).getD i z = x := by
  subst h; rw [List.getD_eq_getElem?_getD, List.getElem?_append_right (Nat.le_refl _)]; simp
/-- The cells of a row of rows are one cell each. -/
theorem rw_one {G : Nat → Prop} {w : World} {us : List Value} {T : List Prs} (hl : us.length = T.length) (h : ∀ i, i < T.length → SlXP G w (us.getD i undef) (T.getD i [])) : ∀ u ∈ us, u.oneCell' = true := by
  intro u hu
  obtain ⟨i, hi, rfl⟩ := List.mem_iff_getElem.1 hu
  obtain ⟨a, c, e⟩ := (h i (by omega)).1.form
  rw [List.getD_eq_getElem?_getD, List.getElem?_eq_getElem hi] at e
  simp only [Option.getD_some] at e
  rw [e]; rfl
theorem bk_push {G : Nat → Prop} {w w1 : World} {N : Prs} {T : List Prs} {us : List Value} {v v9 : Value} {base Y : Nat} (hG : ∀ j, G j → j < w.heap.size) (hb : Below w.heap.size w w1) (hv : SlXP G w v N)
    (hu : ∀ i, i < T.reverse.length → SlXP G w (us.getD i undef) (T.reverse.getD i [])) (hl : us.length = T.length) (o : w1.ownsRow base 26 1 v9 (T.length + 1) (us ++ [v])) (hY : w.heap.size ≤ Y) (hYb : Y < base) (p q : Value) :
    BkX G ((w1.setCell ⟨Y, 0, none⟩ p).setCell ⟨Y, 1, none⟩ q) (.agg #[v, v9]) (N, N :: T) ∧ Below w.heap.size w ((w1.setCell ⟨Y, 0, none⟩ p).setCell ⟨Y, 1, none⟩ q) := by
  have t2 := turn_set2 (F := fun j => j = Y) (Turn.refl _ w1) (Or.inl rfl) p q
  have hbe := hb.trans (t2.below (fun k e => by omega) hb.size)
  have hlr : T.reverse.length = T.length := List.length_reverse
  refine ⟨⟨v, v9, rfl, hv.below hbe, us ++ [v], ?_, fun i hi => ?_, fun _ b hq => ?_⟩, hbe⟩
  · show SlC _ v9 1 (N :: T).reverse.length _
    rw [List.length_reverse, List.length_cons]
    exact slc_turn (ownsRow_slc o) t2 fun _ b hq e => by have := (World.ownsRow.lt o b hq).1; omega
  · rw [show (N, N :: T).2.reverse = T.reverse ++ [N] from List.reverse_cons] at hi ⊢
    rw [List.length_append, List.length_singleton] at hi
    by_cases h : i < T.length
    · rw [getD_snoc_lt _ _ _ (by omega), getD_snoc_lt _ _ _ (by omega)]
      exact (hu i (by omega)).below hbe
    · rw [getD_snoc_end _ _ _ (by omega), getD_snoc_end _ _ _ (by omega)]
      exact hv.below hbe
  · have hlt := World.ownsRow.lt o b hq
    exact ⟨Nat.lt_of_lt_of_le hlt.2 t2.size, fun r => by have := hG b r; omega⟩
/-- The last row is let go. -/
theorem rw_pop {G : Nat → Prop} {w : World} {ua : Option Addr} {uc : Nat} {t : Prs} {T : List Prs} (h : RwX G w (.slice ua (T.length + 1) uc) (t :: T).reverse) :
    RwX G w (.slice ua T.length uc) T.reverse ∧ T.length + 1 ≤ uc ∧ ∃ ub uo ta tc, ua = some ⟨ub, uo, none⟩ ∧ w.cell? ⟨ub, uo + T.length, none⟩ = some (.slice ta t.length tc) ∧ SlXP G w (.slice ta t.length tc) t := by
  obtain ⟨us, h1, h2, h3⟩ := h
  rw [List.reverse_cons] at h1 h2 h3
  have hlr : T.reverse.length = T.length := List.length_reverse
  have hla : (T.reverse ++ [t]).length = T.length + 1 := by rw [List.length_append, List.length_singleton, hlr]
  have hlus : us.length = T.length + 1 := by obtain ⟨_, _, _, _, _, h4, _⟩ := h1; omega
  rw [hla] at h1
  have hk := SlC.take h1 (k := T.length) (Nat.le_succ _)
  rw [Nat.mul_one] at hk
  refine ⟨⟨us.take T.length, by rw [hlr]; exact hk, fun i hi => ?_, fun h0 b hb => h3 (by omega) b (by revert hb; cases ua <;> exact id)⟩, ?_, ?_⟩
  · have := h2 i (by omega)
    rw [getD_snoc_lt _ _ _ hi] at this
    rw [List.getD_eq_getElem?_getD, List.getElem?_take_of_lt (by omega), ← List.getD_eq_getElem?_getD]
    exact this
  · obtain ⟨_, _, e, h4, _⟩ := h1
    cases e; exact h4
  · obtain ⟨_, _, e, h4, _, _, h5⟩ := h1
    cases e
    obtain ⟨b, off, rfl, hc⟩ := h5 T.length (by omega)
    have hx := h2 T.length (by omega)
    rw [getD_snoc_end _ _ _ hlr.symm] at hx
    obtain ⟨ta, tc, e⟩ := hx.1.form
    rw [List.getD_eq_getElem?_getD, List.getElem?_eq_getElem (by omega)] at e hx
    simp only [Option.getD_some] at e hx
    refine ⟨b, off, ta, tc, rfl, ?_, by rw [e] at hx; exact hx⟩
    rw [hc, List.getElem?_eq_getElem (by omega), e]
set_option maxHeartbeats 4000000 in
theorem r16begin {w : World} {x : Value} {s : USt} (G : Nat → Prop) (hG : ∀ j, G j → j < w.heap.size) (h : BkX G w x s) (h64 : s.2.length ≤ 64) :
    Calls Try.prog 24 #[x] w fun e w' => ∃ x', e = .returned (.tuple #[x', .int .i64 (ubeginE s)]) ∧ BkX G w' x' (ubegin s) ∧ Below w.heap.size w w' := by
  obtain ⟨v, u, rfl, hv, hu⟩ := h
  obtain ⟨a, c, rfl⟩ := hv.1.form
  obtain ⟨ua, uc, hue⟩ := hu.form
  rw [List.length_reverse] at hue
  subst hue
  have hb2 := below2 w (.cells #[.slice a s.1.length c, .slice ua s.2.length uc] 29) (.cells #[.slice none 0 0, .slice none 0 0] 29)
  have X0 := (Ow2.new w (.slice a s.1.length c) (.slice ua s.2.length uc) 29).alloc (.cells #[.slice none 0 0, .slice none 0 0] 29)
  have Y0 := Ow2.new2 w (.cells #[.slice a s.1.length c, .slice ua s.2.length uc] 29) (.slice none 0 0) (.slice none 0 0) 29
  have HU := Lib.hid hu
  have HV := Lib.hid hv
  have HG := Lib.hid hG
  unfold ubeginE ubegin
  by_cases hs : s.2.length = 64
  · rw [if_pos hs, if_pos hs]
    have g0 : decide ((64 : Int) ≤ (s.2.length : Int)) = true := decide_eq_true (by omega)
    have g1 : decide (64 ≤ s.2.length) = true := decide_eq_true (by omega)
    clear hu hv hG hs h64
    have hbe := below2 w (.cells #[.slice a s.1.length c, .slice ua s.2.length uc] 29) (.cells #[.slice a s.1.length c, .slice ua s.2.length uc] 29)
    obtain ⟨⟨o0, o1, _⟩, _, _⟩ := Ow2.new2 w (.cells #[.slice a s.1.length c, .slice ua s.2.length uc] 29) (.slice a s.1.length c) (.slice ua s.2.length uc) 29
    clear X0 Y0 hb2
    go_enter Try.func24, Try.ntmps24
    go_wp2_with fail
    exact bodyPost_ret (v := .tuple #[.agg #[.slice a s.1.length c, .slice ua s.2.length uc], .int .i64 3]) (by simp [results, Try.results24, go_sem, o0, o1]) rfl ⟨_, rfl, ⟨_, _, rfl, HV.out.below hbe, HU.out.below hbe⟩, hbe⟩
  · rw [if_neg hs, if_neg hs]
    have g0 : decide ((64 : Int) ≤ (s.2.length : Int)) = false := decide_eq_false (by omega)
    have g1 : decide (64 ≤ s.2.length) = false := decide_eq_false (by omega)
    obtain ⟨us, hu1, hu2, _⟩ := hu
    rw [List.length_reverse] at hu1
    have hl : us.length = s.2.length := by obtain ⟨_, _, _, _, _, h4, _⟩ := hu1; omega
    have HU1 := Lib.hid hu1; have HU2 := Lib.hid hu2; have HLU := Lib.hid hl
    have H1 := Lib.hid (rw_one (by rw [List.length_reverse]; exact hl) hu2)
    have H64 := Lib.hid h64
    clear hv hG hs h64 hu1 hu2 hl
    go_enter Try.func24, Try.ntmps24
    go_wp2_with fail
    generalize hW : (w.alloc (.cells #[.slice a s.1.length c, .slice ua s.2.length uc] 29)).alloc (.cells #[.slice none 0 0, .slice none 0 0] 29) = W at *
    clear hW
    have HX := Lib.hid X0.1
    have HY := Lib.hid Y0
    obtain ⟨⟨x0, x1, x2⟩, x3, x4⟩ := X0
    have hws : w.heap.size + 2 ≤ W.heap.size := Y0.1.2.2
    have HB2 := Lib.hid hb2
    clear Y0 hb2 x3 x4
    go_wp2_with fail
    have hS := And.intro x0 x1
    refine wp_region_held_drew (S := fun wz => wz.cell? ⟨w.heap.size, 0, none⟩ = some (.slice a s.1.length c) ∧ wz.cell? ⟨w.heap.size, 1, none⟩ = some (.slice ua s.2.length uc)) (by kernel_rfl) hS (fun hHeld => ?_)
    refine wpAnyH_take (i := 0) (v := ?_) rfl (by kernel_rfl) (by kernel_rfl) (by kernel_rfl) (fun _ _ _ h => h) (Or.inl ⟨by rfl, ?y0⟩) (by assumption) ?_
    case y0 => intro w hSw; (try dsimp only at hSw); go_simp; (try with_reducible rfl)
    (try simp only [Act.put, List.setIfInBounds_toArray, List.set_cons_zero, List.set_cons_succ, List.getElem_toArray, List.getElem_cons_zero, List.getElem_cons_succ])
    refine wpAnyH_take (i := 1) (v := ?_) rfl (by kernel_rfl) (by kernel_rfl) (by kernel_rfl) (fun _ _ _ h => h) (Or.inl ⟨by rfl, ?y1⟩) (by assumption) ?_
    case y1 => intro w hSw; (try dsimp only at hSw); go_simp; (try with_reducible rfl)
    (try simp only [Act.put, List.setIfInBounds_toArray, List.set_cons_zero, List.set_cons_succ, List.getElem_toArray, List.getElem_cons_zero, List.getElem_cons_succ])
    refine wpAnyH_take (i := 3) (v := ?_) rfl (by kernel_rfl) (by kernel_rfl) (by kernel_rfl) (fun _ _ _ h => h) (Or.inl ⟨by rfl, ?y3⟩) (by assumption) ?_
    case y3 => intro w hSw; (try dsimp only at hSw); go_simp; (try with_reducible rfl)
    (try simp only [Act.put, List.setIfInBounds_toArray, List.set_cons_zero, List.set_cons_succ, List.getElem_toArray, List.getElem_cons_zero, List.getElem_cons_succ])
    refine wpAnyH_take (i := 4) (v := ?_) rfl (by kernel_rfl) (by kernel_rfl) (by kernel_rfl) (fun _ _ _ h => h) (Or.inl ⟨by rfl, ?y4⟩) (by assumption) ?_
    case y4 => intro w hSw; (try dsimp only at hSw); go_simp; (try with_reducible rfl)
    (try simp only [Act.put, List.setIfInBounds_toArray, List.set_cons_zero, List.set_cons_succ, List.getElem_toArray, List.getElem_cons_zero, List.getElem_cons_succ])
    refine wpAnyH_take (i := 6) (v := ?_) rfl (by kernel_rfl) (by kernel_rfl) (by kernel_rfl) (fun _ _ _ h => h) (Or.inl ⟨by rfl, ?y6⟩) (by assumption) ?_
    case y6 => intro w hSw; (try dsimp only at hSw); go_simp; (try with_reducible rfl)
    (try simp only [Act.put, List.setIfInBounds_toArray, List.set_cons_zero, List.set_cons_succ, List.getElem_toArray, List.getElem_cons_zero, List.getElem_cons_succ])
    refine wpAnyH_take (i := 7) (v := ?_) rfl (by kernel_rfl) (by kernel_rfl) (by kernel_rfl) (fun _ _ _ h => h) (Or.inl ⟨by rfl, ?y7⟩) (by assumption) ?_
    case y7 => intro w hSw; (try dsimp only at hSw); go_simp; (try with_reducible rfl)
    (try simp only [Act.put, List.setIfInBounds_toArray, List.set_cons_zero, List.set_cons_succ, List.getElem_toArray, List.getElem_cons_zero, List.getElem_cons_succ])
    refine wpAnyH_ready (rs := [2, 8]) (by kernel_rfl) (by simp) ?_
    refine AllReadyH.cons rfl (fun KK hKK => ?_) (AllReadyH.cons rfl (fun KK hKK => ?_) AllReadyH.nil)
    · skip
      go_simp
      have be := (below1 W (.cells #[] 26)).drew
      have hoe := (lit_e W W.heap.size (Nat.le_refl _)).drew
      have hXq := HX.out.below (be)
      refine hKK.out _ _ ⟨hXq.1, hXq.2.1⟩ (fun hHeld => ?_)
      clear hKK KK hXq
      (try simp only [Act.put, List.setIfInBounds_toArray, List.set_cons_zero, List.set_cons_succ, List.getElem_toArray, List.getElem_cons_zero, List.getElem_cons_succ])
      generalize hP : (W.alloc (.cells #[] 26)).drew = P at *
      have hPs : P.heap.size = W.heap.size + 1 := by rw [← hP]; simp
      clear hP
      refine wpAnyH_ready (rs := [5, 8]) (by kernel_rfl) (by simp) ?_
      refine AllReadyH.cons rfl (fun KK hKK => ?_) (AllReadyH.cons rfl (fun KK hKK => ?_) AllReadyH.nil)
      · skip
        refine step_app rfl (.tmp 11) (.tmp 13) 27 rfl W.heap.size 26 1 24 (.slice none 0 0) Try.underlying27 rows_info16 rfl (by decide) (.slice (some ⟨W.heap.size, 0, none⟩) 0 0) 0 [] (by simp [Act.eval, Act.put]) hoe (.slice ua s.2.length uc) s.2.length us (by simp [Act.eval, Act.put]) (HU1.out.below (HB2.out.trans (Below.mono (be) HB2.out.size))) H1.out (by have := H64.out; omega) (by decide) (Below.size (be)) ?_
        intro v5 w5 own5 hb5 hg5
        rw [Nat.zero_add, List.nil_append] at own5
        have B5 := Lib.hid (Below.trans (be) hb5)
        have hXq := HX.out.below (B5.out)
        refine hKK.out _ _ ⟨hXq.1, hXq.2.1⟩ (fun hHeld => ?_)
        clear hKK KK hXq
        (try simp only [Act.put, List.setIfInBounds_toArray, List.set_cons_zero, List.set_cons_succ, List.getElem_toArray, List.getElem_cons_zero, List.getElem_cons_succ])
        refine wpAnyH_ready (rs := [8]) (by kernel_rfl) (by simp) ?_
        refine AllReadyH.cons rfl (fun KK hKK => ?_) AllReadyH.nil
        go_simp
        have bo := below1 w5 (.cells #[.slice a s.1.length c] 26)
        have hXq := HX.out.below (B5.out.trans (bo.mono B5.out.size))
        refine hKK.out _ _ ⟨hXq.1, hXq.2.1⟩ (fun hHeld => ?_)
        clear hKK KK hXq
        (try simp only [Act.put, List.setIfInBounds_toArray, List.set_cons_zero, List.set_cons_succ, List.getElem_toArray, List.getElem_cons_zero, List.getElem_cons_succ])
        refine wpAnyH_ready (rs := [9]) (by kernel_rfl) (by simp) ?_
        refine AllReadyH.cons rfl (fun KK hKK => ?_) AllReadyH.nil
        refine step_app rfl (.tmp 14) (.tmp 17) 27 rfl W.heap.size 26 1 24 (.slice none 0 0) Try.underlying27 rows_info16 rfl (by decide) v5 s.2.length us (by simp [Act.eval, Act.put]) (own5.alloc _) (.slice (some ⟨w5.heap.size, 0, none⟩) 1 1) 1 [.slice a s.1.length c] (by simp [Act.eval, Act.put]) (one_v w5 (.slice a s.1.length c)) (by intro u hu; simp at hu; subst hu; rfl) (by have := H64.out; omega) (by decide) (Below.size (B5.out.trans (bo.mono B5.out.size))) ?_
        intro v9 w9 own9 hb9 hg9
        have B9 := Lib.hid (Below.trans (B5.out.trans (bo.mono B5.out.size)) hb9)
        obtain ⟨a9, c9, rfl⟩ := (ownsRow_slc own9).form
        obtain ⟨⟨y0, y1, y2⟩, y3, y4⟩ := HY.out.below B9.out
        have hfin := bk_push HG.out (HB2.out.trans (B9.out.mono HB2.out.size)) HV.out HU2.out HLU.out own9 (Nat.le_succ _) (by omega) (.slice a s.1.length c) (.slice a9 (s.2.length + 1) c9)
        obtain ⟨o0, o1, _⟩ := At2.put (w := w9) (k := w.heap.size + 1) (a := .slice a s.1.length c) (b := .slice a9 (s.2.length + 1) c9) ⟨y0, y1, y2⟩
        have hX9 := HX.out.below B9.out
        have hX8 := hX9.setne (k := w.heap.size + 1) (a := .slice a s.1.length c) (b := .slice a9 (s.2.length + 1) c9) (by omega)
        refine hKK.out _ _ ⟨hX9.1, hX9.2.1⟩ (fun hHeld => ?_)
        clear hKK KK own9
        (try simp only [Act.put, List.setIfInBounds_toArray, List.set_cons_zero, List.set_cons_succ, List.getElem_toArray, List.getElem_cons_zero, List.getElem_cons_succ])
        refine wpAnyH_take (i := 10) (v := ?_) rfl (by kernel_rfl) (by kernel_rfl) (by kernel_rfl) (fun _ _ _ h => h) (Or.inl ⟨by rfl, ?y10⟩) (by assumption) ?_
        case y10 => intro w hSw; (try dsimp only at hSw); go_simp; (try with_reducible rfl)
        (try simp only [Act.put, List.setIfInBounds_toArray, List.set_cons_zero, List.set_cons_succ, List.getElem_toArray, List.getElem_cons_zero, List.getElem_cons_succ])
        refine wpAnyH_ready (rs := [11]) (by kernel_rfl) (by simp) ?_
        refine AllReadyH.cons rfl (fun KK hKK => ?_) AllReadyH.nil
        go_simp
        refine hKK.out _ _ ⟨hX8.1, hX8.2.1⟩ (fun hHeld => ?_)
        clear hKK KK
        (try simp only [Act.put, List.setIfInBounds_toArray, List.set_cons_zero, List.set_cons_succ, List.getElem_toArray, List.getElem_cons_zero, List.getElem_cons_succ])
        refine wpAnyH_take (i := 12) (v := ?_) rfl (by kernel_rfl) (by kernel_rfl) (by kernel_rfl) (fun _ _ _ h => h) (Or.inl ⟨by rfl, ?y12⟩) (by assumption) ?_
        case y12 => intro w hSw; (try dsimp only at hSw); go_simp; (try with_reducible rfl)
        (try simp only [Act.put, List.setIfInBounds_toArray, List.set_cons_zero, List.set_cons_succ, List.getElem_toArray, List.getElem_cons_zero, List.getElem_cons_succ])
        refine wpAnyH_done (by kernel_rfl) ?_ _
        go_wp2_with fail
        refine bodyPost_ret (v := .tuple #[.agg #[.slice a s.1.length c, .slice a9 (s.2.length + 1) c9], .int .i64 0]) (by simp [results, Try.results24, go_sem, o0, o1]) rfl ?_
        exact ⟨_, rfl, hfin⟩
      · skip
        go_simp
        have bo := below1 P (.cells #[.slice a s.1.length c] 26)
        have hov := one_v P (.slice a s.1.length c)
        have hXq := HX.out.below (be.trans (bo.mono be.size))
        refine hKK.out _ _ ⟨hXq.1, hXq.2.1⟩ (fun hHeld => ?_)
        clear hKK KK hXq
        (try simp only [Act.put, List.setIfInBounds_toArray, List.set_cons_zero, List.set_cons_succ, List.getElem_toArray, List.getElem_cons_zero, List.getElem_cons_succ])
        refine wpAnyH_ready (rs := [5]) (by kernel_rfl) (by simp) ?_
        refine AllReadyH.cons rfl (fun KK hKK => ?_) AllReadyH.nil
        refine step_app rfl (.tmp 11) (.tmp 13) 27 rfl W.heap.size 26 1 24 (.slice none 0 0) Try.underlying27 rows_info16 rfl (by decide) (.slice (some ⟨W.heap.size, 0, none⟩) 0 0) 0 [] (by simp [Act.eval, Act.put]) (hoe.alloc _) (.slice ua s.2.length uc) s.2.length us (by simp [Act.eval, Act.put]) (HU1.out.below (HB2.out.trans (Below.mono (be.trans (bo.mono be.size)) HB2.out.size))) H1.out (by have := H64.out; omega) (by decide) (Below.size (be.trans (bo.mono be.size))) ?_
        intro v5 w5 own5 hb5 hg5
        rw [Nat.zero_add, List.nil_append] at own5
        have B5 := Lib.hid (Below.trans (be.trans (bo.mono be.size)) hb5)
        have hov2 := hov.grown hg5 (by intro q hq; simp [Value.ownBlock] at hq ⊢; omega)
        have hXq := HX.out.below (B5.out)
        refine hKK.out _ _ ⟨hXq.1, hXq.2.1⟩ (fun hHeld => ?_)
        clear hKK KK hXq
        (try simp only [Act.put, List.setIfInBounds_toArray, List.set_cons_zero, List.set_cons_succ, List.getElem_toArray, List.getElem_cons_zero, List.getElem_cons_succ])
        refine wpAnyH_ready (rs := [9]) (by kernel_rfl) (by simp) ?_
        refine AllReadyH.cons rfl (fun KK hKK => ?_) AllReadyH.nil
        refine step_app rfl (.tmp 14) (.tmp 17) 27 rfl W.heap.size 26 1 24 (.slice none 0 0) Try.underlying27 rows_info16 rfl (by decide) v5 s.2.length us (by simp [Act.eval, Act.put]) own5 (.slice (some ⟨P.heap.size, 0, none⟩) 1 1) 1 [.slice a s.1.length c] (by simp [Act.eval, Act.put]) hov2 (by intro u hu; simp at hu; subst hu; rfl) (by have := H64.out; omega) (by decide) (Below.size (B5.out)) ?_
        intro v9 w9 own9 hb9 hg9
        have B9 := Lib.hid (Below.trans (B5.out) hb9)
        obtain ⟨a9, c9, rfl⟩ := (ownsRow_slc own9).form
        obtain ⟨⟨y0, y1, y2⟩, y3, y4⟩ := HY.out.below B9.out
        have hfin := bk_push HG.out (HB2.out.trans (B9.out.mono HB2.out.size)) HV.out HU2.out HLU.out own9 (Nat.le_succ _) (by omega) (.slice a s.1.length c) (.slice a9 (s.2.length + 1) c9)
        obtain ⟨o0, o1, _⟩ := At2.put (w := w9) (k := w.heap.size + 1) (a := .slice a s.1.length c) (b := .slice a9 (s.2.length + 1) c9) ⟨y0, y1, y2⟩
        have hX9 := HX.out.below B9.out
        have hX8 := hX9.setne (k := w.heap.size + 1) (a := .slice a s.1.length c) (b := .slice a9 (s.2.length + 1) c9) (by omega)
        refine hKK.out _ _ ⟨hX9.1, hX9.2.1⟩ (fun hHeld => ?_)
        clear hKK KK own9
        (try simp only [Act.put, List.setIfInBounds_toArray, List.set_cons_zero, List.set_cons_succ, List.getElem_toArray, List.getElem_cons_zero, List.getElem_cons_succ])
        refine wpAnyH_take (i := 10) (v := ?_) rfl (by kernel_rfl) (by kernel_rfl) (by kernel_rfl) (fun _ _ _ h => h) (Or.inl ⟨by rfl, ?y10⟩) (by assumption) ?_
        case y10 => intro w hSw; (try dsimp only at hSw); go_simp; (try with_reducible rfl)
        (try simp only [Act.put, List.setIfInBounds_toArray, List.set_cons_zero, List.set_cons_succ, List.getElem_toArray, List.getElem_cons_zero, List.getElem_cons_succ])
        refine wpAnyH_ready (rs := [11]) (by kernel_rfl) (by simp) ?_
        refine AllReadyH.cons rfl (fun KK hKK => ?_) AllReadyH.nil
        go_simp
        refine hKK.out _ _ ⟨hX8.1, hX8.2.1⟩ (fun hHeld => ?_)
        clear hKK KK
        (try simp only [Act.put, List.setIfInBounds_toArray, List.set_cons_zero, List.set_cons_succ, List.getElem_toArray, List.getElem_cons_zero, List.getElem_cons_succ])
        refine wpAnyH_take (i := 12) (v := ?_) rfl (by kernel_rfl) (by kernel_rfl) (by kernel_rfl) (fun _ _ _ h => h) (Or.inl ⟨by rfl, ?y12⟩) (by assumption) ?_
        case y12 => intro w hSw; (try dsimp only at hSw); go_simp; (try with_reducible rfl)
        (try simp only [Act.put, List.setIfInBounds_toArray, List.set_cons_zero, List.set_cons_succ, List.getElem_toArray, List.getElem_cons_zero, List.getElem_cons_succ])
        refine wpAnyH_done (by kernel_rfl) ?_ _
        go_wp2_with fail
        refine bodyPost_ret (v := .tuple #[.agg #[.slice a s.1.length c, .slice a9 (s.2.length + 1) c9], .int .i64 0]) (by simp [results, Try.results24, go_sem, o0, o1]) rfl ?_
        exact ⟨_, rfl, hfin⟩
    · skip
      go_simp
      have bo := (below1 W (.cells #[.slice a s.1.length c] 26)).drew
      have hov := SlC.drew (one_v W (.slice a s.1.length c))
      have hXq := HX.out.below (bo)
      refine hKK.out _ _ ⟨hXq.1, hXq.2.1⟩ (fun hHeld => ?_)
      clear hKK KK hXq
      (try simp only [Act.put, List.setIfInBounds_toArray, List.set_cons_zero, List.set_cons_succ, List.getElem_toArray, List.getElem_cons_zero, List.getElem_cons_succ])
      generalize hP : (W.alloc (.cells #[.slice a s.1.length c] 26)).drew = P at *
      have hPs : P.heap.size = W.heap.size + 1 := by rw [← hP]; simp
      clear hP
      refine wpAnyH_ready (rs := [2]) (by kernel_rfl) (by simp) ?_
      refine AllReadyH.cons rfl (fun KK hKK => ?_) AllReadyH.nil
      go_simp
      have be := below1 P (.cells #[] 26)
      have hoe := lit_e P W.heap.size bo.size
      have hXq := HX.out.below (bo.trans (be.mono bo.size))
      refine hKK.out _ _ ⟨hXq.1, hXq.2.1⟩ (fun hHeld => ?_)
      clear hKK KK hXq
      (try simp only [Act.put, List.setIfInBounds_toArray, List.set_cons_zero, List.set_cons_succ, List.getElem_toArray, List.getElem_cons_zero, List.getElem_cons_succ])
      refine wpAnyH_ready (rs := [5]) (by kernel_rfl) (by simp) ?_
      refine AllReadyH.cons rfl (fun KK hKK => ?_) AllReadyH.nil
      refine step_app rfl (.tmp 11) (.tmp 13) 27 rfl W.heap.size 26 1 24 (.slice none 0 0) Try.underlying27 rows_info16 rfl (by decide) (.slice (some ⟨P.heap.size, 0, none⟩) 0 0) 0 [] (by simp [Act.eval, Act.put]) hoe (.slice ua s.2.length uc) s.2.length us (by simp [Act.eval, Act.put]) (HU1.out.below (HB2.out.trans (Below.mono (bo.trans (be.mono bo.size)) HB2.out.size))) H1.out (by have := H64.out; omega) (by decide) (Below.size (bo.trans (be.mono bo.size))) ?_
      intro v5 w5 own5 hb5 hg5
      rw [Nat.zero_add, List.nil_append] at own5
      have B5 := Lib.hid (Below.trans (bo.trans (be.mono bo.size)) hb5)
      have hov2 := (hov.alloc _).grown hg5 (by intro q hq; simp [Value.ownBlock] at hq ⊢; omega)
      have hXq := HX.out.below (B5.out)
      refine hKK.out _ _ ⟨hXq.1, hXq.2.1⟩ (fun hHeld => ?_)
      clear hKK KK hXq
      (try simp only [Act.put, List.setIfInBounds_toArray, List.set_cons_zero, List.set_cons_succ, List.getElem_toArray, List.getElem_cons_zero, List.getElem_cons_succ])
      refine wpAnyH_ready (rs := [9]) (by kernel_rfl) (by simp) ?_
      refine AllReadyH.cons rfl (fun KK hKK => ?_) AllReadyH.nil
      refine step_app rfl (.tmp 14) (.tmp 17) 27 rfl W.heap.size 26 1 24 (.slice none 0 0) Try.underlying27 rows_info16 rfl (by decide) v5 s.2.length us (by simp [Act.eval, Act.put]) own5 (.slice (some ⟨W.heap.size, 0, none⟩) 1 1) 1 [.slice a s.1.length c] (by simp [Act.eval, Act.put]) hov2 (by intro u hu; simp at hu; subst hu; rfl) (by have := H64.out; omega) (by decide) (Below.size (B5.out)) ?_
      intro v9 w9 own9 hb9 hg9
      have B9 := Lib.hid (Below.trans (B5.out) hb9)
      obtain ⟨a9, c9, rfl⟩ := (ownsRow_slc own9).form
      obtain ⟨⟨y0, y1, y2⟩, y3, y4⟩ := HY.out.below B9.out
      have hfin := bk_push HG.out (HB2.out.trans (B9.out.mono HB2.out.size)) HV.out HU2.out HLU.out own9 (Nat.le_succ _) (by omega) (.slice a s.1.length c) (.slice a9 (s.2.length + 1) c9)
      obtain ⟨o0, o1, _⟩ := At2.put (w := w9) (k := w.heap.size + 1) (a := .slice a s.1.length c) (b := .slice a9 (s.2.length + 1) c9) ⟨y0, y1, y2⟩
      have hX9 := HX.out.below B9.out
      have hX8 := hX9.setne (k := w.heap.size + 1) (a := .slice a s.1.length c) (b := .slice a9 (s.2.length + 1) c9) (by omega)
      refine hKK.out _ _ ⟨hX9.1, hX9.2.1⟩ (fun hHeld => ?_)
      clear hKK KK own9
      (try simp only [Act.put, List.setIfInBounds_toArray, List.set_cons_zero, List.set_cons_succ, List.getElem_toArray, List.getElem_cons_zero, List.getElem_cons_succ])
      refine wpAnyH_take (i := 10) (v := ?_) rfl (by kernel_rfl) (by kernel_rfl) (by kernel_rfl) (fun _ _ _ h => h) (Or.inl ⟨by rfl, ?y10⟩) (by assumption) ?_
      case y10 => intro w hSw; (try dsimp only at hSw); go_simp; (try with_reducible rfl)
      (try simp only [Act.put, List.setIfInBounds_toArray, List.set_cons_zero, List.set_cons_succ, List.getElem_toArray, List.getElem_cons_zero, List.getElem_cons_succ])
      refine wpAnyH_ready (rs := [11]) (by kernel_rfl) (by simp) ?_
      refine AllReadyH.cons rfl (fun KK hKK => ?_) AllReadyH.nil
      go_simp
      refine hKK.out _ _ ⟨hX8.1, hX8.2.1⟩ (fun hHeld => ?_)
      clear hKK KK
      (try simp only [Act.put, List.setIfInBounds_toArray, List.set_cons_zero, List.set_cons_succ, List.getElem_toArray, List.getElem_cons_zero, List.getElem_cons_succ])
      refine wpAnyH_take (i := 12) (v := ?_) rfl (by kernel_rfl) (by kernel_rfl) (by kernel_rfl) (fun _ _ _ h => h) (Or.inl ⟨by rfl, ?y12⟩) (by assumption) ?_
      case y12 => intro w hSw; (try dsimp only at hSw); go_simp; (try with_reducible rfl)
      (try simp only [Act.put, List.setIfInBounds_toArray, List.set_cons_zero, List.set_cons_succ, List.getElem_toArray, List.getElem_cons_zero, List.getElem_cons_succ])
      refine wpAnyH_done (by kernel_rfl) ?_ _
      go_wp2_with fail
      refine bodyPost_ret (v := .tuple #[.agg #[.slice a s.1.length c, .slice a9 (s.2.length + 1) c9], .int .i64 0]) (by simp [results, Try.results24, go_sem, o0, o1]) rfl ?_
      exact ⟨_, rfl, hfin⟩
end Go.Proofs.Ytmhfgkkiplencaa
