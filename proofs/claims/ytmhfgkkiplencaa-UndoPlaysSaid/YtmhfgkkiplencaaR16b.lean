/-
  The document's Get of layer 16. The condition: the rows' lengths.
-/
import Derived.Test.YtmhfgkkiplencaaR16a
namespace Go.Proofs.Ytmhfgkkiplencaa
open Go.RowKit
set_option linter.unusedSimpArgs false
set_option linter.unusedVariables false

theorem ulk_drop {L : Prs} {n : Nat} (h : n < L.length) (k : Int) : ulk (L.drop n) k = if (L.getD n (0, 0)).1 = k then some (L.getD n (0, 0)).2 else ulk (L.drop (n + 1)) k := by
  rw [List.drop_eq_getElem_cons h, ulk, List.getD_eq_getElem?_getD, List.getElem?_eq_getElem h]; rfl
set_option maxHeartbeats 2000000 in
theorem r16get (v u : Value) (L : Prs) (k : Int) (w : World) (hv : SlP w v L) (hu : ∃ a n c, u = .slice a n c) (hn : L.length ≤ 1000000) :
    Calls Try.prog 11 #[.agg #[v, u], .int .i64 k] w fun e w' => e = .returned (.tuple #[.int .i64 ((ulk L k).getD 0), .bool (ulk L k).isSome]) ∧ Below w.heap.size w w' := by
  obtain ⟨a, c, rfl⟩ := hv.form
  obtain ⟨ua, un, uc, rfl⟩ := hu
  have hb0 := below1 w (.cells #[.slice a L.length c, .slice ua un uc] 29)
  have HX := Lib.hid (At2.new w (.slice a L.length c) (.slice ua un uc) 29)
  have HL := Lib.hid (hv.below hb0)
  clear hv
  go_enter Try.func11, Try.ntmps11
  go_wp2_with fail
  generalize hW : w.alloc (.cells #[.slice a L.length c, .slice ua un uc] 29) = W at *
  clear hW
  go_loopw [6] (fun i wr => ∃ n : Nat, n ≤ L.length ∧ i = .int .i64 (n : Int) ∧ ulk L k = ulk (L.drop n) k ∧ Below W.heap.size W wr) (fun i _ => L.length - (intOf i).toNat)
  case atStart => exact ⟨0, Nat.zero_le _, rfl, rfl, Below.refl _ _⟩
  case round =>
    obtain ⟨n, hk, rfl, hq, hb⟩ := hrel
    obtain ⟨x0, x1, x2⟩ := HX.out.below hb
    by_cases hlt : n < L.length
    · obtain ⟨b, off, rfl, hc, hd⟩ := (HL.out.below hb).cell n hlt
      have i0 : (0 : Int) ≤ (n : Int) := by omega
      have i1 : (n : Int) < (L.length : Int) := by omega
      rw [ulk_drop hlt] at hq
      generalize hz : L.getD n (0, 0) = z at *
      obtain ⟨p, q⟩ := z
      have HLT := Lib.hid hlt
      have HB := Lib.hid hb
      have HB0 := Lib.hid hb0
      by_cases hpk : p = k
      · rw [if_pos hpk] at hq
        have HQ := Lib.hid hq
        have e0 : (p == k) = true := by simp [hpk]
        clear hq hpk hz hk hlt hb hb0
        go_wp2_with fail
        go_ret2
        exact ⟨by rw [HQ.out]; rfl, HB0.out.trans (HB.out.mono HB0.out.size)⟩
      · rw [if_neg hpk] at hq
        have HQ := Lib.hid hq
        have e0 : (p == k) = false := by simpa using hpk
        clear hq hpk hz hk hlt hb hb0
        go_wp2_with fail
        go_roundw
        · exact ⟨n + 1, HLT.out, by go_num, HQ.out, HB.out⟩
        · have := HLT.out; simp [intOf]; omega
    · obtain rfl : n = L.length := by omega
      have hd0 : decide ((L.length : Int) < (L.length : Int)) = false := decide_eq_false (by omega)
      rw [List.drop_length] at hq
      have HQ := Lib.hid hq
      have HB := Lib.hid (hb0.trans (hb.mono hb0.size))
      clear hq hb
      go_wp2_with fail
      go_ret2
      exact ⟨by rw [HQ.out]; rfl, HB.out⟩
/-- A result of a new row and what else was there. -/
theorem bk_end {G : Nat → Prop} {w w1 : World} {N : Prs} {T : List Prs} {v2 u : Value} {base Y : Nat} (hG : ∀ j, G j → j < w.heap.size) (hb : Below w.heap.size w w1) (hu : RwX G w u T.reverse) (o : w1.ownsRow base 59 2 v2 N.length (prs N)) (hY : w.heap.size ≤ Y) (hYb : Y < base) (p q : Value) :
    BkX G ((w1.setCell ⟨Y, 0, none⟩ p).setCell ⟨Y, 1, none⟩ q) (.agg #[v2, u]) (N, T) ∧ Below w.heap.size w ((w1.setCell ⟨Y, 0, none⟩ p).setCell ⟨Y, 1, none⟩ q) := by
  have t2 := turn_set2 (F := fun j => j = Y) (Turn.refl _ w1) (Or.inl rfl) p q
  have hbe := hb.trans (t2.below (fun k e => by omega) hb.size)
  refine ⟨⟨v2, u, rfl, ⟨slc_turn (ownsRow_slc o) t2 fun _ b hq e => ?_, fun _ b hq => ?_⟩, hu.below hbe⟩, hbe⟩
  · have := (World.ownsRow.lt o b hq).1; omega
  · have hl := World.ownsRow.lt o b hq
    exact ⟨Nat.lt_of_lt_of_le hl.2 t2.size, fun r => by have := hG b r; omega⟩
set_option maxHeartbeats 2000000 in
theorem r16drop {w : World} {x : Value} {s : USt} (G : Nat → Prop) (hG : ∀ j, G j → j < w.heap.size) (h : BkX G w x s) (k : Int) (hn : s.1.length ≤ 1000000) :
    Calls Try.prog 23 #[x, .int .i64 k] w fun e w' => ∃ x', e = .returned (.tuple #[x', .int .i64 (udropE s k)]) ∧ BkX G w' x' (udrop s k) ∧ Below w.heap.size w w' := by
  obtain ⟨v, u, rfl, hv, hu⟩ := h
  obtain ⟨a, c, rfl⟩ := hv.1.form
  obtain ⟨ua, uc, hue⟩ := hu.form
  rw [List.length_reverse] at hue
  subst hue
  have hb2 := below2 w (.cells #[.slice a s.1.length c, .slice ua s.2.length uc] 29) (.cells #[.slice none 0 0, .slice none 0 0] 29)
  have X0 := (Ow2.new w (.slice a s.1.length c) (.slice ua s.2.length uc) 29).alloc (.cells #[.slice none 0 0, .slice none 0 0] 29)
  have Y0 := Ow2.new2 w (.cells #[.slice a s.1.length c, .slice ua s.2.length uc] 29) (.slice none 0 0) (.slice none 0 0) 29
  have hg := r16get _ (.slice ua s.2.length uc) s.1 k _ (hv.1.below hb2) ⟨_, _, _, rfl⟩ hn
  have HWO := Lib.hid (fun W' (hb : Below w.heap.size w W') => r16wo _ s.1 k W' (hv.1.below hb) hn)
  have HU := Lib.hid hu
  have HV := Lib.hid hv
  have HG := Lib.hid hG
  unfold udropE udrop
  by_cases hs : (ulk s.1 k).isSome = true
  · rw [if_pos hs, if_pos hs]
    rw [hs] at hg
    generalize (ulk s.1 k).getD 0 = z at hg
    clear hu hv hG hs
    go_enter Try.func23, Try.ntmps23
    go_wp2_with fail
    generalize hW : (w.alloc (.cells #[.slice a s.1.length c, .slice ua s.2.length uc] 29)).alloc (.cells #[.slice none 0 0, .slice none 0 0] 29) = W at *
    clear hW
    obtain ⟨⟨x0, x1, x2⟩, x3, x4⟩ := X0
    have Y2 := Y0
    go_wp2_with fail
    refine hg.mono ?_; clear hg; rintro e w1 ⟨rfl, hb1⟩
    have X1 := (show Ow2 W w.heap.size _ _ from ⟨⟨x0, x1, x2⟩, x3, x4⟩).below hb1
    have Y1 := Lib.hid (Y0.below hb1)
    have hB1 := hb2.trans (hb1.mono hb2.size)
    clear x0 x1 x2 x3 x4 Y2 hb2
    obtain ⟨⟨x0, x1, x2⟩, x3, x4⟩ := X1
    have hS := And.intro x0 x1
    have hws : w.heap.size + 2 ≤ w1.heap.size := Y1.out.1.2.2
    go_wp2_with fail
    refine wp_region_held_drew (S := fun wz => wz.cell? ⟨w.heap.size, 0, none⟩ = some (.slice a s.1.length c) ∧ wz.cell? ⟨w.heap.size, 1, none⟩ = some (.slice ua s.2.length uc)) (by kernel_rfl) hS (fun hHeld => ?_)
    refine wpAnyH_take (i := 0) (v := ?_) rfl (by kernel_rfl) (by kernel_rfl) (by kernel_rfl) (fun _ _ _ h => h) (Or.inl ⟨by rfl, ?y0⟩) (by assumption) ?_
    case y0 => intro w hSw; (try dsimp only at hSw); go_simp; (try with_reducible rfl)
    (try simp only [Act.put, List.setIfInBounds_toArray, List.set_cons_zero, List.set_cons_succ, List.getElem_toArray, List.getElem_cons_zero, List.getElem_cons_succ])
    refine wpAnyH_take (i := 1) (v := ?_) rfl (by kernel_rfl) (by kernel_rfl) (by kernel_rfl) (fun _ _ _ h => h) (Or.inl ⟨by rfl, ?y1⟩) (by assumption) ?_
    case y1 => intro w hSw; (try dsimp only at hSw); go_simp; (try with_reducible rfl)
    (try simp only [Act.put, List.setIfInBounds_toArray, List.set_cons_zero, List.set_cons_succ, List.getElem_toArray, List.getElem_cons_zero, List.getElem_cons_succ])
    refine wpAnyH_take (i := 2) (v := ?_) rfl (by kernel_rfl) (by kernel_rfl) (by kernel_rfl) (fun _ _ _ h => h) (Or.inl ⟨by rfl, ?y2⟩) (by assumption) ?_
    case y2 => intro w hSw; (try dsimp only at hSw); go_simp; (try with_reducible rfl)
    (try simp only [Act.put, List.setIfInBounds_toArray, List.set_cons_zero, List.set_cons_succ, List.getElem_toArray, List.getElem_cons_zero, List.getElem_cons_succ])
    refine wpAnyH_take (i := 4) (v := ?_) rfl (by kernel_rfl) (by kernel_rfl) (by kernel_rfl) (fun _ _ _ h => h) (Or.inl ⟨by rfl, ?y4⟩) (by assumption) ?_
    case y4 => intro w hSw; (try dsimp only at hSw); go_simp; (try with_reducible rfl)
    (try simp only [Act.put, List.setIfInBounds_toArray, List.set_cons_zero, List.set_cons_succ, List.getElem_toArray, List.getElem_cons_zero, List.getElem_cons_succ])
    refine wpAnyH_take (i := 5) (v := ?_) rfl (by kernel_rfl) (by kernel_rfl) (by kernel_rfl) (fun _ _ _ h => h) (Or.inl ⟨by rfl, ?y5⟩) (by assumption) ?_
    case y5 => intro w hSw; (try dsimp only at hSw); go_simp; (try with_reducible rfl)
    (try simp only [Act.put, List.setIfInBounds_toArray, List.set_cons_zero, List.set_cons_succ, List.getElem_toArray, List.getElem_cons_zero, List.getElem_cons_succ])
    refine wpAnyH_ready (rs := [3]) (by kernel_rfl) (by simp) ?_
    refine AllReadyH.cons rfl (fun KK hKK => ?_) AllReadyH.nil
    go_simp
    refine (HWO.out _ (hB1.trans ((Below.refl _ _).drew))).mono ?_; rintro e w2 ⟨v2, rfl, ho, hb3⟩
    have hB2 := hB1.trans (Below.mono (Below.trans ((Below.refl w1.heap.size w1).drew) hb3) hB1.size)
    have hX2 := (show At2 w1 w.heap.size _ _ from ⟨x0, x1, x2⟩).below (Below.trans ((Below.refl w1.heap.size w1).drew) hb3)
    obtain ⟨a2, c2, rfl⟩ := (ownsRow_slc ho).form
    obtain ⟨⟨y0, y1, y2⟩, y3, y4⟩ := Y1.out.below (Below.trans ((Below.refl w1.heap.size w1).drew) hb3)
    have hfin := bk_end HG.out hB2 HU.out ho (Nat.le_succ _) (by show _ < w1.heap.size; omega) (.slice a2 (uwo s.1 k).length c2) (.slice ua s.2.length uc)
    obtain ⟨o0, o1, _⟩ := At2.put (w := w2) (k := w.heap.size + 1) (a := .slice a2 (uwo s.1 k).length c2) (b := .slice ua s.2.length uc) ⟨y0, y1, y2⟩
    have hX3 := hX2.setne (k := w.heap.size + 1) (a := .slice a2 (uwo s.1 k).length c2) (b := .slice ua s.2.length uc) (by omega)
    refine hKK.out _ _ ⟨hX2.1, hX2.2.1⟩ (fun hHeld => ?_)
    clear hKK KK
    (try simp only [Act.put, List.setIfInBounds_toArray, List.set_cons_zero, List.set_cons_succ, List.getElem_toArray, List.getElem_cons_zero, List.getElem_cons_succ])
    refine wpAnyH_take (i := 6) (v := ?_) rfl (by kernel_rfl) (by kernel_rfl) (by kernel_rfl) (fun _ _ _ h => h) (Or.inl ⟨by rfl, ?y6⟩) (by assumption) ?_
    case y6 => intro w hSw; (try dsimp only at hSw); go_simp; (try with_reducible rfl)
    (try simp only [Act.put, List.setIfInBounds_toArray, List.set_cons_zero, List.set_cons_succ, List.getElem_toArray, List.getElem_cons_zero, List.getElem_cons_succ])
    refine wpAnyH_ready (rs := [7]) (by kernel_rfl) (by simp) ?_
    refine AllReadyH.cons rfl (fun KK hKK => ?_) AllReadyH.nil
    go_simp
    refine hKK.out _ _ ⟨hX3.1, hX3.2.1⟩ (fun hHeld => ?_)
    clear hKK KK
    (try simp only [Act.put, List.setIfInBounds_toArray, List.set_cons_zero, List.set_cons_succ, List.getElem_toArray, List.getElem_cons_zero, List.getElem_cons_succ])
    refine wpAnyH_take (i := 8) (v := ?_) rfl (by kernel_rfl) (by kernel_rfl) (by kernel_rfl) (fun _ _ _ h => h) (Or.inl ⟨by rfl, ?y8⟩) (by assumption) ?_
    case y8 => intro w hSw; (try dsimp only at hSw); go_simp; (try with_reducible rfl)
    (try simp only [Act.put, List.setIfInBounds_toArray, List.set_cons_zero, List.set_cons_succ, List.getElem_toArray, List.getElem_cons_zero, List.getElem_cons_succ])
    refine wpAnyH_done (by kernel_rfl) ?_ _
    go_wp2_with fail
    refine bodyPost_ret (v := .tuple #[.agg #[.slice a2 (uwo s.1 k).length c2, .slice ua s.2.length uc], .int .i64 0]) (by simp [results, Try.results23, go_sem, o0, o1]) rfl ?_
    exact ⟨_, rfl, hfin⟩
  · rw [if_neg hs, if_neg hs]
    rw [show (ulk s.1 k).isSome = false by simpa using hs] at hg
    generalize (ulk s.1 k).getD 0 = z at hg
    clear hu hv hG hs
    go_enter Try.func23, Try.ntmps23
    go_wp2_with fail
    generalize hW : (w.alloc (.cells #[.slice a s.1.length c, .slice ua s.2.length uc] 29)).alloc (.cells #[.slice none 0 0, .slice none 0 0] 29) = W at *
    clear hW
    obtain ⟨⟨x0, x1, x2⟩, x3, x4⟩ := X0
    go_wp2_with fail
    refine hg.mono ?_; clear hg; rintro e w1 ⟨rfl, hb1⟩
    have X1 := (show Ow2 W w.heap.size _ _ from ⟨⟨x0, x1, x2⟩, x3, x4⟩).below hb1
    have hws : w.heap.size + 2 ≤ w1.heap.size := (Y0.below hb1).1.2.2
    obtain ⟨⟨y0, y1, y2⟩, y3, y4⟩ := Y0.below hb1
    have hB1 := hb2.trans (hb1.mono hb2.size)
    clear x0 x1 x2 x3 x4 hb2
    obtain ⟨⟨x0, x1, x2⟩, x3, x4⟩ := X1
    obtain ⟨o0, o1, _⟩ := At2.put (w := w1) (k := w.heap.size + 1) (a := .slice a s.1.length c) (b := .slice ua s.2.length uc) ⟨y0, y1, y2⟩
    have hbe := hB1.trans ((turn_set2 (F := fun j => j = w.heap.size + 1) (Turn.refl _ w1) (Or.inl rfl) (.slice a s.1.length c) (.slice ua s.2.length uc)).below (fun k e => by omega) hB1.size)
    go_wp2_with fail
    exact bodyPost_ret (by simp [results, Try.results23, go_sem, o0, o1]) rfl ⟨_, rfl, ⟨_, _, rfl, HV.out.below hbe, HU.out.below hbe⟩, hbe⟩
end Go.Proofs.Ytmhfgkkiplencaa
