/-
  The document's Set of layer 16. The condition: the rows' lengths.
-/
import Derived.Test.YtmhfgkkiplencaaR16b
namespace Go.Proofs.Ytmhfgkkiplencaa
open Go.RowKit
set_option linter.unusedSimpArgs false
set_option linter.unusedVariables false

theorem SlC.drew {w : World} {v : Value} {size n : Nat} {cs : List Value} (h : SlC w v size n cs) : SlC w.drew v size n cs := h.below ((Below.refl _ _).drew)
set_option maxHeartbeats 2000000 in
theorem r16set {w : World} {x : Value} {s : USt} (G : Nat → Prop) (hG : ∀ j, G j → j < w.heap.size) (h : BkX G w x s) (k y : Int) (hn : s.1.length ≤ 1000000) :
    Calls Try.prog 22 #[x, .int .i64 k, .int .i64 y] w fun e w' => ∃ x', e = .returned x' ∧ BkX G w' x' (uset s k y) ∧ Below w.heap.size w w' := by
  obtain ⟨v, u, rfl, hv, hu⟩ := h
  obtain ⟨a, c, rfl⟩ := hv.1.form
  obtain ⟨ua, uc, hue⟩ := hu.form
  rw [List.length_reverse] at hue
  subst hue
  have hb2 := below2 w (.cells #[.slice a s.1.length c, .slice ua s.2.length uc] 29) (.cells #[.slice none 0 0, .slice none 0 0] 29)
  have X0 := (Ow2.new w (.slice a s.1.length c) (.slice ua s.2.length uc) 29).alloc (.cells #[.slice none 0 0, .slice none 0 0] 29)
  have Y0 := Ow2.new2 w (.cells #[.slice a s.1.length c, .slice ua s.2.length uc] 29) (.slice none 0 0) (.slice none 0 0) 29
  have HWO := Lib.hid (fun W' (hb : Below w.heap.size w W') => r16wo _ s.1 k W' (hv.1.below hb) hn)
  have HU := Lib.hid hu
  have HG := Lib.hid hG
  have HLE : Hid ((uwo s.1 k).length ≤ 1000000) := Nat.le_trans (List.length_filter_le _ _) hn
  clear hu hv hG hn
  go_enter Try.func22, Try.ntmps22
  go_wp2_with fail
  generalize hW : (w.alloc (.cells #[.slice a s.1.length c, .slice ua s.2.length uc] 29)).alloc (.cells #[.slice none 0 0, .slice none 0 0] 29) = W at *
  clear hW
  have HX := Lib.hid X0.1
  have HY := Lib.hid Y0
  obtain ⟨⟨x0, x1, x2⟩, x3, x4⟩ := X0
  have hS := And.intro x0 x1
  have hws : w.heap.size + 2 ≤ W.heap.size := Y0.1.2.2
  have HB2 := Lib.hid hb2
  clear Y0 hb2 x3 x4
  refine wp_region_held_drew (S := fun wz => wz.cell? ⟨w.heap.size, 0, none⟩ = some (.slice a s.1.length c) ∧ wz.cell? ⟨w.heap.size, 1, none⟩ = some (.slice ua s.2.length uc)) (by kernel_rfl) hS (fun hHeld => ?_)
  refine wpAnyH_take (i := 0) (v := ?_) rfl (by kernel_rfl) (by kernel_rfl) (by kernel_rfl) (fun _ _ _ h => h) (Or.inl ⟨by rfl, ?y0⟩) (by assumption) ?_
  case y0 => intro w hSw; (try dsimp only at hSw); go_simp; (try with_reducible rfl)
  (try simp only [Act.put, List.setIfInBounds_toArray, List.set_cons_zero, List.set_cons_succ, List.getElem_toArray, List.getElem_cons_zero, List.getElem_cons_succ])
  refine wpAnyH_take (i := 1) (v := ?_) rfl (by kernel_rfl) (by kernel_rfl) (by kernel_rfl) (fun _ _ _ h => h) (Or.inl ⟨by rfl, ?y1⟩) (by assumption) ?_
  case y1 => intro w hSw; (try dsimp only at hSw); go_simp; (try with_reducible rfl)
  (try simp only [Act.put, List.setIfInBounds_toArray, List.set_cons_zero, List.set_cons_succ, List.getElem_toArray, List.getElem_cons_zero, List.getElem_cons_succ])
  refine wpAnyH_take (i := 2) (v := ?_) rfl (by kernel_rfl) (by kernel_rfl) (by kernel_rfl) (fun _ _ _ h => h) (Or.inl ⟨by rfl, ?y2⟩) (by assumption) ?_
  case y2 => intro w hSw; (try dsimp only at hSw); go_simp; (try with_reducible rfl)
  (try simp only [Act.put, List.setIfInBounds_toArray, List.set_cons_zero, List.set_cons_succ, List.getElem_toArray, List.getElem_cons_zero, List.getElem_cons_succ])
  refine wpAnyH_take (i := 4) (v := ?_) rfl (by kernel_rfl) (by kernel_rfl) (by kernel_rfl) (fun _ _ _ h => h) (Or.inl ⟨by rfl, ?y4⟩) (by assumption) ?_
  case y4 => intro w hSw; (try dsimp only at hSw); go_simp; (try with_reducible rfl)
  (try simp only [Act.put, List.setIfInBounds_toArray, List.set_cons_zero, List.set_cons_succ, List.getElem_toArray, List.getElem_cons_zero, List.getElem_cons_succ])
  refine wpAnyH_take (i := 5) (v := ?_) rfl (by kernel_rfl) (by kernel_rfl) (by kernel_rfl) (fun _ _ _ h => h) (Or.inl ⟨by rfl, ?y5⟩) (by assumption) ?_
  case y5 => intro w hSw; (try dsimp only at hSw); go_simp; (try with_reducible rfl)
  (try simp only [Act.put, List.setIfInBounds_toArray, List.set_cons_zero, List.set_cons_succ, List.getElem_toArray, List.getElem_cons_zero, List.getElem_cons_succ])
  refine wpAnyH_take (i := 6) (v := ?_) rfl (by kernel_rfl) (by kernel_rfl) (by kernel_rfl) (fun _ _ _ h => h) (Or.inl ⟨by rfl, ?y6⟩) (by assumption) ?_
  case y6 => intro w hSw; (try dsimp only at hSw); go_simp; (try with_reducible rfl)
  (try simp only [Act.put, List.setIfInBounds_toArray, List.set_cons_zero, List.set_cons_succ, List.getElem_toArray, List.getElem_cons_zero, List.getElem_cons_succ])
  refine wpAnyH_take (i := 9) (v := ?_) rfl (by kernel_rfl) (by kernel_rfl) (by kernel_rfl) (fun _ _ _ h => h) (Or.inl ⟨by rfl, ?y9⟩) (by assumption) ?_
  case y9 => intro w hSw; (try dsimp only at hSw); go_simp; (try with_reducible rfl)
  (try simp only [Act.put, List.setIfInBounds_toArray, List.set_cons_zero, List.set_cons_succ, List.getElem_toArray, List.getElem_cons_zero, List.getElem_cons_succ])
  refine wpAnyH_take (i := 10) (v := ?_) rfl (by kernel_rfl) (by kernel_rfl) (by kernel_rfl) (fun _ _ _ h => h) (Or.inl ⟨by rfl, ?y10⟩) (by assumption) ?_
  case y10 => intro w hSw; (try dsimp only at hSw); go_simp; (try with_reducible rfl)
  (try simp only [Act.put, List.setIfInBounds_toArray, List.set_cons_zero, List.set_cons_succ, List.getElem_toArray, List.getElem_cons_zero, List.getElem_cons_succ])
  refine wpAnyH_ready (rs := [3, 7]) (by kernel_rfl) (by simp) ?_
  refine AllReadyH.cons rfl (fun KK hKK => ?_) (AllReadyH.cons rfl (fun KK hKK => ?_) AllReadyH.nil)
  · skip
    go_simp
    have hbd := (Below.refl W.heap.size W).drew
    refine (HWO.out _ (HB2.out.trans (hbd.mono HB2.out.size))).mono ?_; rintro e w2 ⟨v2, rfl, ho, hb3⟩
    have HBW := Lib.hid (hbd.trans hb3)
    have HB3 := Lib.hid (HB2.out.trans (HBW.out.mono HB2.out.size))
    have hX2 := HX.out.below HBW.out
    refine hKK.out _ _ ⟨hX2.1, hX2.2.1⟩ (fun hHeld => ?_)
    clear hKK KK
    (try simp only [Act.put, List.setIfInBounds_toArray, List.set_cons_zero, List.set_cons_succ, List.getElem_toArray, List.getElem_cons_zero, List.getElem_cons_succ])
    refine wpAnyH_ready (rs := [7]) (by kernel_rfl) (by simp) ?_
    refine AllReadyH.cons rfl (fun KK hKK => ?_) AllReadyH.nil
    go_simp
    have hbp := below1 w2 (.cells #[.int .i64 k, .int .i64 y] 59)
    have hX3 := hX2.below hbp
    refine hKK.out _ _ ⟨hX3.1, hX3.2.1⟩ (fun hHeld => ?_)
    clear hKK KK
    (try simp only [Act.put, List.setIfInBounds_toArray, List.set_cons_zero, List.set_cons_succ, List.getElem_toArray, List.getElem_cons_zero, List.getElem_cons_succ])
    refine wpAnyH_ready (rs := [8]) (by kernel_rfl) (by simp) ?_
    refine AllReadyH.cons rfl (fun KK hKK => ?_) AllReadyH.nil
    refine step_app rfl (.tmp 10) (.tmp 14) 26 rfl W.heap.size 59 2 16 (.agg #[.int .i64 0, .int .i64 0]) Try.underlying26 upair_info rfl (by decide) v2 (uwo s.1 k).length (prs (uwo s.1 k)) (by simp [Act.eval, Act.put]) (ho.alloc _) (.slice (some ⟨w2.heap.size, 0, none⟩) 1 1) 1 (prs [(k, y)]) (by simp [Act.eval, Act.put]) (uone_p w2 k y) (prs_one _) (by have := HLE.out; omega) (by decide) (Nat.le_trans HBW.out.size hbp.size) ?_
    intro v3 w3 own3 hb4 hg4
    have o3 : w3.ownsRow W.heap.size 59 2 v3 (uwo s.1 k ++ [(k, y)]).length (prs (uwo s.1 k ++ [(k, y)])) := by rw [List.length_append, ← prs_app]; exact own3
    have HB5 := Lib.hid (HB3.out.trans ((hbp.mono HB3.out.size).trans (hb4.mono (by omega))))
    obtain ⟨a3, c3, rfl⟩ := (ownsRow_slc own3).form
    have hX4 := HX.out.below (HBW.out.trans ((hbp.mono HBW.out.size).trans (hb4.mono (Nat.le_refl _))))
    obtain ⟨⟨y0, y1, y2⟩, y3, y4⟩ := HY.out.below (HBW.out.trans ((hbp.mono HBW.out.size).trans (hb4.mono (Nat.le_refl _))))
    have hfin := bk_end HG.out HB5.out HU.out o3 (Nat.le_succ _) (by omega) (.slice a3 ((uwo s.1 k).length + 1) c3) (.slice ua s.2.length uc)
    obtain ⟨o0, o1, _⟩ := At2.put (w := w3) (k := w.heap.size + 1) (a := .slice a3 ((uwo s.1 k).length + 1) c3) (b := .slice ua s.2.length uc) ⟨y0, y1, y2⟩
    have hX5 := hX4.setne (k := w.heap.size + 1) (a := .slice a3 ((uwo s.1 k).length + 1) c3) (b := .slice ua s.2.length uc) (by omega)
    refine hKK.out _ _ ⟨hX4.1, hX4.2.1⟩ (fun hHeld => ?_)
    clear hKK KK own3 o3
    (try simp only [Act.put, List.setIfInBounds_toArray, List.set_cons_zero, List.set_cons_succ, List.getElem_toArray, List.getElem_cons_zero, List.getElem_cons_succ])
    refine wpAnyH_take (i := 11) (v := ?_) rfl (by kernel_rfl) (by kernel_rfl) (by kernel_rfl) (fun _ _ _ h => h) (Or.inl ⟨by rfl, ?y11⟩) (by assumption) ?_
    case y11 => intro w hSw; (try dsimp only at hSw); go_simp; (try with_reducible rfl)
    (try simp only [Act.put, List.setIfInBounds_toArray, List.set_cons_zero, List.set_cons_succ, List.getElem_toArray, List.getElem_cons_zero, List.getElem_cons_succ])
    refine wpAnyH_ready (rs := [12]) (by kernel_rfl) (by simp) ?_
    refine AllReadyH.cons rfl (fun KK hKK => ?_) AllReadyH.nil
    go_simp
    refine hKK.out _ _ ⟨hX5.1, hX5.2.1⟩ (fun hHeld => ?_)
    clear hKK KK
    refine wpAnyH_done (by kernel_rfl) ?_ _
    go_wp2_with fail
    refine bodyPost_ret (v := .agg #[.slice a3 ((uwo s.1 k).length + 1) c3, .slice ua s.2.length uc]) (by simp [results, Try.results22, go_sem, o0, o1]) rfl ?_
    exact ⟨_, rfl, hfin⟩
  · skip
    go_simp
    have hbp := (below1 W (.cells #[.int .i64 k, .int .i64 y] 59)).drew
    have hXp := HX.out.below hbp
    have hsl := SlC.drew (uone_p W k y)
    refine hKK.out _ _ ⟨hXp.1, hXp.2.1⟩ (fun hHeld => ?_)
    clear hKK KK
    (try simp only [Act.put, List.setIfInBounds_toArray, List.set_cons_zero, List.set_cons_succ, List.getElem_toArray, List.getElem_cons_zero, List.getElem_cons_succ])
    generalize hP : (W.alloc (.cells #[.int .i64 k, .int .i64 y] 59)).drew = P at *
    have hPs : P.heap.size = W.heap.size + 1 := by rw [← hP]; simp
    clear hP
    refine wpAnyH_ready (rs := [3]) (by kernel_rfl) (by simp) ?_
    refine AllReadyH.cons rfl (fun KK hKK => ?_) AllReadyH.nil
    go_simp
    refine (HWO.out _ (HB2.out.trans (hbp.mono HB2.out.size))).mono ?_; rintro e w2 ⟨v2, rfl, ho, hb3⟩
    have HBW := Lib.hid (hbp.trans (hb3.mono hbp.size))
    have HB3 := Lib.hid (HB2.out.trans (HBW.out.mono HB2.out.size))
    have hX2 := HX.out.below HBW.out
    have hsl2 := hsl.below hb3
    refine hKK.out _ _ ⟨hX2.1, hX2.2.1⟩ (fun hHeld => ?_)
    clear hKK KK
    (try simp only [Act.put, List.setIfInBounds_toArray, List.set_cons_zero, List.set_cons_succ, List.getElem_toArray, List.getElem_cons_zero, List.getElem_cons_succ])
    refine wpAnyH_ready (rs := [8]) (by kernel_rfl) (by simp) ?_
    refine AllReadyH.cons rfl (fun KK hKK => ?_) AllReadyH.nil
    refine step_app rfl (.tmp 10) (.tmp 14) 26 rfl P.heap.size 59 2 16 (.agg #[.int .i64 0, .int .i64 0]) Try.underlying26 upair_info rfl (by decide) v2 (uwo s.1 k).length (prs (uwo s.1 k)) (by simp [Act.eval, Act.put]) ho (.slice (some ⟨W.heap.size, 0, none⟩) 1 1) 1 (prs [(k, y)]) (by simp [Act.eval, Act.put]) hsl2 (prs_one _) (by have := HLE.out; omega) (by decide) hb3.size ?_
    intro v3 w3 own3 hb4 hg4
    have o3 : w3.ownsRow P.heap.size 59 2 v3 (uwo s.1 k ++ [(k, y)]).length (prs (uwo s.1 k ++ [(k, y)])) := by rw [List.length_append, ← prs_app]; exact own3
    have HB5 := Lib.hid (HB3.out.trans (hb4.mono (by omega)))
    obtain ⟨a3, c3, rfl⟩ := (ownsRow_slc own3).form
    have hX4 := HX.out.below (HBW.out.trans (hb4.mono (by omega)))
    obtain ⟨⟨y0, y1, y2⟩, y3, y4⟩ := HY.out.below (HBW.out.trans (hb4.mono (by omega)))
    have hfin := bk_end HG.out HB5.out HU.out o3 (Nat.le_succ _) (by omega) (.slice a3 ((uwo s.1 k).length + 1) c3) (.slice ua s.2.length uc)
    obtain ⟨o0, o1, _⟩ := At2.put (w := w3) (k := w.heap.size + 1) (a := .slice a3 ((uwo s.1 k).length + 1) c3) (b := .slice ua s.2.length uc) ⟨y0, y1, y2⟩
    have hX5 := hX4.setne (k := w.heap.size + 1) (a := .slice a3 ((uwo s.1 k).length + 1) c3) (b := .slice ua s.2.length uc) (by omega)
    refine hKK.out _ _ ⟨hX4.1, hX4.2.1⟩ (fun hHeld => ?_)
    clear hKK KK own3 o3
    (try simp only [Act.put, List.setIfInBounds_toArray, List.set_cons_zero, List.set_cons_succ, List.getElem_toArray, List.getElem_cons_zero, List.getElem_cons_succ])
    refine wpAnyH_take (i := 11) (v := ?_) rfl (by kernel_rfl) (by kernel_rfl) (by kernel_rfl) (fun _ _ _ h => h) (Or.inl ⟨by rfl, ?y11⟩) (by assumption) ?_
    case y11 => intro w hSw; (try dsimp only at hSw); go_simp; (try with_reducible rfl)
    (try simp only [Act.put, List.setIfInBounds_toArray, List.set_cons_zero, List.set_cons_succ, List.getElem_toArray, List.getElem_cons_zero, List.getElem_cons_succ])
    refine wpAnyH_ready (rs := [12]) (by kernel_rfl) (by simp) ?_
    refine AllReadyH.cons rfl (fun KK hKK => ?_) AllReadyH.nil
    go_simp
    refine hKK.out _ _ ⟨hX5.1, hX5.2.1⟩ (fun hHeld => ?_)
    clear hKK KK
    refine wpAnyH_done (by kernel_rfl) ?_ _
    go_wp2_with fail
    refine bodyPost_ret (v := .agg #[.slice a3 ((uwo s.1 k).length + 1) c3, .slice ua s.2.length uc]) (by simp [results, Try.results22, go_sem, o0, o1]) rfl ?_
    exact ⟨_, rfl, hfin⟩
end Go.Proofs.Ytmhfgkkiplencaa
