/-
  Layer 16's refDo. The condition: the rows' lengths.
-/
import Derived.Test.YtmhfgkkiplencaaR16e
namespace Go.Proofs.Ytmhfgkkiplencaa
open Go.RowKit
set_option linter.unusedSimpArgs false
set_option linter.unusedVariables false

theorem BkX.form {G : Nat → Prop} {w : World} {x : Value} {s : USt} (h : BkX G w x s) : ∃ a c ua uc, x = .agg #[.slice a s.1.length c, .slice ua s.2.length uc] := by
  obtain ⟨v, u, rfl, hv, hu⟩ := h
  obtain ⟨a, c, rfl⟩ := hv.1.form
  obtain ⟨ua, uc, e⟩ := hu.form
  rw [List.length_reverse] at e
  exact ⟨a, c, ua, uc, by rw [e]⟩
/-- What a call has told is laid into the result's block. -/
theorem do_end {G : Nat → Prop} {w W w1 : World} {x : Value} {s : USt} {Y : Nat} (hb : Below w.heap.size w W) (hY : w.heap.size ≤ Y) (h : BkX (fun j => G j ∨ j = Y) w1 x s) (hb1 : Below W.heap.size W w1) (p q : Value) :
    BkX G ((w1.setCell ⟨Y, 0, none⟩ p).setCell ⟨Y, 1, none⟩ q) x s ∧ Below w.heap.size w ((w1.setCell ⟨Y, 0, none⟩ p).setCell ⟨Y, 1, none⟩ q) := by
  have t2 := turn_set2 (F := fun j => j = Y) (Turn.refl _ w1) (Or.inl rfl) p q
  have hB := hb.trans (hb1.mono hb.size)
  exact ⟨h.turn t2 (fun j q => Or.inr q) (fun j q => Or.inl (Or.inl q)), hB.trans (t2.below (fun k e => by omega) hB.size)⟩
set_option maxHeartbeats 4000000 in
theorem r16do {w : World} {x : Value} {s : USt} (G : Nat → Prop) (hG : ∀ j, G j → j < w.heap.size) (h : BkX G w x s) (hn : s.1.length ≤ 1000000) (h64 : s.2.length ≤ 64) (d k y : Int) :
    Calls Try.prog 9 #[x, .agg #[.int .i64 d, .int .i64 k, .int .i64 y]] w fun e w' => ∃ x', e = .returned (.tuple #[x', .int .i64 (udoE s d k)]) ∧ BkX G w' x' (udo s d k y) ∧ Below w.heap.size w w' := by
  obtain ⟨a, c, ua, uc, rfl⟩ := h.form
  have hb2 := below2 w (.cells #[.slice a s.1.length c, .slice ua s.2.length uc] 29) (.cells #[.int .i64 d, .int .i64 k, .int .i64 y] 32)
  have hb3 := hb2.trans ((below1 ((w.alloc (.cells #[.slice a s.1.length c, .slice ua s.2.length uc] 29)).alloc (.cells #[.int .i64 d, .int .i64 k, .int .i64 y] 32)) (.cells #[.slice none 0 0, .slice none 0 0] 29)).mono hb2.size)
  have hX := ((Ow2.new w (.slice a s.1.length c) (.slice ua s.2.length uc) 29).alloc (.cells #[.int .i64 d, .int .i64 k, .int .i64 y] 32)).alloc (.cells #[.slice none 0 0, .slice none 0 0] 29)
  have hY := Ow2.new3 w (.cells #[.slice a s.1.length c, .slice ua s.2.length uc] 29) (.cells #[.int .i64 d, .int .i64 k, .int .i64 y] 32) (.slice none 0 0) (.slice none 0 0) 29
  have hZ : (((w.alloc (.cells #[.slice a s.1.length c, .slice ua s.2.length uc] 29)).alloc (.cells #[.int .i64 d, .int .i64 k, .int .i64 y] 32)).alloc (.cells #[.slice none 0 0, .slice none 0 0] 29)).cell? ⟨w.heap.size + 1, 0, none⟩ = some (.int .i64 d) ∧ (((w.alloc (.cells #[.slice a s.1.length c, .slice ua s.2.length uc] 29)).alloc (.cells #[.int .i64 d, .int .i64 k, .int .i64 y] 32)).alloc (.cells #[.slice none 0 0, .slice none 0 0] 29)).cell? ⟨w.heap.size + 1, 1, none⟩ = some (.int .i64 k) ∧ (((w.alloc (.cells #[.slice a s.1.length c, .slice ua s.2.length uc] 29)).alloc (.cells #[.int .i64 d, .int .i64 k, .int .i64 y] 32)).alloc (.cells #[.slice none 0 0, .slice none 0 0] 29)).cell? ⟨w.heap.size + 1, 2, none⟩ = some (.int .i64 y) := by refine ⟨?_, ?_, ?_⟩ <;> simp [go_sem]
  have hws : (((w.alloc (.cells #[.slice a s.1.length c, .slice ua s.2.length uc] 29)).alloc (.cells #[.int .i64 d, .int .i64 k, .int .i64 y] 32)).alloc (.cells #[.slice none 0 0, .slice none 0 0] 29)).heap.size = w.heap.size + 3 := by simp
  obtain ⟨W, hW⟩ : ∃ W, W = ((w.alloc (.cells #[.slice a s.1.length c, .slice ua s.2.length uc] 29)).alloc (.cells #[.int .i64 d, .int .i64 k, .int .i64 y] 32)).alloc (.cells #[.slice none 0 0, .slice none 0 0] 29) := ⟨_, rfl⟩
  have hG' : ∀ j, (fun j => G j ∨ j = w.heap.size + 1 + 1) j → j < W.heap.size := by
    rw [hW, hws]
    rintro j (q | q)
    · have := hG j q; omega
    · omega
  have h' : BkX (fun j => G j ∨ j = w.heap.size + 1 + 1) W (.agg #[.slice a s.1.length c, .slice ua s.2.length uc]) s := by
    rw [hW]
    exact h.turn (F := fun _ => False) (Turn.of_below hb3) (fun _ q => q.elim) fun j q => q.imp id fun q => by omega
  have HE := Lib.hid (fun (w1 : World) (x' : Value) (s' : USt) (hq : BkX (fun j => G j ∨ j = w.heap.size + 1 + 1) w1 x' s') (hb1 : Below W.heap.size W w1) (p q : Value) => do_end (w := w) (by rw [hW]; exact hb3) (by omega) hq hb1 p q)
  have HY := Lib.hid hY
  have HX := Lib.hid hX
  have HZ := Lib.hid hZ
  rw [← hW] at HY HX HZ
  clear hG h hX hY hZ hb2 hb3 hws
  unfold udo udoE
  by_cases h0 : d = 0
  · subst h0
    rw [if_pos rfl, if_pos rfl]
    have hc := r16set (fun j => G j ∨ j = w.heap.size + 1 + 1) hG' h' k y hn
    generalize uset s k y = S at *
    clear hG' h' hn h64
    go_enter Try.func9, Try.ntmps9
    go_wp2_with fail
    rw [← hW]
    clear hW
    obtain ⟨⟨x0, x1, x2⟩, x3, x4⟩ := HX.out
    obtain ⟨z0, z1, z2⟩ := HZ.out
    go_wp2_with fail
    refine hc.mono ?_; clear hc; rintro e w1 ⟨x', rfl, hB, hb1⟩
    obtain ⟨⟨y0, y1, y2⟩, y3, y4⟩ := HY.out.below hb1
    obtain ⟨a1, c1, b1, d1, rfl⟩ := hB.form
    have hfin := HE.out w1 _ _ hB hb1 (.slice a1 S.1.length c1) (.slice b1 S.2.length d1)
    obtain ⟨o0, o1, _⟩ := At2.put (w := w1) (k := w.heap.size + 1 + 1) (a := .slice a1 S.1.length c1) (b := .slice b1 S.2.length d1) ⟨y0, y1, y2⟩
    clear hB hb1 x0 x1 x2 x3 x4 z0 z1 z2
    go_wp2_with fail
    exact bodyPost_ret (v := .tuple #[.agg #[.slice a1 S.1.length c1, .slice b1 S.2.length d1], .int .i64 0]) (by simp [results, Try.results9, go_sem, o0, o1]) rfl ⟨_, rfl, hfin⟩
  rw [if_neg h0, if_neg h0]
  have e0 : (d == 0) = false := by simpa using h0
  by_cases h1 : d = 1
  · subst h1
    rw [if_pos rfl, if_pos rfl]
    have hc := r16drop (fun j => G j ∨ j = w.heap.size + 1 + 1) hG' h' k hn
    generalize udrop s k = S at *
    generalize udropE s k = E at *
    clear h0
    clear hG' h' hn h64
    go_enter Try.func9, Try.ntmps9
    go_wp2_with fail
    rw [← hW]
    clear hW
    obtain ⟨⟨x0, x1, x2⟩, x3, x4⟩ := HX.out
    obtain ⟨z0, z1, z2⟩ := HZ.out
    go_wp2_with fail
    refine hc.mono ?_; clear hc; rintro e w1 ⟨x', rfl, hB, hb1⟩
    obtain ⟨⟨y0, y1, y2⟩, y3, y4⟩ := HY.out.below hb1
    obtain ⟨a1, c1, b1, d1, rfl⟩ := hB.form
    have hfin := HE.out w1 _ _ hB hb1 (.slice a1 S.1.length c1) (.slice b1 S.2.length d1)
    obtain ⟨o0, o1, _⟩ := At2.put (w := w1) (k := w.heap.size + 1 + 1) (a := .slice a1 S.1.length c1) (b := .slice b1 S.2.length d1) ⟨y0, y1, y2⟩
    clear hB hb1 x0 x1 x2 x3 x4 z0 z1 z2
    go_wp2_with fail
    exact bodyPost_ret (v := .tuple #[.agg #[.slice a1 S.1.length c1, .slice b1 S.2.length d1], .int .i64 E]) (by simp [results, Try.results9, go_sem, o0, o1]) rfl ⟨_, rfl, hfin⟩
  rw [if_neg h1, if_neg h1]
  have e1 : (d == 1) = false := by simpa using h1
  by_cases h2 : d = 2
  · subst h2
    rw [if_pos rfl, if_pos rfl]
    have hc := r16begin (fun j => G j ∨ j = w.heap.size + 1 + 1) hG' h' h64
    generalize ubegin s = S at *
    generalize ubeginE s = E at *
    clear h0 h1
    clear hG' h' hn h64
    go_enter Try.func9, Try.ntmps9
    go_wp2_with fail
    rw [← hW]
    clear hW
    obtain ⟨⟨x0, x1, x2⟩, x3, x4⟩ := HX.out
    obtain ⟨z0, z1, z2⟩ := HZ.out
    go_wp2_with fail
    refine hc.mono ?_; clear hc; rintro e w1 ⟨x', rfl, hB, hb1⟩
    obtain ⟨⟨y0, y1, y2⟩, y3, y4⟩ := HY.out.below hb1
    obtain ⟨a1, c1, b1, d1, rfl⟩ := hB.form
    have hfin := HE.out w1 _ _ hB hb1 (.slice a1 S.1.length c1) (.slice b1 S.2.length d1)
    obtain ⟨o0, o1, _⟩ := At2.put (w := w1) (k := w.heap.size + 1 + 1) (a := .slice a1 S.1.length c1) (b := .slice b1 S.2.length d1) ⟨y0, y1, y2⟩
    clear hB hb1 x0 x1 x2 x3 x4 z0 z1 z2
    go_wp2_with fail
    exact bodyPost_ret (v := .tuple #[.agg #[.slice a1 S.1.length c1, .slice b1 S.2.length d1], .int .i64 E]) (by simp [results, Try.results9, go_sem, o0, o1]) rfl ⟨_, rfl, hfin⟩
  rw [if_neg h2, if_neg h2]
  have e2 : (d == 2) = false := by simpa using h2
  by_cases h3 : d = 3
  · subst h3
    rw [if_pos rfl]
    have hc := r16end (fun j => G j ∨ j = w.heap.size + 1 + 1) h' h64 false
    rw [if_neg (by decide)] at hc
    generalize ukeep s = S at *
    generalize uendE s = E at *
    clear h0 h1 h2
    clear hG' h' hn h64
    go_enter Try.func9, Try.ntmps9
    go_wp2_with fail
    rw [← hW]
    clear hW
    obtain ⟨⟨x0, x1, x2⟩, x3, x4⟩ := HX.out
    obtain ⟨z0, z1, z2⟩ := HZ.out
    go_wp2_with fail
    refine hc.mono ?_; clear hc; rintro e w1 ⟨x', rfl, hB, hb1⟩
    obtain ⟨⟨y0, y1, y2⟩, y3, y4⟩ := HY.out.below hb1
    obtain ⟨a1, c1, b1, d1, rfl⟩ := hB.form
    have hfin := HE.out w1 _ _ hB hb1 (.slice a1 S.1.length c1) (.slice b1 S.2.length d1)
    obtain ⟨o0, o1, _⟩ := At2.put (w := w1) (k := w.heap.size + 1 + 1) (a := .slice a1 S.1.length c1) (b := .slice b1 S.2.length d1) ⟨y0, y1, y2⟩
    clear hB hb1 x0 x1 x2 x3 x4 z0 z1 z2
    go_wp2_with fail
    exact bodyPost_ret (v := .tuple #[.agg #[.slice a1 S.1.length c1, .slice b1 S.2.length d1], .int .i64 E]) (by simp [results, Try.results9, go_sem, o0, o1]) rfl ⟨_, rfl, hfin⟩
  rw [if_neg h3]
  have e3 : (d == 3) = false := by simpa using h3
  have hc := r16end (fun j => G j ∨ j = w.heap.size + 1 + 1) h' h64 true
  rw [if_pos rfl] at hc
  generalize uback s = S at *
  generalize uendE s = E at *
  clear h0 h1 h2 h3
  clear hG' h' hn h64
  go_enter Try.func9, Try.ntmps9
  go_wp2_with fail
  rw [← hW]
  clear hW
  obtain ⟨⟨x0, x1, x2⟩, x3, x4⟩ := HX.out
  obtain ⟨z0, z1, z2⟩ := HZ.out
  go_wp2_with fail
  refine hc.mono ?_; clear hc; rintro e w1 ⟨x', rfl, hB, hb1⟩
  obtain ⟨⟨y0, y1, y2⟩, y3, y4⟩ := HY.out.below hb1
  obtain ⟨a1, c1, b1, d1, rfl⟩ := hB.form
  have hfin := HE.out w1 _ _ hB hb1 (.slice a1 S.1.length c1) (.slice b1 S.2.length d1)
  obtain ⟨o0, o1, _⟩ := At2.put (w := w1) (k := w.heap.size + 1 + 1) (a := .slice a1 S.1.length c1) (b := .slice b1 S.2.length d1) ⟨y0, y1, y2⟩
  clear hB hb1 x0 x1 x2 x3 x4 z0 z1 z2
  go_wp2_with fail
  exact bodyPost_ret (v := .tuple #[.agg #[.slice a1 S.1.length c1, .slice b1 S.2.length d1], .int .i64 E]) (by simp [results, Try.results9, go_sem, o0, o1]) rfl ⟨_, rfl, hfin⟩
end Go.Proofs.Ytmhfgkkiplencaa
