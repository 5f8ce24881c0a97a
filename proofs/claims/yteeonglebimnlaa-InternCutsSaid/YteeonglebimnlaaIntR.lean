/-
  What layer 8's own 'refDo' answers. The condition: at most 9 * 10^8 keys.
-/
import Derived.Test.YteeonglebimnlaaIntD
import Derived.Test.YteeonglebimnlaaRefIa
namespace Go.Proofs.Yteeonglebimnlaa
open Go.RowKit
set_option linter.unusedSimpArgs false
set_option linter.unusedVariables false

set_option maxHeartbeats 2000000 in
theorem ref8 (G : Nat → Prop) (v : Value) (K : List Int) (m d n : Int) (w : World) (hv : TabG G w v K m) (hn : InR n) (hl : K.length ≤ 900000000) :
    Calls Try.prog 10 #[v, .agg #[.int .i64 d, .int .i64 n]] w fun e w' => ∃ u, e = .returned (.tuple #[u, .int .i64 (do1 K m d n), .int .i64 (do2 K m d n), .bool (do3 K d n)]) ∧ TabG (fun b => G b ∨ w.heap.size ≤ b) w' u (doK K m d n) m ∧ Below w.heap.size w w' := by
  obtain ⟨a, c, rfl⟩ := hv.tab.form
  have H1 := Lib.hid (((Ow2.new w (.slice a K.length c) (.int .i64 m) 30).alloc (.cells #[.int .i64 d, .int .i64 n] 36)).alloc (.cells #[.slice none 0 0, .int .i64 0] 30))
  have H2 := Lib.hid ((Ow2.new2 w (.cells #[.slice a K.length c, .int .i64 m] 30) (.int .i64 d) (.int .i64 n) 36).alloc (.cells #[.slice none 0 0, .int .i64 0] 30))
  have H3 := Lib.hid (Ow2.new3 w (.cells #[.slice a K.length c, .int .i64 m] 30) (.cells #[.int .i64 d, .int .i64 n] 36) (.slice none 0 0) (.int .i64 0) 30)
  have HB := Lib.hid ((below2 w (.cells #[.slice a K.length c, .int .i64 m] 30) (.cells #[.int .i64 d, .int .i64 n] 36)).alloc (by simp; omega) (.cells #[.slice none 0 0, .int .i64 0] 30))
  have hv1 := hv.tight.below HB.out
  have hz : (((w.alloc (.cells #[.slice a K.length c, .int .i64 m] 30)).alloc (.cells #[.int .i64 d, .int .i64 n] 36)).alloc (.cells #[.slice none 0 0, .int .i64 0] 30)).heap.size = w.heap.size + 3 := by simp
  have HZ := Lib.hid hz; clear hz
  obtain ⟨⟨x0, x1, x2⟩, x3, x4⟩ := H1.out
  obtain ⟨⟨y0, y1, y2⟩, y3, y4⟩ := H2.out
  obtain ⟨⟨o0, o1, o2⟩, o3, o4⟩ := H3.out
  unfold do1 do2 do3 doK
  by_cases h0 : d = 0
  · subst h0
    rw [if_pos rfl, if_pos rfl, if_pos rfl, if_pos rfl]
    have hc := r8id _ _ K m n _ hv1 hn hl
    rw [(gid_is K m n).1, (gid_is K m n).2.1, (gid_is K m n).2.2.1] at hc
    clear hv hv1 hn hl
    go_enter Try.func10, Try.ntmps10
    go_wp2_with fail
    refine hc.mono ?_; rintro e w1 ⟨u, rfl, hu, hb1⟩
    clear x0 x1 x2 x3 x4 y0 y1 y2 y3 y4 o0 o1 o2 o3 o4
    obtain ⟨a1, c1, rfl⟩ := hu.tab.form
    obtain ⟨⟨x0, x1, x2⟩, x3, x4⟩ := H1.out.below hb1
    obtain ⟨⟨o0, o1, o2⟩, o3, o4⟩ := H3.out.below hb1
    have HU := Lib.hid hu; clear hu
    have HB1 := Lib.hid (HB.out.trans (hb1.mono HB.out.size)); clear hb1
    go_wp2_with fail
    refine bodyPost_ret (v := .tuple #[.agg #[.slice a1 (gidK K m n).length c1, .int .i64 m], .int .i64 (gidN K m n), .int .i64 (gidE K m n), .bool false]) (by simp [results, Try.results10, go_sem, o0, o1]) rfl ⟨_, rfl, ?_, below_set2 (below_set2 HB1.out (Nat.le_refl _)) (by omega)⟩
    exact (HU.out.turn (F := fun j => w.heap.size ≤ j ∧ j < w.heap.size + 3) (turn_set2 (turn_set2 (Turn.refl _ _) (Or.inl ⟨Nat.le_refl _, by omega⟩) _ _) (Or.inl ⟨by omega, by omega⟩) _ _) (fun b q r => by rcases q with q | q <;> (have := HZ.out; omega))).mono (fun b q => q.elim (fun q => Or.inl q.1) (fun q => Or.inr (by have := HZ.out; omega)))
  · rw [if_neg h0, if_neg h0, if_neg h0, if_neg h0]
    by_cases h1' : d = 1
    · subst h1'
      rw [if_pos rfl, if_pos rfl, if_pos rfl]
      have hc := r8find _ K m n _ hv1.tab (by omega)
      rw [(gid_is K m n).2.2.2] at hc
      have HV := Lib.hid hv
      clear hv hv1 hn hl h0
      generalize decide (n ∈ K) = bb at *
      go_enter Try.func10, Try.ntmps10
      go_wp2_with fail
      refine hc.mono ?_; rintro e w1 ⟨rfl, hb1⟩
      clear x0 x1 x2 x3 x4 y0 y1 y2 y3 y4 o0 o1 o2 o3 o4
      obtain ⟨⟨x0, x1, x2⟩, x3, x4⟩ := H1.out.below hb1
      obtain ⟨⟨o0, o1, o2⟩, o3, o4⟩ := H3.out.below hb1
      have HB1 := Lib.hid (HB.out.trans (hb1.mono HB.out.size)); clear hb1
      go_wp2_with fail
      refine bodyPost_ret (v := .tuple #[.agg #[.slice a K.length c, .int .i64 m], .int .i64 (gfnd K n), .int .i64 0, .bool bb]) (by simp [results, Try.results10, go_sem, o0, o1]) rfl ⟨_, rfl, (HV.out.below (below_set2 HB1.out (by omega))).mono (fun b q => Or.inl q), below_set2 HB1.out (by omega)⟩
    · rw [if_neg h1', if_neg h1', if_neg h1']
      by_cases h2 : d = 2
      · subst h2
        rw [if_pos rfl, if_pos rfl, if_pos rfl]
        have hc := r8key _ K m n _ hv1.tab
        rw [(gkey_is K n).1, (gkey_is K n).2] at hc
        have HV := Lib.hid hv
        clear hv hv1 hn hl h0 h1'
        go_enter Try.func10, Try.ntmps10
        go_wp2_with fail
        refine hc.mono ?_; rintro e w1 ⟨rfl, hb1⟩
        clear x0 x1 x2 x3 x4 y0 y1 y2 y3 y4 o0 o1 o2 o3 o4
        obtain ⟨⟨x0, x1, x2⟩, x3, x4⟩ := H1.out.below hb1
        obtain ⟨⟨o0, o1, o2⟩, o3, o4⟩ := H3.out.below hb1
        have HB1 := Lib.hid (HB.out.trans (hb1.mono HB.out.size)); clear hb1
        go_wp2_with fail
        refine bodyPost_ret (v := .tuple #[.agg #[.slice a K.length c, .int .i64 m], .int .i64 (gkey 0 K n), .int .i64 0, .bool (gin K n)]) (by simp [results, Try.results10, go_sem, o0, o1]) rfl ⟨_, rfl, (HV.out.below (below_set2 HB1.out (by omega))).mono (fun b q => Or.inl q), below_set2 HB1.out (by omega)⟩
      · rw [if_neg h2, if_neg h2, if_neg h2]
        have e0 : (d == 0) = false := by simpa using h0
        have e1 : (d == 1) = false := by simpa using h1'
        have e2 : (d == 2) = false := by simpa using h2
        have hc := r8cut _ _ K m n _ hv1
        rw [show tcut K n = gcut K n from rfl] at hc
        clear hv hv1 hn hl h0 h1' h2
        go_enter Try.func10, Try.ntmps10
        go_wp2_with fail
        refine hc.mono ?_; rintro e w1 ⟨u, rfl, hu, hb1⟩
        clear x0 x1 x2 x3 x4 y0 y1 y2 y3 y4 o0 o1 o2 o3 o4
        obtain ⟨a1, c1, rfl⟩ := hu.tab.form
        obtain ⟨⟨x0, x1, x2⟩, x3, x4⟩ := H1.out.below hb1
        obtain ⟨⟨o0, o1, o2⟩, o3, o4⟩ := H3.out.below hb1
        have HU := Lib.hid hu; clear hu
        have HB1 := Lib.hid (HB.out.trans (hb1.mono HB.out.size)); clear hb1
        go_wp2_with fail
        refine bodyPost_ret (v := .tuple #[.agg #[.slice a1 (gcut K n).length c1, .int .i64 m], .int .i64 (gcut K n).length, .int .i64 0, .bool false]) (by simp [results, Try.results10, go_sem, o0, o1]) rfl ⟨_, rfl, ?_, below_set2 (below_set2 HB1.out (Nat.le_refl _)) (by omega)⟩
        exact (HU.out.turn (F := fun j => w.heap.size ≤ j ∧ j < w.heap.size + 3) (turn_set2 (turn_set2 (Turn.refl _ _) (Or.inl ⟨Nat.le_refl _, by omega⟩) _ _) (Or.inl ⟨by omega, by omega⟩) _ _) (fun b q r => by omega)).mono (fun b q => Or.inl q.1)
end Go.Proofs.Yteeonglebimnlaa
