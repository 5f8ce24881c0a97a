/-
  What the document's own Cmp and Of (of gavelkindref01) do, as whole numbers. The condition: at most 900 digits.
-/
import Derived.Test.YtmmjkbjceocpmaaDoorRefG
namespace Go.Proofs.YtmmjkbjceocpmaaDoor
open Go.RowKit
set_option linter.unusedVariables false

theorem cmpv_neg {x y : Int} (h : x - y < 0) : -1 = cmpv x y := by unfold cmpv; rw [if_pos (by omega)]
theorem cmpv_pos {x y : Int} (h : 0 < x - y) : 1 = cmpv x y := by unfold cmpv; rw [if_neg (by omega), if_pos (by omega)]
theorem cmpv_nil {x y : Int} (h : x - y = 0) : 0 = cmpv x y := by unfold cmpv; rw [if_neg (by omega), if_neg (by omega)]

set_option maxHeartbeats 1000000 in
/-- Cmp. -/
theorem bcmp (v v' : Value) (x y : Int) (w : World) (hv : Big w v x) (hv' : Big w v' y) (hl : (digs x.natAbs).length ≤ 1000) (hl' : (digs y.natAbs).length ≤ 1000) (hd : (digs (x - y).natAbs).length ≤ 2000) :
    Calls Tryd.prog 55 #[v, v'] w fun e w' => e = .returned (.int .i64 (cmpv x y)) ∧ Below w.heap.size w w' := by
  obtain ⟨a, c, rfl⟩ := hv.form
  obtain ⟨a', c', rfl⟩ := hv'.form
  have hM := bminus _ _ x y _ (hv.below (below2 w (.cells #[.bool (decide (x < 0)), .slice a (digs x.natAbs).length c] 56) (.cells #[.bool (decide (y < 0)), .slice a' (digs y.natAbs).length c'] 56)))
    (hv'.below (below2 w (.cells #[.bool (decide (x < 0)), .slice a (digs x.natAbs).length c] 56) (.cells #[.bool (decide (y < 0)), .slice a' (digs y.natAbs).length c'] 56))) hl hl'
  clear hv hv'
  rcases Int.lt_trichotomy (x - y) 0 with h | h | h
  · have e1 : decide (x - y < 0) = true := by simpa using h
    have HC := Lib.hid (cmpv_neg h); clear h
    go_enter Tryd.func55, Tryd.ntmps55
    go_wp2_with (go_at_call 66; refine hM.mono ?_; rintro e w1 ⟨r1, rfl, hr1, hb1⟩; obtain ⟨ra, rc, rfl⟩ := hr1.form; rw [e1]; clear e1)
    go_ret
    exact ⟨ret_int HC.out, ((below2 _ _ _).trans (hb1.mono (by simp; omega))).alloc (by have := hb1.size; simp at this; omega) _⟩
  · have e1 : decide (x - y < 0) = false := by simp; omega
    have e2 : (digs (x - y).natAbs).length = 0 := by rw [h]; simp [digs_zero]
    have HC := Lib.hid (cmpv_nil h); clear h
    go_enter Tryd.func55, Tryd.ntmps55
    go_wp2_with (go_at_call 66; refine hM.mono ?_; rintro e w1 ⟨r1, rfl, hr1, hb1⟩; obtain ⟨ra, rc, rfl⟩ := hr1.form; rw [e1, e2]; clear e1 e2)
    go_ret
    exact ⟨ret_int HC.out, ((below2 _ _ _).trans (hb1.mono (by simp; omega))).alloc (by have := hb1.size; simp at this; omega) _⟩
  · have e1 : decide (x - y < 0) = false := by simp; omega
    have e2 : 0 < (digs (x - y).natAbs).length := digs_pos_len (by omega)
    have HC := Lib.hid (cmpv_pos h); clear h
    go_enter Tryd.func55, Tryd.ntmps55
    go_wp2_with (go_at_call 66; refine hM.mono ?_; rintro e w1 ⟨r1, rfl, hr1, hb1⟩; obtain ⟨ra, rc, rfl⟩ := hr1.form; rw [e1]; clear e1)
    go_ret
    exact ⟨ret_int HC.out, ((below2 _ _ _).trans (hb1.mono (by simp; omega))).alloc (by have := hb1.size; simp at this; omega) _⟩

/-- What holds of the two blocks of Of while it goes on. -/
def OfBox (B : Nat) (s : Bool) (v : Value) (w : World) : Prop :=
  w.cell? ⟨B, 0, none⟩ = some (.bool false) ∧ w.cell? ⟨B, 1, none⟩ = some (.slice none 0 0) ∧ w.frozen? ⟨B, 0, none⟩ = false ∧ w.frozen? ⟨B, 1, none⟩ = false ∧
    w.cell? ⟨B + 1, 0, none⟩ = some (.bool s) ∧ w.cell? ⟨B + 1, 1, none⟩ = some v ∧ w.frozen? ⟨B + 1, 1, none⟩ = false ∧ B + 2 ≤ w.heap.size

theorem OfBox.below {B : Nat} {s : Bool} {v : Value} {w w1 : World} (h : OfBox B s v w) (hb : Below (B + 2) w w1) : OfBox B s v w1 := by
  obtain ⟨h1, h2, h3, h4, h5, h6, h7, h8⟩ := h
  have bc : ∀ b o, b < B + 2 → w1.cell? ⟨b, o, none⟩ = w.cell? ⟨b, o, none⟩ := fun b o hh => hb.cell (p := ⟨b, o, none⟩) hh
  have bf : ∀ b o, b < B + 2 → w1.frozen? ⟨b, o, none⟩ = w.frozen? ⟨b, o, none⟩ := fun b o hh => hb.frozen (p := ⟨b, o, none⟩) hh
  exact ⟨(bc _ _ (by omega)).trans h1, (bc _ _ (by omega)).trans h2, (bf _ _ (by omega)).trans h3, (bf _ _ (by omega)).trans h4, (bc _ _ (by omega)).trans h5, (bc _ _ (by omega)).trans h6, (bf _ _ (by omega)).trans h7, Nat.le_trans h8 hb.size⟩

theorem OfBox.store {B : Nat} {s : Bool} {v v' : Value} {w : World} (h : OfBox B s v w) : OfBox B s v' (w.setCell ⟨B + 1, 1, none⟩ v') := by
  obtain ⟨h1, h2, h3, h4, h5, h6, h7, h8⟩ := h
  refine ⟨?_, ?_, by simpa using h3, by simpa using h4, ?_, World.cell?_setCell_same _ _ _ h6, by simpa using h7, by simpa [World.setCell] using h8⟩
  · rw [World.cell?_setCell_other _ _ _ _ (by simp)]; exact h1
  · rw [World.cell?_setCell_other _ _ _ _ (by simp)]; exact h2
  · rw [World.cell?_setCell_other _ _ _ _ (by simp)]; exact h5

/-- What holds while Of goes on: b's digits so far, and what is left. -/
def OfRel (n : Int) (s : Bool) (w : World) (x : Value) (wr : World) : Prop :=
  ∃ (y : Int) (O : List Int) (v : Value), x = .int .i64 y ∧ InR y ∧ digs n.natAbs = O ++ digs y.natAbs ∧ OfBox w.heap.size s v wr ∧ Own wr (w.heap.size + 2) v O ∧ Below w.heap.size w wr

theorem Own.form {w : World} {base : Nat} {v : Value} {L : List Int} (h : Own w base v L) : ∃ a cap, v = .slice a L.length cap := by
  rcases h.2 with ⟨rfl, h0⟩ | ⟨g, cap, cur, rfl, _⟩
  · exact ⟨none, 0, by rw [h0]⟩
  · exact ⟨some ⟨g, 0, none⟩, cap, rfl⟩

theorem of_next {n y q z : Int} {O : List Int} {s : Bool} {v v' : Value} {w wr w1 : World} (hd : digs n.natAbs = O ++ digs y.natAbs) (hy : y ≠ 0) (hq : InR q) (h1 : q.natAbs = y.natAbs / 10) (h2 : z = ((y.natAbs % 10 : Nat) : Int))
    (hbox : OfBox w.heap.size s v wr) (hb : Below w.heap.size w wr) (hown : Own w1 (w.heap.size + 2) v' (O ++ [z])) (hb1 : Below (w.heap.size + 2) wr w1) :
    OfRel n s w (.int .i64 q) (w1.setCell ⟨w.heap.size + 1, 1, none⟩ v') := by
  refine ⟨q, O ++ [z], v', rfl, hq, ?_, (hbox.below hb1).store, ownsRow_setCell_below hown (by show w.heap.size + 1 < w.heap.size + 2; omega) _, ?_⟩
  · rw [hd, digs_pos (n := y.natAbs) (by omega), h1, h2]; simp
  · exact (hb.trans (hb1.mono (by omega))).setCell (by show w.heap.size ≤ w.heap.size + 1; omega) _

theorem digs_19 {y : Int} (h : InR y) : (digs y.natAbs).length ≤ 19 := digs_len _ _ (by unfold InR at h; omega)

theorem of_last {n : Int} {O : List Int} {w : World} {v : Value} {B : Nat} {s : Bool} (hd : digs n.natAbs = O ++ digs (Int.natAbs 0)) (hown : Own w (B + 2) v O) (hs : s = decide (n < 0)) :
    Big w (.agg #[.bool s, v]) n := by
  have e : digs n.natAbs = O := by rw [hd]; simp [digs_zero]
  refine ⟨v, by rw [hs], ?_⟩
  rw [e]
  exact hown.sl (digs_inR (by rw [← e]; exact digs_ok _))

theorem tmod_neg10 (y : Int) (h : y < 0) : y.tmod 10 = -((-y) % 10) := by
  have := Int.neg_tmod (-y) 10
  rw [Int.neg_neg] at this
  rw [this, Int.tmod_eq_emod_of_nonneg (a := -y) (by omega)]
theorem tdiv_neg10 (y : Int) (h : y < 0) : y.tdiv 10 = -((-y) / 10) := by
  have := Int.neg_tdiv (-y) 10
  rw [Int.neg_neg] at this
  rw [this, Int.tdiv_eq_ediv_of_nonneg (a := -y) (by omega)]

set_option maxHeartbeats 1000000 in
theorem of_any (n : Int) (hn : InR n) (w : World) :
    Calls Tryd.prog 25 #[.int .i64 n] w fun e w' => ∃ u, e = .returned u ∧ Big w' u n ∧ Below w.heap.size w w' := by
  obtain ⟨s, hs⟩ : ∃ s, decide (n < 0) = s := ⟨_, rfl⟩
  go_enter Tryd.func25, Tryd.ntmps25
  go_wp2
  have HN := Lib.hid (And.intro hn hs); clear hn hs
  go_loopw [4] (fun x wr => OfRel n s w x wr) (fun x _ => (intOf x).natAbs)
  case atStart =>
    refine ⟨n, [], .slice none 0 0, rfl, HN.out.1, by simp, ⟨?_, ?_, ?_, ?_, ?_, ?_, ?_, ?_⟩, Own.nil _ _, below2 _ _ _⟩ <;> simp [go_sem]
  case round =>
    obtain ⟨y, O, v, rfl, hy, hd, hbox, hown, hb⟩ := hrel
    have hlen : O.length ≤ 19 := by have := digs_19 HN.out.1; rw [hd, List.length_append] at this; omega
    have HD := Lib.hid hd; clear hd
    obtain ⟨a0, c0, rfl⟩ := hown.form
    have hb2 := hbox.2.2.2.2.2.2.2
    have HB := Lib.hid hbox
    obtain ⟨k1, k2, k3, k4, k5, k6, k7, k8⟩ := hbox
    have HY := Lib.hid hy
    unfold InR at hy
    rcases Int.lt_trichotomy y 0 with h0 | h0 | h0
    · obtain ⟨d, hd⟩ : ∃ d, d = (-y) % 10 := ⟨_, rfl⟩
      obtain ⟨q, hq⟩ : ∃ q, q = (-y) / 10 := ⟨_, rfl⟩
      have e1 : y.tmod 10 = -d := by rw [hd]; exact tmod_neg10 y h0
      have e2 : y.tdiv 10 = -q := by rw [hq]; exact tdiv_neg10 y h0
      have hd0 : 0 ≤ d := by omega
      have hd9 : d ≤ 9 := by omega
      have hq0 : 0 ≤ q := by omega
      have hq9 : q ≤ 922337203685477580 := by omega
      have HE := Lib.hid (And.intro hd hq); clear hd hq
      by_cases hz : d = 0
      · subst hz
        go_wp2_with (at_builtin; refine wp_push wr rfl (.tmp 21) (.tmp 23) rfl (w.heap.size + 2) _ O _ rfl hown rfl (by omega) hb2 ?_; intro v1 w1 hown1 hb1; obtain ⟨a1, c1, rfl⟩ := hown1.form; simp only [List.length_append, List.length_cons, List.length_nil, Nat.zero_add] at hown1; obtain ⟨l1, l2, l3, l4, l5, l6, l7, l8⟩ := HB.out.below hb1)
        exact ⟨of_next HD.out (by omega) (by unfold InR; omega) (by have := HE.out; omega) (by have := HE.out; omega) HB.out hb hown1 hb1, by simp [intOf]; have := HE.out; omega⟩
      · have hz' : -d < 0 := by omega
        go_wp2_with (at_builtin; refine wp_push wr rfl (.tmp 21) (.tmp 23) rfl (w.heap.size + 2) _ O _ rfl hown rfl (by omega) hb2 ?_; intro v1 w1 hown1 hb1; obtain ⟨a1, c1, rfl⟩ := hown1.form; simp only [List.length_append, List.length_cons, List.length_nil, Nat.zero_add] at hown1; obtain ⟨l1, l2, l3, l4, l5, l6, l7, l8⟩ := HB.out.below hb1)
        exact ⟨of_next HD.out (by omega) (by unfold InR; omega) (by have := HE.out; omega) (by have := HE.out; omega) HB.out hb hown1 hb1, by simp [intOf]; have := HE.out; omega⟩
    · subst h0
      go_wp2
      refine bodyPost_ret (v := .agg #[.bool s, .slice a0 O.length c0]) (by simp [results, Tryd.results25, go_sem, k1, k2]) rfl ⟨_, rfl, (of_last HD.out hown HN.out.2.symm).set2 k1 k2, ?_⟩
      exact (hb.setCell (Nat.le_refl _) _).setCell (Nat.le_refl _) _
    · go_wp2_with (at_builtin; refine wp_push wr rfl (.tmp 21) (.tmp 23) rfl (w.heap.size + 2) _ O _ rfl hown rfl (by omega) hb2 ?_; intro v1 w1 hown1 hb1; obtain ⟨a1, c1, rfl⟩ := hown1.form; simp only [List.length_append, List.length_cons, List.length_nil, Nat.zero_add] at hown1; obtain ⟨l1, l2, l3, l4, l5, l6, l7, l8⟩ := HB.out.below hb1)
      exact ⟨of_next HD.out (by omega) (by unfold InR; omega) (by omega) (by omega) HB.out hb hown1 hb1, by simp [intOf]; omega⟩
end Go.Proofs.YtmmjkbjceocpmaaDoor
