/-
  Who holds an entity in a period: what the landed At and the document's answer. The condition: a row of at most 1000000.
-/
import Derived.Test.YtebjmnppeohdiaaStkA
namespace Go.Proofs.Ytebjmnppeohdiaa
open Go.RowKit
set_option linter.unusedSimpArgs false
set_option linter.unusedVariables false

abbrev Ow4s (w : World) (B : Nat) (h : K4) : Prop := Ow4 w B (.int .i64 h.1) (.int .i64 h.2.1) (.int .i64 h.2.2.1) (.int .i64 h.2.2.2)
theorem below_set4 {B : Nat} {w w1 : World} (h : Below B w w1) {k : Nat} (hk : B ≤ k) (a b c d : Value) : Below B w ((((w1.setCell ⟨k, 0, none⟩ a).setCell ⟨k, 1, none⟩ b).setCell ⟨k, 2, none⟩ c).setCell ⟨k, 3, none⟩ d) :=
  (((h.setCell (p := ⟨k, 0, none⟩) hk a).setCell (p := ⟨k, 1, none⟩) hk b).setCell (p := ⟨k, 2, none⟩) hk c).setCell (p := ⟨k, 3, none⟩) hk d
theorem cell_set4 {w : World} {k j i : Nat} (hne : j ≠ k) (a b c d : Value) : ((((w.setCell ⟨k, 0, none⟩ a).setCell ⟨k, 1, none⟩ b).setCell ⟨k, 2, none⟩ c).setCell ⟨k, 3, none⟩ d).cell? ⟨j, i, none⟩ = w.cell? ⟨j, i, none⟩ :=
  (turn_set4 (F := fun j => j = k) (Turn.refl _ w) (Or.inl rfl) a b c d) |> fun t => by
    by_cases h : j < w.heap.size
    · exact t.cell (a := ⟨j, i, none⟩) h hne
    · have e : ∀ (w : World) (i' : Nat) (u : Value), (w.setCell ⟨k, i', none⟩ u).cell? ⟨j, i, none⟩ = w.cell? ⟨j, i, none⟩ := fun w i' u => World.cell?_setCell_other _ _ _ _ (fun q => hne (by cases q; rfl))
      rw [e, e, e, e]

set_option maxHeartbeats 4000000 in
set_option maxRecDepth 100000 in
theorem at_s (a : Option Addr) (c : Nat) (L : List K4) (x p : Int) (w : World) (hL : RdQ w a L) (hn : L.length ≤ 1000000) :
    Calls Try.prog 31 #[.slice a L.length c, .int .i64 x, .int .i64 p] w fun e w' => e = .returned (.tuple #[.int .i64 (upv L x p), .int .i64 (shv L x p)]) ∧ Below w.heap.size w w' := by
  have HL := Lib.hid hL; clear hL
  obtain ⟨u0, hu0⟩ : ∃ u, u = upv L x p := ⟨_, rfl⟩
  obtain ⟨s0, hs0⟩ : ∃ u, u = shv L x p := ⟨_, rfl⟩
  rw [← hu0, ← hs0]
  have HUS := Lib.hid (And.intro hu0 hs0); clear hu0 hs0
  have hA : Ow4s (w.alloc (.cells #[.int .i64 0, .int .i64 0, .int .i64 10000, .int .i64 (-9223372036854775808)] 75)) w.heap.size ini4 := Ow4.new _ _ _ _ _ _
  have hb1 := below1 w (.cells #[.int .i64 0, .int .i64 0, .int .i64 10000, .int .i64 (-9223372036854775808)] 75)
  have hsz : (w.alloc (.cells #[.int .i64 0, .int .i64 0, .int .i64 10000, .int .i64 (-9223372036854775808)] 75)).heap.size = w.heap.size + 1 := by simp
  have HA := Lib.hid (And.intro hA hb1)
  have HSZ := Lib.hid hsz
  clear hA hb1 hsz
  go_enter Try.func31, Try.ntmps31
  go_wp2_with fail
  generalize hw1 : w.alloc (.cells #[.int .i64 0, .int .i64 0, .int .i64 10000, .int .i64 (-9223372036854775808)] 75) = w1 at *
  clear hw1
  refine (among_c x p w1).mono ?_; rintro e w2 ⟨rfl, hw2⟩
  rw [HSZ.out]
  have hc0 : w2.cell? ⟨w.heap.size + 1, 0, none⟩ = some (.int .i64 x) := by rw [← HSZ.out, hw2]; simp
  have hc1 : w2.cell? ⟨w.heap.size + 1 + 1, 0, none⟩ = some (.int .i64 p) := by rw [← HSZ.out, hw2]; simp
  have hb2 : Below w1.heap.size w1 w2 := by rw [hw2]; exact below2 _ _ _
  have hA2 := HA.out.1.below hb2
  have HB2 : Hid (Below w.heap.size w w2) := HA.out.2.trans (hb2.mono HA.out.2.size)
  have HC0 := Lib.hid (And.intro hc0 hc1)
  have HA2 := Lib.hid hA2
  clear hw2 hb2 hA2 HA hc0 hc1
  generalize hB : w.heap.size + 1 = b0 at *
  have hBb : w.heap.size < b0 := by omega
  clear hB HSZ
  go_wp2_with fail
  go_loopw [18] (fun i wr => ∃ k : Nat, k ≤ L.length ∧ i = .int .i64 (k : Int) ∧ Ow4s wr w.heap.size (hel (L.take k) x p) ∧ Below w.heap.size w wr ∧ wr.cell? ⟨b0, 0, none⟩ = some (.int .i64 x) ∧ wr.cell? ⟨b0 + 1, 0, none⟩ = some (.int .i64 p)) (fun i _ => L.length - (RowKit.intOf i).toNat)
  case atStart => exact ⟨0, Nat.zero_le _, rfl, HA2.out, HB2.out, HC0.out.1, HC0.out.2⟩
  case round =>
    clear HA2 HB2 HC0
    obtain ⟨k, hk, rfl, hA, hb, hc0, hc1⟩ := hrel
    by_cases hlt : k < L.length
    · obtain ⟨b, off, rfl, d0, d1, d2, d3⟩ := (HL.out.below hb).2 k hlt
      have i0 : (0 : Int) ≤ (k : Int) := by omega
      have i1 : (k : Int) < (L.length : Int) := by omega
      have e1 : wrap64 ((k : Int) + 1) = (k : Int) + 1 := by unfold wrap64; omega
      have HT : Hid (hel (L.take (k + 1)) x p = stp x p (hel (L.take k) x p) (L.getD k z4)) := hel_take x p hlt
      have HB := Lib.hid hb
      generalize L.getD k z4 = s at *
      generalize hel (L.take k) x p = h at *
      have hbS := below1 wr (.cells #[.int .i64 s.1, .int .i64 s.2.1, .int .i64 s.2.2.1, .int .i64 s.2.2.2] 75)
      obtain ⟨g0, g1, g2, g3⟩ := new4 (w := wr) (s := s) (Below.refl _ _)
      have hS := Ow4.new wr (.int .i64 s.1) (.int .i64 s.2.1) (.int .i64 s.2.2.1) (.int .i64 s.2.2.2) 75
      have f0 := (hbS.cell (p := ⟨b0, 0, none⟩) (World.block_lt_of_cell? wr _ hc0)).trans hc0
      have f1 := (hbS.cell (p := ⟨b0 + 1, 0, none⟩) (World.block_lt_of_cell? wr _ hc1)).trans hc1
      have hy := among1 f0 f1 s
      have HF := Lib.hid (And.intro f0 f1)
      have HAS := Lib.hid (And.intro (hA.below hbS) hS)
      have HBS : Hid (Below w.heap.size w (wr.alloc (.cells #[.int .i64 s.1, .int .i64 s.2.1, .int .i64 s.2.2.1, .int .i64 s.2.2.2] 75))) := HB.out.trans (hbS.mono HB.out.size)
      have hnb : wr.heap.size ≠ w.heap.size := fun q => by have := hA.lt; omega
      clear hb hA hc0 hc1 f0 f1 hbS hS HB
      go_wp2_with fail
      generalize hW : wr.alloc (.cells #[.int .i64 s.1, .int .i64 s.2.1, .int .i64 s.2.2.1, .int .i64 s.2.2.2] 75) = W at *
      generalize hbs : wr.heap.size = bs at *
      clear hW hbs d0 d1 d2 d3
      refine hy.mono ?_; rintro e w4 ⟨rfl, hb4⟩
      obtain ⟨⟨y0, y1, y2, y3, q0, q1, q2, q3, hl1⟩, ⟨x0, x1, x2, x3, _, _, _, _, hl2⟩⟩ := And.intro (HAS.out.1.below hb4) (HAS.out.2.below hb4)
      have HA4 := Lib.hid (HAS.out.1.below hb4)
      have HB4 : Hid (Below w.heap.size w w4) := HBS.out.trans (hb4.mono HBS.out.size)
      have HF4 : Hid (w4.cell? ⟨b0, 0, none⟩ = some (.int .i64 x) ∧ w4.cell? ⟨b0 + 1, 0, none⟩ = some (.int .i64 p)) := ⟨(hb4.cell (p := ⟨b0, 0, none⟩) (World.block_lt_of_cell? W _ HF.out.1)).trans HF.out.1, (hb4.cell (p := ⟨b0 + 1, 0, none⟩) (World.block_lt_of_cell? W _ HF.out.2)).trans HF.out.2⟩
      clear hb4 hy HAS HBS HF g0 g1 g2 g3
      cases hcn : cnt x p s with
      | false =>
        have HN : Hid (stp x p h s = h) := stp_no hcn
        clear hcn
        go_wp2_with fail
        go_roundw
        · exact ⟨k + 1, by omega, by go_num, by rw [HT.out, HN.out]; exact HA4.out, HB4.out, HF4.out.1, HF4.out.2⟩
        · simp [RowKit.intOf]; omega
      | true =>
        by_cases hge : h.2.2.2 ≤ s.2.2.2
        · have HN : Hid (stp x p h s = s) := stp_yes hcn hge
          have e2 : decide (h.2.2.2 ≤ s.2.2.2) = true := decide_eq_true hge
          clear hcn hge
          go_wp2_with fail
          go_roundw
          · exact ⟨k + 1, by omega, by go_num, by rw [HT.out, HN.out]; exact HA4.out.put, below_set4 HB4.out (Nat.le_refl _) _ _ _ _, (cell_set4 (by omega) _ _ _ _).trans HF4.out.1, (cell_set4 (by omega) _ _ _ _).trans HF4.out.2⟩
          · simp [RowKit.intOf]; omega
        · have HN : Hid (stp x p h s = h) := stp_low (Int.not_le.1 hge)
          have e2 : decide (h.2.2.2 ≤ s.2.2.2) = false := decide_eq_false hge
          clear hcn hge
          go_wp2_with fail
          go_roundw
          · exact ⟨k + 1, by omega, by go_num, by rw [HT.out, HN.out]; exact HA4.out, HB4.out, HF4.out.1, HF4.out.2⟩
          · simp [RowKit.intOf]; omega
    · obtain rfl : k = L.length := by omega
      rw [List.take_length] at hA
      have hd0 : decide ((L.length : Int) < (L.length : Int)) = false := decide_eq_false (by omega)
      have HB := Lib.hid hb
      have HU : Hid (u0 = (hel L x p).2.1 ∧ s0 = (hel L x p).2.2.1) := HUS.out
      generalize hel L x p = h at *
      obtain ⟨y0, y1, y2, y3, _, _, _, _, hl1⟩ := hA
      clear hb hc0 hc1
      go_wp2_with fail
      go_quiet (fail)
      go_wp2_with fail
      go_ret2
      exact ⟨by rw [HU.out.1, HU.out.2]; rfl, below_drewN HB.out _⟩

/-- What the document's At keeps: whether one was found, its From. -/
def fndv (L : List K4) (x p : Int) (k : Nat) (f : Bool) (fr : Int) : Prop := (f = false ∧ hel (L.take k) x p = ini4) ∨ (f = true ∧ fr = (hel (L.take k) x p).2.2.2)
set_option maxHeartbeats 4000000 in
set_option maxRecDepth 100000 in
theorem r18at (a : Option Addr) (c : Nat) (L : List K4) (x p : Int) (w : World) (hL : RdQ w a L) (hn : L.length ≤ 1000000) :
    Calls Try.prog 35 #[.slice a L.length c, .int .i64 x, .int .i64 p] w fun e w' => e = .returned (.tuple #[.int .i64 (upv L x p), .int .i64 (shv L x p)]) ∧ Below w.heap.size w w' := by
  have HL := Lib.hid hL; clear hL
  obtain ⟨u0, hu0⟩ : ∃ u, u = upv L x p := ⟨_, rfl⟩
  obtain ⟨s0, hs0⟩ : ∃ u, u = shv L x p := ⟨_, rfl⟩
  rw [← hu0, ← hs0]
  have HUS := Lib.hid (And.intro hu0 hs0); clear hu0 hs0
  go_enter Try.func35, Try.ntmps35
  go_wp2_with fail
  go_loopw [8, 9, 10, 11, 12] (fun up us uf ub i wr => ∃ (k : Nat) (fr : Int) (f : Bool), k ≤ L.length ∧ i = .int .i64 (k : Int) ∧ up = .int .i64 (hel (L.take k) x p).2.1 ∧ us = .int .i64 (hel (L.take k) x p).2.2.1 ∧ uf = .int .i64 fr ∧ ub = .bool f ∧ fndv L x p k f fr ∧ Below w.heap.size w wr) (fun _ _ _ _ i _ => L.length - (RowKit.intOf i).toNat)
  case atStart => exact ⟨0, 0, false, Nat.zero_le _, rfl, rfl, rfl, rfl, rfl, Or.inl ⟨rfl, rfl⟩, Below.refl _ _⟩
  case round =>
    obtain ⟨k, fr, f, hk, rfl, rfl, rfl, rfl, rfl, hf, hb⟩ := hrel
    by_cases hlt : k < L.length
    · obtain ⟨b, off, rfl, d0, d1, d2, d3⟩ := (HL.out.below hb).2 k hlt
      have i0 : (0 : Int) ≤ (k : Int) := by omega
      have i1 : (k : Int) < (L.length : Int) := by omega
      have e1 : wrap64 ((k : Int) + 1) = (k : Int) + 1 := by unfold wrap64; omega
      have HT : Hid (hel (L.take (k + 1)) x p = stp x p (hel (L.take k) x p) (L.getD k z4)) := hel_take x p hlt
      have HOK : Hid (ok4 (L.getD k z4)) := HL.out.at hlt
      have hf : (f = false ∧ hel (L.take k) x p = ini4) ∨ (f = true ∧ fr = (hel (L.take k) x p).2.2.2) := hf
      have HB := Lib.hid hb
      generalize L.getD k z4 = s at *
      generalize hel (L.take k) x p = h at *
      have HF := Lib.hid hf
      have hbS := below1 wr (.cells #[.int .i64 s.1, .int .i64 s.2.1, .int .i64 s.2.2.1, .int .i64 s.2.2.2] 75)
      obtain ⟨g0, g1, g2, g3⟩ := new4 (w := wr) (s := s) (Below.refl _ _)
      have HBS : Hid (Below w.heap.size w (wr.alloc (.cells #[.int .i64 s.1, .int .i64 s.2.1, .int .i64 s.2.2.1, .int .i64 s.2.2.2] 75))) := HB.out.trans (hbS.mono HB.out.size)
      clear hb HB hbS hf
      by_cases hx : s.1 = x
      · have ex : (s.1 == x) = true := by simpa using hx
        by_cases hp : s.2.2.2 ≤ p
        · have ep : decide (s.2.2.2 ≤ p) = true := decide_eq_true hp
          have hcn := cnt_yes hx hp
          cases f with
          | false =>
            have HN : Hid (stp x p h s = s) := stp_yes hcn (by
              rcases HF.out with ⟨_, q⟩ | ⟨q, _⟩
              · have := HOK.out.2.2.2
                unfold InR at this
                rw [q]; exact this.1
              · cases q)
            clear hcn hp hx
            go_wp2_with fail
            go_quiet (fail)
            go_wp2_with fail
            go_roundw
            · exact ⟨k + 1, s.2.2.2, true, by omega, by go_num, by rw [HT.out, HN.out], by rw [HT.out, HN.out], rfl, rfl, Or.inr ⟨rfl, by rw [HT.out, HN.out]⟩, below_drewN HBS.out _⟩
            · simp [RowKit.intOf]; omega
          | true =>
            have hfr : fr = h.2.2.2 := HF.out.elim (fun q => by cases q.1) And.right
            by_cases hge : h.2.2.2 ≤ s.2.2.2
            · have HN : Hid (stp x p h s = s) := stp_yes hcn hge
              have e2 : decide (fr ≤ s.2.2.2) = true := decide_eq_true (by omega)
              clear hcn hge hp hx hfr
              go_wp2_with fail
              go_quiet (fail)
              go_wp2_with fail
              go_roundw
              · exact ⟨k + 1, s.2.2.2, true, by omega, by go_num, by rw [HT.out, HN.out], by rw [HT.out, HN.out], rfl, rfl, Or.inr ⟨rfl, by rw [HT.out, HN.out]⟩, below_drewN HBS.out _⟩
              · simp [RowKit.intOf]; omega
            · have HN : Hid (stp x p h s = h) := stp_low (Int.not_le.1 hge)
              have e2 : decide (fr ≤ s.2.2.2) = false := decide_eq_false (by omega)
              clear hcn hge hp hx hfr
              go_wp2_with fail
              go_roundw
              · exact ⟨k + 1, fr, true, by omega, by go_num, by rw [HT.out, HN.out], by rw [HT.out, HN.out], rfl, rfl, Or.inr ⟨rfl, by rw [HT.out, HN.out]; exact HF.out.elim (fun q => by cases q.1) And.right⟩, HBS.out⟩
              · simp [RowKit.intOf]; omega
        · have ep : decide (s.2.2.2 ≤ p) = false := decide_eq_false hp
          have HN : Hid (stp x p h s = h) := stp_no (cnt_no (fun q => hp q.2))
          clear hp hx
          go_wp2_with fail
          go_roundw
          · exact ⟨k + 1, fr, f, by omega, by go_num, by rw [HT.out, HN.out], by rw [HT.out, HN.out], rfl, rfl, by unfold fndv; rw [HT.out, HN.out]; exact HF.out, HBS.out⟩
          · simp [RowKit.intOf]; omega
      · have ex : (s.1 == x) = false := by simpa using hx
        have HN : Hid (stp x p h s = h) := stp_no (cnt_no (fun q => hx q.1))
        clear hx
        go_wp2_with fail
        go_roundw
        · exact ⟨k + 1, fr, f, by omega, by go_num, by rw [HT.out, HN.out], by rw [HT.out, HN.out], rfl, rfl, by unfold fndv; rw [HT.out, HN.out]; exact HF.out, HBS.out⟩
        · simp [RowKit.intOf]; omega
    · obtain rfl : k = L.length := by omega
      rw [List.take_length] at *
      have hd0 : decide ((L.length : Int) < (L.length : Int)) = false := decide_eq_false (by omega)
      have HB := Lib.hid hb
      have HU : Hid (u0 = (hel L x p).2.1 ∧ s0 = (hel L x p).2.2.1) := HUS.out
      generalize hel L x p = h at *
      clear hb hf
      go_wp2_with fail
      go_ret2
      exact ⟨by rw [HU.out.1, HU.out.2]; rfl, HB.out⟩
end Go.Proofs.Ytebjmnppeohdiaa
