/-
  The landed Leaves, below and Under. The condition: at most 1000 accounts.
-/
import Derived.Test.YteendpdidkekkaaAccD
import Derived.Deep.LoopGhost
namespace Go.Proofs.Yteendpdidkekkaa
open Go.RowKit
set_option linter.unusedSimpArgs false
set_option linter.unusedVariables false

theorem beq_len (L : List Int) : (((L.length : Nat) : Int) == 0) = decide (L = []) := by
  cases L with
  | nil => rfl
  | cons a L =>
    rw [decide_eq_false (by simp)]
    rw [beq_eq_false_iff_ne]; simp; omega
set_option maxRecDepth 100000 in
theorem leaves1_c {w : World} {b0 B m : Nat} {r : Nat → List Int} (h0 : w.cell? ⟨b0, 0, none⟩ = some (.slice (some ⟨B, 0, none⟩) m m)) (hF : FamR w B m r) (j : Nat) (hj : j < m) :
    Calls Try.prog 46 #[.int .i64 (j : Int), .pointer (some ⟨b0, 0, none⟩)] w fun e w' => e = .returned (.bool (decide (r j = []))) ∧ Below w.heap.size w w' := by
  obtain ⟨v, hc, hs⟩ := hF j hj
  obtain ⟨va, vc, rfl⟩ := hs.form
  have j0 : (0 : Int) ≤ (j : Int) := by omega
  have j1 : (j : Int) < (m : Int) := by omega
  rw [← beq_len]
  generalize (r j).length = l at *
  clear hs hF hj
  go_enter Try.func46, Try.ntmps46
  go_wp2_with fail
  go_ret
  exact ⟨rfl, Below.refl _ _⟩
theorem lvs_is (n : Nat) (f : Int → Int) : lvs n f = flt n fun x => decide (fam n f x = []) := by
  unfold lvs
  refine flt_congr fun x hx => ?_
  unfold lfa
  rw [decide_eq_true hx]; rfl
set_option maxHeartbeats 1000000 in
set_option maxRecDepth 100000 in
theorem leaves_a (a : Option Addr) (c : Nat) (L : List AcT) (w : World) (hL : RdA w a L) (hn : L.length ≤ 1000) :
    Calls Try.prog 16 #[.slice a L.length c] w fun e w' => ∃ v, e = .returned v ∧ Own w' w.heap.size v (lvs L.length (pa L)) ∧ Below w.heap.size w w' := by
  have hmf : ∀ (fn : Fn) (first cap : Array Value) (w : World), (Instr.makeFunc fn first cap).run Try.prog w = .ok (.func fn first cap) w := fun _ _ _ _ => rfl
  have hf := families_c a c L w hL hn
  have HT : Hid (∀ (W : World) (b0 B : Nat), W.cell? ⟨b0, 0, none⟩ = some (.slice (some ⟨B, 0, none⟩) (L.length + 1) (L.length + 1)) → FamR W B (L.length + 1) (fun j => fam L.length (pa L) (j : Int)) → Calls Try.prog 39 #[.slice a L.length c, .func (.func 46) #[] #[.pointer (some ⟨b0, 0, none⟩)]] W fun e w' => ∃ v, e = .returned v ∧ Own w' W.heap.size v (lvs L.length (pa L)) ∧ Below W.heap.size W w') := fun W b0 B h0 hF => by
    rw [lvs_is]
    refine those_a 46 (fun _ _ => rfl) #[.pointer (some ⟨b0, 0, none⟩)] _ a L.length c hn W (fun x wr hx q => ?_)
    obtain ⟨j, rfl⟩ : ∃ j : Nat, x = (j : Int) := ⟨x.toNat, by unfold Ent at hx; omega⟩
    exact leaves1_c ((q.cell (p := ⟨b0, 0, none⟩) (World.block_lt_of_cell? _ _ h0)).trans h0) (hF.below q) j (by unfold Ent at hx; omega)
  generalize lvs L.length (pa L) = M at *
  generalize hm : L.length + 1 = m at *
  clear hL hm
  go_enter Try.func16, Try.ntmps16
  go_wp2_with fail
  refine hf.mono ?_; clear hf; rintro e w1 ⟨rfl, hF, hb⟩
  have hbx := below1 w1 (.cells #[.slice (some ⟨w.heap.size, 0, none⟩) m m] 62)
  have ht := HT.out (w1.alloc (.cells #[.slice (some ⟨w.heap.size, 0, none⟩) m m] 62)) w1.heap.size w.heap.size (by simp) (hF.below hbx)
  have HB : Hid (Below w.heap.size w (w1.alloc (.cells #[.slice (some ⟨w.heap.size, 0, none⟩) m m] 62))) := hb.trans (hbx.mono hb.size)
  clear hF hb hbx
  go_wp2_with fail
  refine ht.mono ?_; clear ht; rintro e w2 ⟨v, rfl, ho, hb2⟩
  have HO := Lib.hid (ho.down HB.out.size)
  have HB2 : Hid (Below w.heap.size w w2) := HB.out.trans (hb2.mono HB.out.size)
  clear ho hb2
  go_wp2_with fail
  go_ret
  exact ⟨_, rfl, HO.out, HB2.out⟩
/-- A row of numbers, cut short by one. -/
theorem own_init {w : World} {base g n cap : Nat} {L : List Int} {z : Int} (h : Own w base (.slice (some ⟨g, 0, none⟩) n cap) (L ++ [z])) : Own w base (.slice (some ⟨g, 0, none⟩) L.length cap) L := by
  have h1 := h.1
  rcases h.2 with ⟨q, _⟩ | ⟨g', cap', cur, e, h2, h3, h4, h5, h6, h7⟩
  · cases q
  · cases e
    refine ⟨by simp, Or.inr ⟨g, cap, cur, rfl, h2, h3, ?_, h5, h6, ?_⟩⟩
    · rw [List.length_append, List.length_singleton] at h4; omega
    · have := congrArg (fun l => l.take (L.length * 1)) h7
      simp only [List.take_take] at this
      rw [List.length_append, List.length_singleton, show min (L.length * 1) ((L.length + 1) * 1) = L.length * 1 by omega] at this
      rw [this]
      simp
/-- Rows of numbers and rows of truths lie apart. -/
theorem own_apart {w : World} {base base' : Nat} {v v' : Value} {L : List Int} {I : List Bool} (h : Own w base v L) (h' : OwnB w base' v' I) {b : Nat} (q : v.ownBlock = some b) : v'.ownBlock ≠ some b := by
  intro q'
  rcases h.2 with ⟨e, _⟩ | ⟨g, cap, cur, e, _, h3, _⟩
  · rw [e] at q; cases q
  · rcases h'.2 with ⟨e', _⟩ | ⟨g', cap', cur', e', _, h3', _⟩
    · rw [e'] at q'; cases q'
    · rw [e] at q; rw [e'] at q'
      cases q; cases q'
      rw [h3] at h3'
      simp at h3'
theorem ownB_turn {F : Nat → Prop} {w w' : World} {base : Nat} {v : Value} {I : List Bool} (h : OwnB w base v I) (t : Turn F w w') (hn : ∀ b, v.ownBlock = some b → ¬ F b) : OwnB w' base v I := own_turn h t hn
theorem own_turnI {F : Nat → Prop} {w w' : World} {base : Nat} {v : Value} {L : List Int} (h : Own w base v L) (t : Turn F w w') (hn : ∀ b, v.ownBlock = some b → ¬ F b) : Own w' base v L := own_turn h t hn
theorem bools_made (w : World) (m : Nat) (hm : m ≤ 1001) : OwnB (w.alloc (.cells (madeCells #[.bool false] m) 4)) w.heap.size (.slice (some ⟨w.heap.size, 0, none⟩) m m) (List.replicate m false) := by
  have h := World.ownsRow_lit (base := w.heap.size) (e := 4) (size := 1) w (madeCells #[.bool false] m) m (Nat.le_refl _) (by unfold maxLen; omega) (by rw [size_madeCells, Nat.mul_one])
  rw [toList_madeCells_one] at h
  unfold OwnB
  rw [List.length_replicate, List.map_replicate]; exact h
theorem bool20 : (Try.prog.info? 4).map (fun i => (i.zero, i.size, i.bytes)) = some (some (.bool false), 1, 1) := by kernel_rfl
/-- What is kept on the way down. -/
structure DnW (w0 w : World) (g m : Nat) (n : Nat) (f : Int → Int) (a : Int) (I : List Bool) (v : Value) (W : List Int) : Prop where
  s : DsS n f a I W
  i : OwnB w w0.heap.size (.slice (some ⟨g, 0, none⟩) m m) I
  o : Own w w0.heap.size v W
  b : Below w0.heap.size w0 w
theorem ds_few {n : Nat} {f : Int → Int} {a : Int} {I : List Bool} {W : List Int} (h : DsS n f a I W) (hn : n ≤ 1000) : W.length ≤ 1001001 := by
  have h1 := h.short
  have h2 : (n + 1) * n ≤ 1001 * 1000 := Nat.mul_le_mul (by omega) hn
  omega
theorem snoc_of {W : List Int} (h : 0 < W.length) : ∃ V x, W = V ++ [x] := ⟨W.dropLast, W.getLast (List.ne_nil_of_length_pos h), (List.dropLast_concat_getLast _).symm⟩
set_option maxHeartbeats 8000000 in
set_option maxRecDepth 100000 in
theorem below_a {w : World} {B m n : Nat} {f : Int → Int} (a : Int) (hm : m = n + 1) (hn : n ≤ 1000) (ho : PO n f) (ha : Ent (n : Int) a) (hF : FamR w B m (fun j => fam n f (j : Int))) :
    Calls Try.prog 47 #[.slice (some ⟨B, 0, none⟩) m m, .int .i64 a] w fun e w' => ∃ (g : Nat) (I : List Bool), e = .returned (.slice (some ⟨g, 0, none⟩) m m) ∧ OwnB w' w.heap.size (.slice (some ⟨g, 0, none⟩) m m) I ∧ I.length = m ∧ (∀ x : Nat, Ent (n : Int) (x : Int) → I.getD x false = hasU n f a (x : Int)) ∧ Below w.heap.size w w' := by
  obtain ⟨ii, hi, hz0, hz1, hz2⟩ := info_parts bool20
  have hmk : (Instr.makeSlice 64 (.int .i64 m) (.int .i64 m)).run Try.prog w = .ok (.slice (some ⟨w.heap.size, 0, none⟩) m m) (w.alloc (.cells (madeCells #[.bool false] m) 4)) := by
    have := run_makeSlice (P := Try.prog) (w := w) 64 4 ii (.bool false) Try.underlying64 hi hz0 .i64 .i64 m m (by omega) (by omega) (by rw [hz1]; omega) (by rw [hz2]; omega) (by omega)
    rw [hz1] at this; simpa [Value.cells] using this
  have hO1 := bools_made w m (by omega)
  have hB1 := below1 w (.cells (madeCells #[.bool false] m) 4)
  have hsz : (w.alloc (.cells (madeCells #[.bool false] m) 4)).heap.size = w.heap.size + 1 := by simp
  have hO2 := own_lit1 (w.alloc (.cells (madeCells #[.bool false] m) 4)) w.heap.size (by simp) a
  have hB2 := below1 (w.alloc (.cells (madeCells #[.bool false] m) 4)) (.cells #[.int .i64 a] 3)
  have H0 : Hid (DnW w ((w.alloc (.cells (madeCells #[.bool false] m) 4)).alloc (.cells #[.int .i64 a] 3)) w.heap.size m n f a (List.replicate m false) (.slice (some ⟨w.heap.size + 1, 0, none⟩) 1 1) [a]) := by
    refine ⟨by rw [hm]; exact DsS.start f ha, hO1.below hB2, ?_, hB1.trans (hB2.mono hB1.size)⟩
    rw [hsz] at hO2; exact hO2
  have HF := Lib.hid hF
  have HO := Lib.hid ho
  have HM : Hid (m = n + 1 ∧ n ≤ 1000) := ⟨hm, hn⟩
  have HSZ := Lib.hid hsz
  have hml : m < 2000 := by omega
  clear hi hz0 hz1 hz2 ii hF ho ha hO1 hB1 hO2 hB2 hsz hm hn
  go_enter Try.func47, Try.ntmps47
  go_wp2_with fail
  clear hmk HSZ
  generalize (w.alloc (.cells (madeCells #[.bool false] m) 4)).alloc (.cells #[.int .i64 a] 3) = W2 at *
  obtain ⟨g, hg⟩ : ∃ g, g = w.heap.size := ⟨_, rfl⟩
  have HG := Lib.hid hg
  rw [← hg] at H0
  simp only [← hg]
  clear hg
  go_loopg [6] ((n + 1) * (n + 1) + 1) (fun k v wr => ∃ (I : List Bool) (W : List Int), DnW w wr g m n f a I v W ∧ I.count false * (n + 1) + W.length ≤ k)
  case atStart => exact ⟨_, _, H0.out, by rw [HM.out.1, List.count_replicate_self]; simp⟩
  case round =>
    clear H0
    obtain ⟨I, W, hD, hk⟩ := hrel
    have hfew := ds_few hD.s HM.out.2
    obtain ⟨wa, wc, hv⟩ := (ownsRow_slc hD.o).form
    have HD := Lib.hid hD
    subst hv
    rcases Nat.eq_zero_or_pos W.length with hW | hW
    · have hW0 : W = [] := List.eq_nil_of_length_eq_zero hW
      subst hW0
      have d0 : decide ((0 : Int) < (([] : List Int).length : Int)) = false := rfl
      clear hD hk hfew
      go_wp2_with fail
      go_ret
      exact ⟨g, I, rfl, HD.out.i, HD.out.s.len.trans HM.out.1.symm, fun x hx => by have := HD.out.s.fin HO.out hx; rwa [Int.toNat_natCast] at this, HD.out.b⟩
    · obtain ⟨V, x, rfl⟩ := snoc_of hW
      have hl : (V ++ [x]).length = V.length + 1 := by simp
      obtain ⟨l, hll⟩ : ∃ l, V.length = l := ⟨_, rfl⟩
      rw [hl, hll] at hfew hk hW
      have HX := Lib.hid hD.s.last
      obtain ⟨j, rfl⟩ : ∃ j : Nat, x = (j : Int) := ⟨x.toNat, by have := HX.out; unfold Ent at this; omega⟩
      have hjm : j < m := by have := HX.out; have := HM.out; unfold Ent at *; omega
      have hcx : ∃ wg, wa = some ⟨wg, 0, none⟩ ∧ wr.cell? ⟨wg, l, none⟩ = some (.int .i64 (j : Int)) := by
        rcases hD.o.2 with ⟨e, q⟩ | ⟨wg, cap, cur, e, _⟩
        · simp at q
        · cases e
          refine ⟨wg, rfl, ?_⟩
          have := World.ownsRow.cellAt hD.o l (by rw [hl]; omega)
          rw [this, ← hll]; simp
      obtain ⟨wg, rfl, hcx⟩ := hcx
      have hbj := hD.i.at (by have := hD.s.len; have := HM.out; omega) hjm
      have HV : Hid (Own wr w.heap.size (.slice (some ⟨wg, 0, none⟩) l wc) V) := by
        have q := hD.o
        rw [hl, hll] at q
        have := own_init q
        rwa [hll] at this
      have hwc : l + 1 ≤ wc := by
        have q := ownsRow_slc hD.o
        obtain ⟨a1, c1, e, h2, _⟩ := q
        cases e
        omega
      obtain ⟨fv, hfc, hfs⟩ := (HF.out.below HD.out.b) j hjm
      obtain ⟨fa, fc, rfl⟩ := hfs.form
      obtain ⟨q, hq⟩ : ∃ q, q = l + 1 := ⟨_, rfl⟩
      simp only [hl, hll, ← hq] at hcx ⊢
      have d0 : decide ((0 : Int) < (q : Int)) = true := decide_eq_true (by omega)
      have d0n : decide (0 < q) = true := decide_eq_true (by omega)
      have e1 : wrap64 ((q : Int) - 1) = (l : Int) := by unfold wrap64; omega
      have i0 : (0 : Int) ≤ (l : Int) := by omega
      have i1 : (l : Int) < (q : Int) := by omega
      have i2 : (l : Int) ≤ (wc : Int) := by omega
      have i3 : l ≤ wc := by omega
      have j0 : (0 : Int) ≤ (j : Int) := by omega
      have j1 : (j : Int) < (m : Int) := by omega
      have HLL : Hid (V.length = l) := hll
      have HK : Hid (I.count false * (n + 1) + (l + 1) ≤ gk ∧ l ≤ 1002000) := ⟨hk, by omega⟩
      obtain ⟨hbj, hbz⟩ := hbj
      cases hbv : I.getD j false with
      | true =>
        rw [hbv] at hbj
        have HS : Hid (DsS n f a I V) := HD.out.s.no (by rw [Int.toNat_natCast]; exact hbv)
        clear hD hk hfew hl hll hq hjm hfs hwc hbv hW
        go_wp2_with fail
        go_roundg (gk - 1)
        case measure => have := HK.out; omega
        case rel => exact ⟨I, V, ⟨HS.out, HD.out.i, HV.out, HD.out.b⟩, by have := HK.out; rw [HLL.out]; omega⟩
      | false =>
        rw [hbv] at hbj
        have HS := Lib.hid (HD.out.s.yes (by rw [Int.toNat_natCast]; exact hbv))
        have HC := Lib.hid (count_set (I := I) (k := j) (by have := HD.out.s.len; have := HM.out; omega) hbv)
        have hB4 := (HD.out.i.store (by have := HD.out.s.len; have := HM.out; omega) j true)
        have ht4 : Turn (fun i => i = g) wr (wr.setCell ⟨g, j, none⟩ (.bool true)) := turn_set (F := fun i => i = g) (p := ⟨g, j, none⟩) (Turn.refl _ _) (Or.inl (show g = g from rfl)) _
        have hgb : w.heap.size ≤ g := (World.ownsRow.lt HD.out.i g rfl).1
        have hV4 : Own (wr.setCell ⟨g, j, none⟩ (.bool true)) w.heap.size (.slice (some ⟨wg, 0, none⟩) l wc) V := own_turnI HV.out ht4 (fun b e r => by subst r; exact own_apart HV.out HD.out.i e rfl)
        have hb4 : Below w.heap.size w (wr.setCell ⟨g, j, none⟩ (.bool true)) := HD.out.b.trans (ht4.below (fun i e => by omega) HD.out.b.size)
        have H4 := Lib.hid (And.intro hB4 (And.intro hV4 hb4))
        have hF4 := (HF.out.below hb4) j hjm
        clear hfs hfc
        obtain ⟨fv, hfc, hfs⟩ := hF4
        obtain ⟨fa, fc, rfl⟩ := hfs.form
        replace hfc : (wr.setCell ⟨g, j, none⟩ (.bool true)).cell? ⟨B, j, none⟩ = some (.slice fa (fam n f (j : Int)).length fc) := hfc
        have HSL : Hid (SlC (wr.setCell ⟨g, j, none⟩ (.bool true)) (.slice fa (fam n f (j : Int)).length fc) 1 (fam n f (j : Int)).length (ints (fam n f (j : Int)))) := hfs.slc
        have HFM : Hid ((fam n f (j : Int)).length ≤ n) := fam_len _ _ _
        have HFL : Hid ((fam n f (j : Int)).length ≤ 1000) := Nat.le_trans (fam_len _ _ _) HM.out.2
        generalize hw4 : wr.setCell ⟨g, j, none⟩ (.bool true) = w4 at *
        have hsz4 := hb4.size
        clear hD hk hfew hl hll hq hwc hbv hW hB4 ht4 hgb hV4 hb4 hfs
        have HJM := Lib.hid hjm
        clear hjm
        generalize fam n f (j : Int) = M at *
        have HW4 := Lib.hid hw4
        clear hw4
        go_upto_region 9 with fail
        rw [HW4.out]
        go_wp2_with
          (at_builtin
           refine wpList_app rfl (.tmp 35) (.tmp 39) 30 rfl w.heap.size 3 1 8 (.int .i64 0) Try.underlying30 int_info rfl (by decide) (.slice (some ⟨wg, 0, none⟩) l wc) V.length (V.map (Value.int .i64)) rfl H4.out.2.1 (.slice fa M.length fc) M.length (ints M) rfl HSL.out (ints_one _) (by have := HK.out; have := HLL.out; have := HFL.out; omega) (by decide) hsz4 ?_
           intro v5 w5 ho5 hb5 hg5
           have ho6 : Own w5 w.heap.size v5 (V ++ M) := by
             show World.ownsRow _ _ _ _ _ _ _
             rw [List.length_append, List.map_append]; exact ho5
           have hB6 := ownB_turn H4.out.1 (turn_grown hg5) (fun b e r => own_apart H4.out.2.1 H4.out.1 r e)
           have H6 := Lib.hid (And.intro hB6 (And.intro ho6 (H4.out.2.2.trans hb5)))
           clear ho5 hb5 hg5 ho6 hB6)
        go_roundg (gk - 1)
        case measure => have := HK.out; omega
        case rel =>
          refine ⟨I.set j true, V ++ M, ⟨?_, H6.out.1, H6.out.2.1, H6.out.2.2⟩, ?_⟩
          · have := HS.out; rwa [Int.toNat_natCast] at this
          · have h1 := HK.out.1
            have h2 := HC.out
            have h3 := HFM.out
            rw [← h2, Nat.succ_mul] at h1
            rw [List.length_append, HLL.out]
            omega
set_option maxRecDepth 100000 in
theorem under1_c {w : World} {b0 b1 B g m : Nat} {base : Nat} {I : List Bool} {r : Nat → List Int} (h0 : w.cell? ⟨b0, 0, none⟩ = some (.slice (some ⟨g, 0, none⟩) m m)) (h1 : w.cell? ⟨b1, 0, none⟩ = some (.slice (some ⟨B, 0, none⟩) m m)) (hI : OwnB w base (.slice (some ⟨g, 0, none⟩) m m) I) (hl : I.length = m) (hF : FamR w B m r) (j : Nat) (hj : j < m) :
    Calls Try.prog 48 #[.int .i64 (j : Int), .pointer (some ⟨b0, 0, none⟩), .pointer (some ⟨b1, 0, none⟩)] w fun e w' => e = .returned (.bool (I.getD j false && decide (r j = []))) ∧ Below w.heap.size w w' := by
  obtain ⟨v, hc, hs⟩ := hF j hj
  obtain ⟨va, vc, rfl⟩ := hs.form
  obtain ⟨hbj, -⟩ := hI.at hl hj
  have j0 : (0 : Int) ≤ (j : Int) := by omega
  have j1 : (j : Int) < (m : Int) := by omega
  rw [← beq_len]
  generalize (r j).length = l at *
  generalize I.getD j false = t at *
  clear hs hF hj hI hl
  cases t with
  | true =>
    go_enter Try.func48, Try.ntmps48
    go_wp2_with fail
    go_ret
    exact ⟨by simp, Below.refl _ _⟩
  | false =>
    go_enter Try.func48, Try.ntmps48
    go_wp2_with fail
    go_ret
    exact ⟨by simp, Below.refl _ _⟩
set_option maxHeartbeats 2000000 in
set_option maxRecDepth 100000 in
theorem under_a (a : Option Addr) (c : Nat) (L : List AcT) (y : Int) (w : World) (hL : RdA w a L) (hn : L.length ≤ 1000) :
    Calls Try.prog 20 #[.slice a L.length c, .int .i64 y] w fun e w' => ∃ v, e = .returned v ∧ Own w' w.heap.size v (unl L.length (pa L) y) ∧ Below w.heap.size w w' := by
  have hmf : ∀ (fn : Fn) (first cap : Array Value) (w : World), (Instr.makeFunc fn first cap).run Try.prog w = .ok (.func fn first cap) w := fun _ _ _ _ => rfl
  have hi := isone_c a L.length c y w
  by_cases hy : Ent (L.length : Int) y
  · rw [decide_eq_true hy] at hi
    have hf := families_c a c L w hL hn
    have HE : Hid (unl L.length (pa L) y = flt L.length (unb L.length (pa L) y)) := if_pos hy
    have HD : Hid (∀ (W : World) (B : Nat), FamR W B (L.length + 1) (fun j => fam L.length (pa L) (j : Int)) → Calls Try.prog 47 #[.slice (some ⟨B, 0, none⟩) (L.length + 1) (L.length + 1), .int .i64 y] W fun e w' => ∃ (g : Nat) (I : List Bool), e = .returned (.slice (some ⟨g, 0, none⟩) (L.length + 1) (L.length + 1)) ∧ OwnB w' W.heap.size (.slice (some ⟨g, 0, none⟩) (L.length + 1) (L.length + 1)) I ∧ I.length = L.length + 1 ∧ (∀ x : Nat, Ent (L.length : Int) (x : Int) → I.getD x false = hasU L.length (pa L) y (x : Int)) ∧ Below W.heap.size W w') := fun W B hF => below_a y rfl hn (pa_po L) hy hF
    have HT : Hid (∀ (W : World) (b0 b1 B g base : Nat) (I : List Bool), W.cell? ⟨b0, 0, none⟩ = some (.slice (some ⟨g, 0, none⟩) (L.length + 1) (L.length + 1)) → W.cell? ⟨b1, 0, none⟩ = some (.slice (some ⟨B, 0, none⟩) (L.length + 1) (L.length + 1)) → OwnB W base (.slice (some ⟨g, 0, none⟩) (L.length + 1) (L.length + 1)) I → I.length = L.length + 1 → (∀ x : Nat, Ent (L.length : Int) (x : Int) → I.getD x false = hasU L.length (pa L) y (x : Int)) → FamR W B (L.length + 1) (fun j => fam L.length (pa L) (j : Int)) → Calls Try.prog 39 #[.slice a L.length c, .func (.func 48) #[] #[.pointer (some ⟨b0, 0, none⟩), .pointer (some ⟨b1, 0, none⟩)]] W fun e w' => ∃ v, e = .returned v ∧ Own w' W.heap.size v (flt L.length (unb L.length (pa L) y)) ∧ Below W.heap.size W w') := fun W b0 b1 B g base I h0 h1 hI hl hx hF => by
      refine those_a 48 (fun _ _ => rfl) #[.pointer (some ⟨b0, 0, none⟩), .pointer (some ⟨b1, 0, none⟩)] _ a L.length c hn W (fun x wr hxe q => ?_)
      obtain ⟨j, rfl⟩ : ∃ j : Nat, x = (j : Int) := ⟨x.toNat, by unfold Ent at hxe; omega⟩
      have := under1_c ((q.cell (p := ⟨b0, 0, none⟩) (World.block_lt_of_cell? _ _ h0)).trans h0) ((q.cell (p := ⟨b1, 0, none⟩) (World.block_lt_of_cell? _ _ h1)).trans h1) (hI.below q) hl (hF.below q) j (by unfold Ent at hxe; omega)
      rw [hx j hxe] at this
      exact this
    generalize flt L.length (unb L.length (pa L) y) = M at *
    have HH : Hid (∃ h : Nat → Bool, ∀ x : Nat, hasU L.length (pa L) y (x : Int) = h x) := ⟨fun x => hasU L.length (pa L) y (x : Int), fun _ => rfl⟩
    generalize hm : L.length + 1 = m at *
    clear hL hy
    go_enter Try.func20, Try.ntmps20
    go_wp2_with fail
    refine hi.mono ?_; clear hi; rintro e w0 ⟨rfl, rfl⟩
    clear hm
    go_wp2_with fail
    refine hf.mono ?_; clear hf; rintro e w1 ⟨rfl, hF, hb⟩
    have hbx := below1 w1 (.cells #[.slice (some ⟨w.heap.size, 0, none⟩) m m] 62)
    have c1 : (w1.alloc (.cells #[.slice (some ⟨w.heap.size, 0, none⟩) m m] 62)).cell? ⟨w1.heap.size, 0, none⟩ = some (.slice (some ⟨w.heap.size, 0, none⟩) m m) := by simp
    have hd := HD.out (w1.alloc (.cells #[.slice (some ⟨w.heap.size, 0, none⟩) m m] 62)) w.heap.size (hF.below hbx)
    have HF1 := Lib.hid (hF.below hbx)
    have HB : Hid (Below w.heap.size w (w1.alloc (.cells #[.slice (some ⟨w.heap.size, 0, none⟩) m m] 62))) := hb.trans (hbx.mono hb.size)
    have hlt := World.block_lt_of_cell? _ _ c1
    clear hF hb hbx
    go_upto_region 4 with fail
    generalize w1.alloc (.cells #[.slice (some ⟨w.heap.size, 0, none⟩) m m] 62) = W at *
    generalize w1.heap.size = b1 at *
    go_wp2_with fail
    refine hd.mono ?_; clear hd; rintro e w2 ⟨g, I, rfl, hI, hIl, hIx, hb2⟩
    have c2 := (hb2.cell (p := ⟨b1, 0, none⟩) hlt).trans c1
    have hbx := below1 w2 (.cells #[.slice (some ⟨g, 0, none⟩) m m] 64)
    have c3 := (hbx.cell (p := ⟨b1, 0, none⟩) (World.block_lt_of_cell? _ _ c2)).trans c2
    have c4 : (w2.alloc (.cells #[.slice (some ⟨g, 0, none⟩) m m] 64)).cell? ⟨w2.heap.size, 0, none⟩ = some (.slice (some ⟨g, 0, none⟩) m m) := by simp
    have ht := HT.out (w2.alloc (.cells #[.slice (some ⟨g, 0, none⟩) m m] 64)) w2.heap.size b1 w.heap.size g W.heap.size I c4 c3 (hI.below hbx) hIl hIx ((HF1.out.below hb2).below hbx)
    have HB2 : Hid (Below w.heap.size w (w2.alloc (.cells #[.slice (some ⟨g, 0, none⟩) m m] 64))) := HB.out.trans ((hb2.trans (hbx.mono hb2.size)).mono HB.out.size)
    clear hI hIl hIx hb2 hbx c1 c2 c3 c4 hlt
    go_wp2_with fail
    refine ht.mono ?_; clear ht; rintro e w3 ⟨v, rfl, ho, hb3⟩
    have HO := Lib.hid (ho.down HB2.out.size)
    have HB3 : Hid (Below w.heap.size w w3) := HB2.out.trans (hb3.mono HB2.out.size)
    clear ho hb3
    go_wp2_with fail
    go_ret
    exact ⟨_, rfl, by rw [HE.out]; exact HO.out, HB3.out⟩
  · rw [decide_eq_false hy] at hi
    have HE : Hid (unl L.length (pa L) y = []) := if_neg hy
    clear hL hy
    go_enter Try.func20, Try.ntmps20
    go_wp2_with fail
    refine hi.mono ?_; clear hi; rintro e w0 ⟨rfl, rfl⟩
    go_wp2_with fail
    go_ret
    exact ⟨_, rfl, by rw [HE.out]; exact Own.nil _ _, Below.refl _ _⟩
end Go.Proofs.Yteendpdidkekkaa
