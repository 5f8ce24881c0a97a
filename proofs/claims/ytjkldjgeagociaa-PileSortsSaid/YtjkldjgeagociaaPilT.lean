/-
  PileTops of layer 9 answers true over a pile's contracts, for whatever keys. The conditions: the contracts.
-/
import Derived.Test.YtjkldjgeagociaaPilS
import Derived.Deep.QuietTactic
import Derived.WalkSmall
import Derived.BigQuiet
import Derived.Deep.OwnRows
namespace Go.Proofs.Ytjkldjgeagociaa
open Go.RowKit
set_option linter.unusedSimpArgs false
set_option linter.unusedVariables false

/-- What holds at the first loop's head. -/
structure PtRel (T : PilCon) (w : World) (B : Nat) (K : List Int) (i : Value) (wr : World) : Prop where
  out : ∃ (k : Nat) (F : Nat → Prop), k ≤ K.length ∧ i = .int .i64 (k : Int) ∧ T.Rep wr B k (idxs 0 (K.take k)) F ∧ Below w.heap.size w wr ∧ (∀ j, F j → w.heap.size ≤ j)

theorem rowIs_turn {F : Nat → Prop} {w w' : World} {b n : Nat} {ty : TypeId} {f : Nat → Value} (h : w.rowIs b ty n f) (t : Turn F w w') (hn : ¬ F b) : w'.rowIs b ty n f := h.of_block (t.block b h.lt hn)
theorem rowIs_below {w w' : World} {b n : Nat} {ty : TypeId} {f : Nat → Value} (h : w.rowIs b ty n f) (hb : Below w.heap.size w w') : w'.rowIs b ty n f := h.of_block (hb.block b h.lt)
/-- What holds at the second loop's head. -/
structure PuRel (T : PilCon) (w : World) (B S X : Nat) (K : List Int) (i : Value) (wr : World) : Prop where
  out : ∃ (k : Nat) (F : Nat → Prop) (y z : Int), k ≤ K.length ∧ i = .int .i64 (k : Int) ∧ T.Rep wr B K.length (sortAt (idxs 0 K) k).2 F ∧ wr.rowIs S 4 K.length (fun j => .bool (told9 (sortAt (idxs 0 K) k).2 j)) ∧ Ow2 wr X (.int .i64 y) (.int .i64 z) ∧
    (0 < k → ∀ p ∈ (sortAt (idxs 0 K) k).2, aftr (y, z) p) ∧ ¬ F S ∧ ¬ F X ∧ S ≠ X ∧ w.heap.size ≤ S ∧ w.heap.size ≤ X ∧ Below w.heap.size w wr ∧ (∀ j, F j → w.heap.size ≤ j)
theorem pt_end (T : PilCon) {w W : World} {B S X m n nq np : Nat} {R : List (Int × Int)} {F : Nat → Prop} {f : Nat → Value} {y z : Value} (hR : T.Rep W B np R F) (hrow : W.rowIs S 4 n f) (hX : Ow2 W X y z) (hSX : S ≠ X) (hFS : ¬ F S) (hFX : ¬ F X) (hB : Below w.heap.size w W) (hS : w.heap.size ≤ S) (hX1 : w.heap.size ≤ X) (a b : Value) :
    T.Rep ((((W.drewN nq).setCell ⟨S, m, none⟩ (.bool true)).setCell ⟨X, 0, none⟩ a).setCell ⟨X, 1, none⟩ b) B np R F ∧ ((((W.drewN nq).setCell ⟨S, m, none⟩ (.bool true)).setCell ⟨X, 0, none⟩ a).setCell ⟨X, 1, none⟩ b).rowIs S 4 n (fun j => if j = m then .bool true else f j) ∧
      Ow2 ((((W.drewN nq).setCell ⟨S, m, none⟩ (.bool true)).setCell ⟨X, 0, none⟩ a).setCell ⟨X, 1, none⟩ b) X a b ∧ Below w.heap.size w ((((W.drewN nq).setCell ⟨S, m, none⟩ (.bool true)).setCell ⟨X, 0, none⟩ a).setCell ⟨X, 1, none⟩ b) := by
  have hd : Below W.heap.size W (W.drewN nq) := ⟨rfl, rfl, rfl, Nat.le_refl _, fun _ _ => rfl⟩
  have t1 : Turn (fun j => j = S) (W.drewN nq) ((W.drewN nq).setCell ⟨S, m, none⟩ (.bool true)) := turn_set (F := fun j => j = S) (Turn.refl _ _) (p := ⟨S, m, none⟩) (Or.inl rfl) _
  have t2 := turn_one2 ((W.drewN nq).setCell ⟨S, m, none⟩ (.bool true)) X a b
  have r0 : (W.drewN nq).rowIs S 4 n f := rowIs_below hrow hd
  refine ⟨T.turn (T.turn (T.below hR hd) t1 (fun j q r => hFS (by rw [← r]; exact q))) t2 (fun j q r => hFX (by rw [← r]; exact q)), ((r0.set m (.bool true)).setOther (a := ⟨X, 0, none⟩) hSX a).setOther (a := ⟨X, 1, none⟩) hSX b, ((hX.below hd).turn t1 (Ne.symm hSX)).put, ?_⟩
  have h1 : Below w.heap.size w (W.drewN nq) := hB.trans (hd.mono hB.size)
  exact below_set2 (Below.setCell h1 hS _) hX1
theorem bool_info : (Try.prog.info? 4).map (fun i => (i.zero, i.size, i.bytes)) = some (some (.bool false), 1, 1) := by kernel_rfl

set_option maxHeartbeats 8000000 in
set_option maxRecDepth 100000 in
theorem tops9 (T : PilCon) (hS : SortC) (hO : NilPop) (hU : NilPush) (a : Option Addr) (c : Nat) (l : List Int) (w : World) (hl : Go.RowsIn.IntS w a c l) (hbig : (l.length : Int) ≤ 9223372036854775807) :
    Calls Try.prog 5 #[.slice a l.length c] w fun e w' => e = .returned (.bool true) ∧ Below w.heap.size w w' := by
  have haw := p_awake T hS hO hU
  have hnw := T.new_ok w
  by_cases h100 : 100 < l.length
  · clear hl hbig
    go_enter Try.func5, Try.ntmps5
    go_wp2_with fail
    refine hnw.mono ?_; rintro e w1 ⟨B, F1, rfl, hR1, hb1, hF1⟩
    go_wp2_with fail
    refine (haw _).mono ?_; rintro e w2 ⟨rfl, hb2⟩
    go_wp2_with fail
    go_ret
    exact ⟨rfl, hb1.trans (hb2.mono hb1.size)⟩
  · obtain ⟨_, _, hl⟩ := hl
    have HL := Lib.hid hl; have H1 := Lib.hid h100
    clear hl hbig
    go_enter Try.func5, Try.ntmps5
    go_wp2_with fail
    refine hnw.mono ?_; rintro e w1 ⟨B, F1, rfl, hR1, hb1, hF1⟩
    clear hnw
    go_wp2_with fail
    have H0 : Hid (PtRel T w B l (.int .i64 0) w1) := ⟨⟨0, F1, Nat.zero_le _, rfl, by rw [List.take_zero]; exact hR1, hb1, hF1⟩⟩
    clear hR1 hb1 hF1
    go_loopw [4] (fun i wr => PtRel T w B l i wr) (fun i _ => l.length - (intOf i).toNat)
    case atStart => exact H0.out
    case round =>
      clear H0
      obtain ⟨k, F, hk, rfl, hR, hB, hF⟩ := hrel.out
      clear hrel
      by_cases hlt : k < l.length
      · obtain ⟨b, off, rfl, hc1, r1⟩ := HL.out k hlt
        have i0 : (0 : Int) ≤ (k : Int) := by omega
        have i1 : (k : Int) < (l.length : Int) := by omega
        have hln := idxs_len (l.take k) 0
        rw [List.length_take, Nat.min_eq_left hk] at hln
        have hpu := T.push (l.getD k 0) (k : Int) hR r1 (by have := H1.out; unfold InR; omega) (by have := H1.out; omega)
        rw [← idxs_take l k hlt] at hpu
        have hbw : b < w.heap.size := World.block_lt_of_cell? w _ hc1
        have c1 := (hB.cell (p := ⟨b, off + k, none⟩) hbw).trans hc1
        have HB := Lib.hid hB; have HF := Lib.hid hF; have HLT := Lib.hid hlt
        clear hR hB hF hlt hk hln r1 hc1
        generalize l.getD k 0 = z at *
        go_wp2_with fail
        refine hpu.mono ?_; rintro e w3 ⟨rfl, F', hR', ht, hF'⟩
        clear c1
        go_wp2_with fail
        go_roundw
        · exact ⟨⟨k + 1, F', by have := HLT.out; omega, by go_num, hR', HB.out.trans (ht.below HF.out HB.out.size), fun j q => (hF' j q).elim (HF.out j) (fun q => Nat.le_trans HB.out.size q)⟩⟩
        · have := HLT.out; simp [intOf]; omega
      · obtain rfl : k = l.length := by omega
        rw [List.take_length] at hR
        have HR := Lib.hid hR; have HB := Lib.hid hB; have HF := Lib.hid hF
        have hl100 : l.length ≤ 100 := by have := H1.out; omega
        clear hlt hR hB hF hk
        have hmk := run_make_row' (P := Try.prog) 44 4 (.bool false) 1 Try.underlying44 bool_info rfl .i64 .i64 l.length (by omega) (by omega)
        go_wp2_with fail
        clear hmk
        have hz1 := below1 wr (.cells (madeCells #[.bool false] l.length) 4)
        have HS0 := Lib.hid (World.rowIs_made wr (.bool false) l.length 4)
        have HR1 := Lib.hid (T.below HR.out hz1)
        have HB1 := Lib.hid (HB.out.trans (hz1.mono HB.out.size))
        have HFO := Lib.hid (T.foot HR.out)
        have HSw : Hid (w.heap.size ≤ wr.heap.size) := HB.out.size
        generalize hW1 : wr.alloc (.cells (madeCells #[.bool false] l.length) 4) = W1 at *
        have HSS : Hid (wr.heap.size < W1.heap.size) := HS0.out.lt
        have H2 : Hid (PuRel T w B wr.heap.size W1.heap.size l (.int .i64 0) (W1.alloc (.cells #[.int .i64 0, .int .i64 0] 25))) :=
          ⟨⟨0, F, 0, 0, Nat.zero_le _, rfl, T.below HR1.out (below1 _ _), (rowIs_below HS0.out (below1 _ _)).congr (fun j hj => by
            show _ = Value.bool (told9 (idxs 0 l) j)
            rw [told_all l j hj]), Ow2.new _ _ _ _, fun h => absurd h (by omega), fun q => by have := HFO.out _ q; omega, fun q => by have := HFO.out _ q; have := HSS.out; omega, Nat.ne_of_lt HSS.out, HSw.out, Nat.le_trans HSw.out (Nat.le_of_lt HSS.out), HB1.out.trans ((below1 W1 (.cells #[.int .i64 0, .int .i64 0] 25)).mono HB1.out.size), HF.out⟩⟩
        have hS11 : W1.heap.size = wr.heap.size + 1 := by rw [← hW1]; simp
        clear HR HB HR1 HB1 HS0 hz1 HF HFO HSw HSS hW1
        rw [hS11] at H2
        generalize W1.alloc (.cells #[.int .i64 0, .int .i64 0] 25) = W2 at *
        generalize wr.heap.size = S at *
        go_loopw [7] (fun i wr => PuRel T w B S (S + 1) l i wr) (fun i _ => l.length - (intOf i).toNat)
        case atStart => exact H2.out
        case round =>
          clear H2
          obtain ⟨k, F, y, z, hk, rfl, hR, hrow, hX, haft, hFS, hFX, hSX, hS1, hX1, hB, hF⟩ := hrel.out
          clear hrel
          have hlen := (sortAt_len (idxs 0 l) k (by rw [idxs_len]; exact hk)).2
          rw [idxs_len] at hlen
          have hsub := sort_sub (idxs 0 l) k
          have hris := (idxs_rise l 0).sublist hsub
          by_cases hlt : k < l.length
          · have hpos : 0 < (sortAt (idxs 0 l) k).2.length := by omega
            have hpo := T.pop hR
            rw [decide_eq_true hpos] at hpo
            have hmem := peek_mem hpos
            have hafter := pop_aftr hpos hris
            have htold := told_pop hpos hris
            have hold : 0 < k → aftr (y, z) (peekv (sortAt (idxs 0 l) k).2) := fun h => haft h _ hmem
            obtain ⟨m, hm, hpk⟩ := idxs_mem l 0 _ (hsub.subset hmem)
            rw [Nat.zero_add] at hpk
            have htm : told9 (sortAt (idxs 0 l) k).2 m = false := by
              unfold told9
              rw [Bool.not_eq_false', List.any_eq_true]
              exact ⟨_, hmem, by rw [hpk]; simp⟩
            have hnx : (sortAt (idxs 0 l) (k + 1)).2 = popv (sortAt (idxs 0 l) k).2 := rfl
            rw [hpk] at hpo hafter htold hold
            have HNX := Lib.hid hnx
            generalize (sortAt (idxs 0 l) k).2 = R at *
            obtain ⟨b, off, rfl, hc1, _⟩ := HL.out m hm
            have hbw : b < w.heap.size := World.block_lt_of_cell? w _ hc1
            generalize l.getD m 0 = q at *
            have HC : Hid (∀ wy, Below w.heap.size w wy → wy.cell? ⟨b, off + m, none⟩ = some (.int .i64 q)) := fun wy h => (h.cell (p := ⟨b, _, none⟩) hbw).trans hc1
            have HAF := Lib.hid hafter; have HTO := Lib.hid htold; have HLT := Lib.hid hlt
            have HROW := Lib.hid hrow; have HX := Lib.hid hX; have HB := Lib.hid hB; have HF := Lib.hid hF; have HFS := Lib.hid hFS; have HFX := Lib.hid hFX; have HSX := Lib.hid hSX; have HS1 := Lib.hid hS1; have HX1 := Lib.hid hX1
            have HFO := Lib.hid (T.foot hR)
            clear hR hrow hX haft hFS hFX hSX hS1 hX1 hB hF hlen hsub hris hmem hafter htold hnx hc1 hpk hk hpos
            have i0 : (0 : Int) ≤ (m : Int) := by omega
            have i1 : (m : Int) < (l.length : Int) := by omega
            have i2 : decide ((m : Int) < 0) = false := decide_eq_false (by omega)
            have i3 : decide ((l.length : Int) ≤ (m : Int)) = false := decide_eq_false (by omega)
            go_wp2_with fail
            refine hpo.mono ?_; rintro e w3 ⟨rfl, F', hR', ht, hF'⟩
            clear hpo
            have HR3 := Lib.hid hR'
            have HROW3 := Lib.hid (rowIs_turn HROW.out ht HFS.out)
            have HX3 := Lib.hid (HX.out.turn ht HFX.out)
            have HB3 := Lib.hid (HB.out.trans (ht.below HF.out HB.out.size))
            have HF3 : Hid (∀ j, F' j → w.heap.size ≤ j) := fun j q => (hF' j q).elim (HF.out j) (fun q => Nat.le_trans HB.out.size q)
            have HFS3 : Hid (¬ F' S) := fun q => (hF' S q).elim HFS.out (fun q => by have := HROW.out.lt; omega)
            have HFX3 : Hid (¬ F' (S + 1)) := fun q => (hF' _ q).elim HFX.out (fun q => by have := HX.out.1.2.2; omega)
            have HFO3 := Lib.hid (T.foot hR')
            clear hR' ht hF' HROW HX HB HF HFS HFX HFO
            have hz3 := below1 w3 (.cells #[.int .i64 q, .int .i64 (m : Int)] 25)
            have A4 := Lib.hid (At2.new w3 (.int .i64 q) (.int .i64 (m : Int)) 25)
            have HR4 := Lib.hid (T.below HR3.out hz3)
            have HROW4 := Lib.hid (rowIs_below HROW3.out hz3)
            have HX4 := Lib.hid (HX3.out.below hz3)
            have HB4 := Lib.hid (HB3.out.trans (hz3.mono HB3.out.size))
            have HXS : Hid (w3.heap.size ≠ S ∧ w3.heap.size ≠ S + 1) := ⟨by have := HROW3.out.lt; omega, by have := HX3.out.1.2.2; omega⟩
            clear hz3 HR3 HROW3 HX3 HB3
            generalize hW4 : w3.alloc (.cells #[.int .i64 q, .int .i64 (m : Int)] 25) = W4 at *
            obtain ⟨a0, a1, a2⟩ := A4.out
            have s0 : W4.cell? ⟨S, m, none⟩ = some (.bool false) := by have := HROW4.out.cell hm; rw [htm] at this; exact this
            have k0 := HC.out _ HB4.out
            have hqq : (q == q) = true := beq_self_eq_true q
            have fz : W4.frozen? ⟨S, m, none⟩ = false := HROW4.out.frozen m
            go_wp2_with fail
            go_quiet (fail)
            have t5 : Turn (fun j => j = S) (W4.drewN nq) ((W4.drewN nq).setCell ⟨S, m, none⟩ (.bool true)) := turn_set (F := fun j => j = S) (Turn.refl _ _) (p := ⟨S, m, none⟩) (Or.inl rfl) _
            have hd5 : Below W4.heap.size W4 (W4.drewN nq) := ⟨rfl, rfl, rfl, Nat.le_refl _, fun _ _ => rfl⟩
            obtain ⟨b0, b1, b2⟩ := (A4.out.below hd5).turn t5 HXS.out.1
            obtain ⟨⟨x0, x1, x2⟩, x3, x4⟩ := (HX4.out.below hd5).turn t5 (Ne.symm HSX.out)
            clear t5 hd5
            rcases Nat.eq_zero_or_pos k with h0 | h0
            · have d0 : decide (0 < (k : Int)) = false := decide_eq_false (by omega)
              clear hold
              go_wp2_with fail
              go_roundw
              · obtain ⟨e1, e2, e3, e4⟩ := pt_end T (nq := nq) (m := m) HR4.out HROW4.out HX4.out HSX.out HFS3.out HFX3.out HB4.out HS1.out HX1.out (.int .i64 q) (.int .i64 (m : Int))
                refine ⟨⟨k + 1, F', q, (m : Int), by have := HLT.out; omega, by go_num, by rw [HNX.out]; exact e1, e2.congr (fun j hj => ?_), e3, fun _ p hp => HAF.out p (by rw [← HNX.out]; exact hp), HFS3.out, HFX3.out, HSX.out, HS1.out, HX1.out, e4, HF3.out⟩⟩
                rw [HNX.out]
                have := HTO.out j
                show (if j = m then Value.bool true else Value.bool (told9 R j)) = Value.bool (told9 (popv R) j)
                rw [this]
                by_cases h : j = m
                · rw [if_pos h, decide_eq_true (by rw [h])]; rfl
                · rw [if_neg h, decide_eq_false (by show ¬ (j : Int) = (m : Int); omega), Bool.false_or]
              · have := HLT.out; simp [intOf]; omega
            · have d0 : decide (0 < (k : Int)) = true := decide_eq_true (by omega)
              rcases hold h0 with ho | ⟨ho1, ho2⟩
              · have d1 : decide (q < y) = false := decide_eq_false (by show ¬ q < y; have : y < q := ho; omega)
                have d2 : (q == y) = false := beq_eq_false_iff_ne.mpr (by have : y < q := ho; omega)
                clear ho hold
                go_wp2_with fail
                go_roundw
                · obtain ⟨e1, e2, e3, e4⟩ := pt_end T (nq := nq) (m := m) HR4.out HROW4.out HX4.out HSX.out HFS3.out HFX3.out HB4.out HS1.out HX1.out (.int .i64 q) (.int .i64 (m : Int))
                  refine ⟨⟨k + 1, F', q, (m : Int), by have := HLT.out; omega, by go_num, by rw [HNX.out]; exact e1, e2.congr (fun j hj => ?_), e3, fun _ p hp => HAF.out p (by rw [← HNX.out]; exact hp), HFS3.out, HFX3.out, HSX.out, HS1.out, HX1.out, e4, HF3.out⟩⟩
                  rw [HNX.out]
                  have := HTO.out j
                  show (if j = m then Value.bool true else Value.bool (told9 R j)) = Value.bool (told9 (popv R) j)
                  rw [this]
                  by_cases h : j = m
                  · rw [if_pos h, decide_eq_true (by rw [h])]; rfl
                  · rw [if_neg h, decide_eq_false (by show ¬ (j : Int) = (m : Int); omega), Bool.false_or]
                · have := HLT.out; simp [intOf]; omega
              · have ho1' : y = q := ho1
                have d1 : decide (q < y) = false := decide_eq_false (by omega)
                have d2 : (q == y) = true := by rw [ho1']; exact beq_self_eq_true q
                have d3 : decide ((m : Int) < z) = false := decide_eq_false (by have : z < (m : Int) := ho2; omega)
                clear ho1 ho2 ho1' hold
                go_wp2_with fail
                go_roundw
                · obtain ⟨e1, e2, e3, e4⟩ := pt_end T (nq := nq) (m := m) HR4.out HROW4.out HX4.out HSX.out HFS3.out HFX3.out HB4.out HS1.out HX1.out (.int .i64 q) (.int .i64 (m : Int))
                  refine ⟨⟨k + 1, F', q, (m : Int), by have := HLT.out; omega, by go_num, by rw [HNX.out]; exact e1, e2.congr (fun j hj => ?_), e3, fun _ p hp => HAF.out p (by rw [← HNX.out]; exact hp), HFS3.out, HFX3.out, HSX.out, HS1.out, HX1.out, e4, HF3.out⟩⟩
                  rw [HNX.out]
                  have := HTO.out j
                  show (if j = m then Value.bool true else Value.bool (told9 R j)) = Value.bool (told9 (popv R) j)
                  rw [this]
                  by_cases h : j = m
                  · rw [if_pos h, decide_eq_true (by rw [h])]; rfl
                  · rw [if_neg h, decide_eq_false (by show ¬ (j : Int) = (m : Int); omega), Bool.false_or]
                · have := HLT.out; simp [intOf]; omega
          · obtain rfl : k = l.length := by omega
            have hR0 : (sortAt (idxs 0 l) l.length).2 = [] := List.length_eq_zero_iff.mp (by omega)
            have hpo := T.pop hR
            rw [hR0, show peekv [] = (0, 0) from rfl, show decide (0 < ([] : List (Int × Int)).length) = false from rfl, show popv [] = [] from rfl] at hpo
            have HB := Lib.hid hB; have HF := Lib.hid hF
            clear hR hrow hX haft hFS hFX hSX hS1 hX1 hB hF hlen hsub hris hlt hk hR0
            go_wp2_with fail
            refine hpo.mono ?_; rintro e w3 ⟨rfl, F', hR', ht, hF'⟩
            have hB3 := HB.out.trans (ht.below HF.out HB.out.size)
            have hz3 := below1 w3 (.cells #[.int .i64 0, .int .i64 0] 25)
            have hlen := T.len (T.below hR' hz3)
            have HB4 := Lib.hid (hB3.trans (hz3.mono hB3.size))
            clear hpo hR' ht hF' hB3 hz3
            go_wp2_with fail
            refine hlen.mono ?_; rintro e w5 ⟨rfl, hb5⟩
            replace HB4 := Lib.hid (HB4.out.trans (hb5.mono HB4.out.size)); clear hlen hb5
            go_wp2_with fail
            refine (haw _).mono ?_; rintro e w6 ⟨rfl, hb6⟩
            go_wp2_with fail
            go_ret
            exact ⟨rfl, HB4.out.trans (hb6.mono HB4.out.size)⟩
end Go.Proofs.Ytjkldjgeagociaa
