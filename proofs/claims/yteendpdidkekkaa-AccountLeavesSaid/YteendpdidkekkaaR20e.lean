/-
  The document's Walk of layer 20. The condition: at most 1000 accounts.
-/
import Derived.Test.YteendpdidkekkaaR20a
import Derived.Test.YteendpdidkekkaaFrsB0
namespace Go.Proofs.Yteendpdidkekkaa
open Go.RowKit
set_option linter.unusedSimpArgs false
set_option linter.unusedVariables false

theorem nodeR_info : (Try.prog.info? 53).map (fun i => (i.zero, i.size, i.bytes)) = some (some (.agg #[.int .i64 0, .int .i64 0]), 2, 16) := by kernel_rfl
def rowN (P : List (Int × Int)) : List Value := P.flatMap fun p => [.int .i64 p.1, .int .i64 p.2]
theorem rowN_len (P : List (Int × Int)) : (rowN P).length = P.length * 2 := by
  induction P with
  | nil => rfl
  | cons a P ih => simp only [rowN, List.flatMap_cons, List.length_append, List.length_cons] at ih ⊢; rw [ih]; simp; omega
theorem rowN_app (P Q : List (Int × Int)) : rowN (P ++ Q) = rowN P ++ rowN Q := by simp [rowN]
theorem rowN_one (P : List (Int × Int)) : ∀ u ∈ rowN P, u.oneCell' = true := by
  intro u hu
  obtain ⟨s, _, h⟩ := List.mem_flatMap.1 hu
  simp at h
  rcases h with rfl | rfl <;> rfl
/-- A row of the document's pairs that the call owns. -/
def OwnN (w : World) (base : Nat) (v : Value) (P : List (Int × Int)) : Prop := w.ownsRow base 53 2 v P.length (rowN P)
theorem OwnN.nil (w : World) (base : Nat) : OwnN w base (.slice none 0 0) [] := World.ownsRow_nil _ _ _ _
theorem OwnN.below {w w' : World} {base : Nat} {v : Value} {P : List (Int × Int)} (h : OwnN w base v P) (hb : Below w.heap.size w w') : OwnN w' base v P := ownsRow_below h hb
theorem OwnN.down {w : World} {base base' : Nat} {v : Value} {P : List (Int × Int)} (h : OwnN w base v P) (hb : base' ≤ base) : OwnN w base' v P := by
  refine ⟨h.1, ?_⟩
  rcases h.2 with q | ⟨g, cap, cur, rfl, h2, h3⟩
  · exact Or.inl q
  · exact Or.inr ⟨g, cap, cur, rfl, Nat.le_trans hb h2, h3⟩
theorem one_N (w : World) (x d : Int) : SlC (w.alloc (.cells #[.int .i64 x, .int .i64 d] 53)) (.slice (some ⟨w.heap.size, 0, none⟩) 1 1) 2 1 (rowN [(x, d)]) :=
  ownsRow_slc (World.ownsRow_lit (base := w.heap.size) (e := 53) (size := 2) w #[.int .i64 x, .int .i64 d] 1 (Nat.le_refl _) (by unfold maxLen; omega) rfl)
/-- What is told of the first k. -/
def pfx (n : Nat) (f : Int → Int) (a d : Int) (k : Nat) : List (Int × Int) := (flt k fun x => decide (f x = a)).flatMap fun c => blk n f (c, d)
theorem pfx_no {n : Nat} {f : Int → Int} {a d : Int} {k : Nat} (h : f ((k : Int) + 1) ≠ a) : pfx n f a d (k + 1) = pfx n f a d k := by
  unfold pfx; rw [flt_no (decide_eq_false h)]
theorem pfx_yes {n : Nat} {f : Int → Int} {a d : Int} {k : Nat} (h : f ((k : Int) + 1) = a) : pfx n f a d (k + 1) = pfx n f a d k ++ [((k : Int) + 1, d)] ++ wst n f (d.toNat + 1) ((k : Int) + 1) := by
  unfold pfx
  rw [flt_yes (decide_eq_true h), List.flatMap_append, List.append_assoc]
  simp [blk]
theorem pfx_len {n : Nat} {f : Int → Int} {a d : Int} : ∀ (j k : Nat), (pfx n f a d k).length ≤ (pfx n f a d (k + j)).length
  | 0, k => Nat.le_refl _
  | j + 1, k => by
    refine Nat.le_trans (pfx_len j k) ?_
    show (pfx n f a d (k + j)).length ≤ (pfx n f a d (k + j + 1)).length
    by_cases h : f (((k + j : Nat) : Int) + 1) = a
    · rw [pfx_yes h]; simp only [List.length_append]; omega
    · rw [pfx_no h]; exact Nat.le_refl _
theorem pfx_all {n : Nat} {f : Int → Int} {a : Int} {d : Nat} (h : Dep n f d a) : pfx n f a (d : Int) n = wst n f d a := (wst_eq h).symm
theorem pfx_few {n : Nat} {f : Int → Int} {a : Int} {d : Nat} (h : Dep n f d a) {k : Nat} (hk : k ≤ n) : (pfx n f a (d : Int) k).length ≤ n := by
  have h1 := pfx_len (n := n) (f := f) (a := a) (d := (d : Int)) (n - k) k
  rw [show k + (n - k) = n by omega, pfx_all h] at h1
  have := wst_len h
  omega
set_option maxHeartbeats 8000000 in
set_option maxRecDepth 100000 in
theorem r20below (a : Option Addr) (c : Nat) (L : List AcT) (hn : L.length ≤ 1000) : ∀ (d : Nat) (y : Int), Dep L.length (pa L) d y → ∀ w, RdA w a L →
    Calls Try.prog 55 #[.slice a L.length c, .int .i64 y, .int .i64 (d : Int)] w fun e w' => ∃ v, e = .returned v ∧ OwnN w' w.heap.size v (wst L.length (pa L) d y) ∧ Below w.heap.size w w' :=
  wst_ind fun d y hd ih w hL => by
    have HL := Lib.hid hL
    have HN := Lib.hid hn
    have HD := Lib.hid hd
    have HIH : Hid (∀ cc ∈ fam L.length (pa L) y, ∀ w, RdA w a L → Calls Try.prog 55 #[.slice a L.length c, .int .i64 cc, .int .i64 ((d : Int) + 1)] w fun e w' => ∃ v, e = .returned v ∧ OwnN w' w.heap.size v (wst L.length (pa L) (d + 1) cc) ∧ Below w.heap.size w w') := ih
    have hdl := dep_le hd
    have e2 : wrap64 ((d : Int) + 1) = (d : Int) + 1 := by unfold wrap64; omega
    clear hL hn hd ih
    go_enter Try.func55, Try.ntmps55
    go_wp2_with fail
    go_loopw [7, 8] (fun vo vi wr => ∃ k : Nat, k ≤ L.length ∧ vi = .int .i64 (k : Int) ∧ OwnN wr w.heap.size vo (pfx L.length (pa L) y (d : Int) k) ∧ Below w.heap.size w wr) (fun _ vi _ => L.length - (RowKit.intOf vi).toNat)
    case atStart => exact ⟨0, Nat.zero_le _, rfl, OwnN.nil _ _, Below.refl _ _⟩
    case round =>
      obtain ⟨k, hk, rfl, ho, hb⟩ := hrel
      have HO := Lib.hid ho
      have HB := Lib.hid hb
      by_cases hlt : k < L.length
      · obtain ⟨b, off, rfl, d0, -⟩ := (HL.out.below hb).2 k hlt
        have i0 : (0 : Int) ≤ (k : Int) := by omega
        have i1 : (k : Int) < (L.length : Int) := by omega
        have hk40 : k < 1000 := by have := HN.out; omega
        have e1 : wrap64 ((k : Int) + 1) = (k : Int) + 1 := by unfold wrap64; omega
        have hfew := pfx_few HD.out (Nat.le_of_lt hlt)
        have hfew1 := pfx_few HD.out (show k + 1 ≤ L.length by omega)
        have HQ : Hid (k + 1 ≤ L.length ∧ L.length ≤ 1000 ∧ L.length - (RowKit.intOf (.int .i64 ((k : Int) + 1))).toNat < L.length - (RowKit.intOf (.int .i64 (k : Int))).toNat) := ⟨hlt, HN.out, by simp [RowKit.intOf]; omega⟩
        rw [← pa_at hlt] at d0
        by_cases hp : pa L ((k : Int) + 1) = y
        · have t1 : (pa L ((k : Int) + 1) == y) = true := by simpa using hp
          have HY : Hid (pfx L.length (pa L) y (d : Int) (k + 1) = pfx L.length (pa L) y (d : Int) k ++ [((k : Int) + 1, (d : Int))] ++ wst L.length (pa L) (d + 1) ((k : Int) + 1)) := by show _ = _; rw [pfx_yes hp, Int.toNat_natCast]
          rw [HY.out] at hfew1
          simp only [List.length_append, List.length_singleton] at hfew1
          have hic := HIH.out ((k : Int) + 1) (mem_fam.2 ⟨⟨by omega, by omega⟩, hp⟩)
          have HIC := Lib.hid hic
          generalize pa L ((k : Int) + 1) = z at *
          generalize pfx L.length (pa L) y (d : Int) k = P at *
          generalize wst L.length (pa L) (d + 1) ((k : Int) + 1) = U at *
          have hsz := hb.size
          have HFE : Hid (P.length + 1 + U.length ≤ L.length) := hfew1
          have hPl : P.length ≤ 1000 := by have := HN.out; omega
          clear ho hb hk hlt hp hic hfew hfew1
          go_wp2_with
            (at_builtin
             refine wpList_app rfl (.tmp 22) (.tmp 27) 49 rfl w.heap.size 53 2 16 (.agg #[.int .i64 0, .int .i64 0]) Try.underlying49 nodeR_info rfl (by decide) _ P.length (rowN P) rfl (World.ownsRow.alloc HO.out _) (.slice (some ⟨wr.heap.size, 0, none⟩) 1 1) 1 (rowN [((k : Int) + 1, (d : Int))]) rfl (one_N wr _ _) (rowN_one _) (by omega) (by decide) (by simp; omega) ?_
             intro v5 w5 ho5 hb5 hg5
             have ho6 : OwnN w5 w.heap.size v5 (P ++ [((k : Int) + 1, (d : Int))]) := by
               show World.ownsRow _ _ _ _ _ _ _
               rw [List.length_append, rowN_app]; exact ho5
             have HO5 := Lib.hid ho6
             have HB5 : Hid (Below w.heap.size w w5) := (HB.out.trans ((below1 wr (.cells #[.int .i64 ((k : Int) + 1), .int .i64 (d : Int)] 53)).mono HB.out.size)).trans hb5
             have hcall := HIC.out w5 (HL.out.below HB5.out)
             clear ho5 hb5 hg5 ho6)
          refine hcall.mono ?_; clear hcall; rintro e w7 ⟨v7, rfl, ho7, hb7⟩
          have HB7 : Hid (Below w.heap.size w w7) := HB5.out.trans (hb7.mono HB5.out.size)
          have HO7 := Lib.hid (HO5.out.below hb7)
          have hsl := ownsRow_slc ho7
          obtain ⟨ra, rc, rfl⟩ := hsl.form
          have HSL := Lib.hid hsl
          have hsz7 := HB7.out.size
          clear ho7 hb7 hsl
          go_wp2_with
            (at_builtin
             refine wpList_app rfl (.tmp 29) (.tmp 35) 49 rfl w.heap.size 53 2 16 (.agg #[.int .i64 0, .int .i64 0]) Try.underlying49 nodeR_info rfl (by decide) v5 (P ++ [((k : Int) + 1, (d : Int))]).length (rowN (P ++ [((k : Int) + 1, (d : Int))])) rfl HO7.out (.slice ra U.length rc) U.length (rowN U) rfl HSL.out (rowN_one _) (by have := HFE.out; have := HQ.out; rw [List.length_append, List.length_singleton]; omega) (by decide) hsz7 ?_
             intro v8 w8 ho8 hb8 hg8
             have ho9 : OwnN w8 w.heap.size v8 (P ++ [((k : Int) + 1, (d : Int))] ++ U) := by
               show World.ownsRow _ _ _ _ _ _ _
               rw [List.length_append, rowN_app]; exact ho8
             have HO9 := Lib.hid ho9
             have HB9 : Hid (Below w.heap.size w w8) := HB7.out.trans hb8
             clear ho8 hb8 hg8 ho9)
          go_roundw
          · exact ⟨k + 1, HQ.out.1, by go_num, by rw [HY.out]; exact HO9.out, HB9.out⟩
          · first | exact HQ.out.2.2 | (rw [e1]; exact HQ.out.2.2)
        · have t1 : (pa L ((k : Int) + 1) == y) = false := by simpa using hp
          have HY : Hid (pfx L.length (pa L) y (d : Int) (k + 1) = pfx L.length (pa L) y (d : Int) k) := pfx_no hp
          generalize pa L ((k : Int) + 1) = z at *
          clear ho hb hk hlt hp hfew hfew1
          go_wp2_with fail
          go_roundw
          · exact ⟨k + 1, HQ.out.1, by go_num, by rw [HY.out]; exact HO.out, HB.out⟩
          · first | exact HQ.out.2.2 | (rw [e1]; exact HQ.out.2.2)
      · obtain rfl : k = L.length := by omega
        have hd0 : decide ((L.length : Int) < (L.length : Int)) = false := decide_eq_false (by omega)
        rw [pfx_all HD.out] at ho
        have HO2 := Lib.hid ho
        clear ho hb hk hlt
        go_wp2_with fail
        go_ret
        exact ⟨_, rfl, HO2.out, HB.out⟩
set_option maxRecDepth 100000 in
theorem r20walk (a : Option Addr) (c : Nat) (L : List AcT) (w : World) (hL : RdA w a L) (hn : L.length ≤ 1000) :
    Calls Try.prog 29 #[.slice a L.length c] w fun e w' => ∃ v, e = .returned v ∧ OwnN w' w.heap.size v (wst L.length (pa L) 0 0) ∧ Below w.heap.size w w' := by
  have h := r20below a c L hn 0 0 (dep_zero _ _) w hL
  clear hL hn
  go_enter Try.func29, Try.ntmps29
  go_wp2_with fail
  refine h.mono ?_; clear h; rintro e w1 ⟨v, rfl, ho, hb⟩
  have HO := Lib.hid (And.intro ho hb)
  clear ho hb
  go_wp2_with fail
  go_ret
  exact ⟨_, rfl, HO.out.1, HO.out.2⟩
end Go.Proofs.Yteendpdidkekkaa
