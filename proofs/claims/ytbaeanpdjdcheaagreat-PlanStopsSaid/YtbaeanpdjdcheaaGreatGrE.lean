/-
  The landed graph's add and drop. The conditions: the graph's blocks; the row lies elsewhere.
-/
import Derived.Test.YtbaeanpdjdcheaaGreatGrD
namespace Go.Proofs.YtbaeanpdjdcheaaGreat
open Go.RowKit MapSets
set_option linter.unusedSimpArgs false
set_option linter.unusedVariables false

theorem in_map (d : Nat) (o : Option Nat) (w : World) : (Op.equalIn (d + 1) 69 (.map o) (.map none)).run Tryz.prog w = .ok o.isNone w := by
  cases o <;> simp [Op.equalIn, run_underlying Tryz.underlying69]
theorem eql_map (o : Option Nat) (w : World) : (binOp .eql 69 (.map o) (.map none)).run Tryz.prog w = .ok (.bool o.isNone) w := by
  simp only [binOp]
  simp [Op.equal, Op.maxDepth, in_map 9999 o]
/-- The readers' side, when so many of a row are done. -/
def qadd (q : Nat → Int → Bool) (v : Nat) (l : List Int) (y : Nat) (u : Int) : Bool := q y u || (decide (u = (v : Int)) && decide ((y : Int) ∈ l))
def cadd (q : Nat → Int → Bool) (v : Nat) (l : List Int) : Nat := (l.filter fun z => !q z.toNat (v : Int)).length
theorem qadd_nil (q : Nat → Int → Bool) (v : Nat) : qadd q v [] = q := by funext y u; simp [qadd]
theorem cadd_step {q : Nat → Int → Bool} {v : Nat} {l : List Int} {k : Nat} (hk : k < l.length) : cadd q v (l.take (k + 1)) = cadd q v (l.take k) + if q (l.getD k 0).toNat v then 0 else 1 := by
  unfold cadd
  rw [List.take_succ_eq_append_getElem hk, List.filter_append, List.length_append, getD_lt _ _ hk]
  cases hq : q (l[k]).toNat (v : Int) <;> simp [hq]
theorem cadd_le (q : Nat → Int → Bool) (v : Nat) (l : List Int) : cadd q v l ≤ l.length := List.length_filter_le _ _
theorem qadd_step {q : Nat → Int → Bool} {v : Nat} {l : List Int} {k y : Nat} (hk : k < l.length) (hy : l.getD k 0 = (y : Int)) (x : Nat) (u : Int) :
    (if x = y then decide (u = (v : Int)) || qadd q v (l.take k) y u else qadd q v (l.take k) x u) = qadd q v (l.take (k + 1)) x u := by
  unfold qadd
  rw [← take_mem hk, hy]
  by_cases e : x = y
  · subst e; rw [if_pos rfl, decide_eq_true (rfl : (x : Int) = (x : Int))]
    cases q x u <;> cases decide (u = (v : Int)) <;> simp
  · rw [if_neg e, decide_eq_false (show ¬ (x : Int) = (y : Int) by omega), Bool.false_or]
theorem qadd_skip {q : Nat → Int → Bool} {v : Nat} {l : List Int} {k y : Nat} (hk : k < l.length) (hy : l.getD k 0 = (y : Int)) (hq : q y v = true) (x : Nat) (u : Int) : qadd q v (l.take k) x u = qadd q v (l.take (k + 1)) x u := by
  rw [← qadd_step hk hy]
  by_cases e : x = y
  · subst e
    rw [if_pos rfl]
    by_cases h : u = (v : Int)
    · subst h; simp [qadd, hq]
    · simp [h]
  · rw [if_neg e]
theorem qadd_at {q : Nat → Int → Bool} {v : Nat} {l : List Int} {k y : Nat} (hk : k < l.length) (hy : l.getD k 0 = (y : Int)) (hn : l.Nodup) : qadd q v (l.take k) y (v : Int) = q y v := by
  have : ¬ ((y : Int) ∈ l.take k) := fun h => by
    obtain ⟨j, hj, e⟩ := List.getElem_of_mem h
    rw [List.length_take] at hj
    rw [List.getElem_take, ← hy, getD_lt _ _ hk] at e
    exact List.pairwise_iff_getElem.1 hn j k (by omega) hk (by omega) e
  simp [qadd, this]
set_option maxHeartbeats 4000000 in
set_option maxRecDepth 100000 in
theorem add_g {w : World} {B A S n : Nat} {V : Nat → Value} {M : Nat → Option Nat} {R : List (List Int)} {q : Nat → Int → Bool} {E : Int} (h : GrP w B A S n V M R q E) (v : Nat) (hv : v < n) {x : Value} {l : List Int} (hl : SlX (grF B A S n V M) w x l)
    (hall : ∀ z ∈ l, gnd n z) (hnd : l.Nodup) (hn : l.length ≤ 1000000) :
    Calls Tryz.prog 32 #[.pointer (some ⟨B, 0, none⟩), .int .i64 v, x] w fun e w' => ∃ M', e = .returned (.int .i64 (cadd q v l : Nat)) ∧ GrP w' B A S n V M' R (qadd q v l) E ∧ Turn (grF B A S n V M) w w' ∧ ∀ j, grF B A S n V M' j → grF B A S n V M j ∨ w.heap.size ≤ j := by
  have hO := hl
  obtain ⟨⟨a, c, rfl, hlc, hac, hr⟩, _⟩ := hl
  have HO := Lib.hid hO
  have HH := Lib.hid h
  have hem := eql_map
  have hinv : InR (v : Int) := by have := h.hi; unfold InR; omega
  clear hO h hr hac hlc
  go_enter Tryz.func32, Tryz.ntmps32
  go_wp2_with fail
  go_loopw [7, 12] (fun m i wr => ∃ (k : Nat) (M' : Nat → Option Nat), k ≤ l.length ∧ i = .int .i64 (k : Int) ∧ m = .int .i64 (cadd q v (l.take k) : Nat) ∧ GrP wr B A S n V M' R (qadd q v (l.take k)) E ∧ Turn (grF B A S n V M) w wr ∧ ∀ j, grF B A S n V M' j → grF B A S n V M j ∨ w.heap.size ≤ j) (fun m i _ => l.length - (RowKit.intOf i).toNat)
  case atStart => exact ⟨0, M, Nat.zero_le _, rfl, rfl, by rw [List.take_zero, qadd_nil]; exact HH.out, Turn.refl _ _, fun j hj => Or.inl hj⟩
  case round =>
    obtain ⟨k, M', hk, rfl, rfl, h, ht, hs⟩ := hrel
    by_cases hlt : k < l.length
    · have HR := (HO.out.turn ht hs).1
      obtain ⟨a', c', e', _, _, hr⟩ := HR
      cases e'
      obtain ⟨b, off, rfl, hc⟩ := hr.2 k hlt
      have i0 : (0 : Int) ≤ (k : Int) := by omega
      have i1 : (k : Int) < (l.length : Int) := by omega
      have hnz : gnd n (l.getD k 0) := hall _ (by rw [getD_lt _ _ hlt]; exact List.getElem_mem hlt)
      obtain ⟨y, hy⟩ := Int.eq_ofNat_of_zero_le hnz.1
      have hyn : y < n := by have := hnz.2; omega
      have hh := has_g h v (l.getD k 0) hinv
      rw [decide_eq_true hnz, Bool.true_and, hy, Int.toNat_natCast, qadd_at hlt hy hnd] at hh
      have HST := Lib.hid (cadd_step (q := q) (v := v) hlt)
      rw [hy, Int.toNat_natCast] at HST
      rw [hy] at hc
      have HQ := Lib.hid (fun x u => qadd_step (q := q) (v := v) hlt hy x u)
      have HSK := Lib.hid (fun hq x u => qadd_skip (q := q) (v := v) hlt hy hq x u)
      have HLE := Lib.hid (Nat.le_trans (cadd_le q v (l.take k)) (by rw [List.length_take]; omega : (l.take k).length ≤ 1000000))
      have HP := Lib.hid h; have HT := Lib.hid ht; have HF := Lib.hid hs
      clear h ht hs hr hnz hy
      generalize cadd q v (l.take k) = m0 at *
      have hm0 := HLE.out
      cases hq : q y (v : Int) with
      | true =>
        rw [hq] at hh
        go_wp2_with fail
        refine hh.mono ?_; rintro e w1 ⟨rfl, hb1⟩
        go_wp2_with fail
        go_roundw
        · refine ⟨k + 1, M', by omega, by go_num, by rw [HST.out, hq]; rfl, (HP.out.below hb1).same fun x _ u => HSK.out hq x u, HT.out.trans (Turn.of_below (F := grF B A S n V M') hb1) HF.out, HF.out⟩
        · simp [RowKit.intOf]; omega
      | false =>
        rw [hq] at hh
        go_wp2_with fail
        refine hh.mono ?_; rintro e w1 ⟨rfl, hb1⟩
        have HP1 := Lib.hid (HP.out.below hb1)
        have HT1 := Lib.hid (HT.out.trans (Turn.of_below (F := grF B A S n V M') hb1) HF.out)
        have b1 := HP1.out.b1
        have s := HP1.out.hS.s y hyn
        have j0 : (0 : Int) ≤ (y : Int) := by omega
        have j1 : (y : Int) < (n : Int) := by omega
        have hmx : n < maxLen := by have := HP1.out.hi; unfold maxLen; omega
        have hvn : ∀ f : Int → Bool, (∀ u, f u = true → 0 ≤ u ∧ u < (n : Int)) → ∀ u, (decide (u = (v : Int)) || f u) = true → 0 ≤ u ∧ u < (n : Int) := fun f hf u hu => by
          rcases Bool.or_eq_true_iff.1 hu with q' | q'
          · have := of_decide_eq_true q'; omega
          · exact hf u q'
        cases hM : M' y with
        | some b2 =>
          rw [hM] at s
          obtain ⟨w2, hst, hm2, hg2⟩ := MapSets.run_store gkit (HP1.out.hS.yes y b2 hyn hM) (fun u _ hu => HP1.out.hS.sup y u hyn hu) hmx hinv
          have HG := Lib.hid (HP1.out.remap hyn hM hm2 hg2 (hvn _ fun u hu => HP1.out.hS.sup y u hyn hu))
          clear hm2 hg2 hb1 hh hvn
          go_wp2_with fail
          go_roundw
          · refine ⟨k + 1, M', by omega, by go_num, by rw [HST.out, hq]; go_num, HG.out.1.same fun x _ u => HQ.out x u, HT1.out.trans HG.out.2 HF.out, HF.out⟩
          · simp [RowKit.intOf]; omega
        | none =>
          rw [hM] at s
          obtain ⟨f1, f2, f3⟩ := HP1.out.fresh hyn hM
          rw [World.setCell_alloc_past _ _ _ _ HP1.out.ltS] at f1 f2
          have s2 := f1.hS.s y hyn
          have b12 := f1.b1
          have zS := HP1.out.hS.z y hyn
          have hSl := HP1.out.ltS
          have hmm := @run_makeMap Tryz.prog
          rw [if_pos rfl] at s2
          obtain ⟨w2, hst, hm2, hg2⟩ := MapSets.run_store gkit (f1.hS.yes y w1.heap.size hyn (if_pos rfl)) (fun u _ hu => f1.hS.sup y u hyn hu) hmx hinv
          have HG := Lib.hid (f1.remap hyn (if_pos rfl) hm2 hg2 (hvn _ fun u hu => f1.hS.sup y u hyn hu))
          have HT2 := Lib.hid (HT1.out.trans f2 HF.out)
          have HF2 : Hid (∀ j, grF B A S n V (fun x => if x = y then some w1.heap.size else M' x) j → grF B A S n V M j ∨ w.heap.size ≤ j) := fun j hj => by
            rcases f3 j hj with q' | q'
            · exact HF.out j q'
            · exact Or.inr (Nat.le_trans HT1.out.size q')
          clear hm2 hg2 hb1 hh hvn f1 f2 f3
          go_wp2_with fail
          go_roundw
          · refine ⟨k + 1, _, by omega, by go_num, by rw [HST.out, hq]; go_num, HG.out.1.same fun x _ u => HQ.out x u, HT2.out.trans HG.out.2 HF2.out, HF2.out⟩
          · simp [RowKit.intOf]; omega
    · obtain rfl : k = l.length := by omega
      rw [List.take_length] at h ⊢
      have hd0 : decide ((l.length : Int) < (l.length : Int)) = false := decide_eq_false (by omega)
      have HP := Lib.hid h; have HT := Lib.hid ht; have HF := Lib.hid hs
      clear h ht hs
      go_wp2_with fail
      go_ret
      exact ⟨M', rfl, HP.out, HT.out, HF.out⟩
end Go.Proofs.YtbaeanpdjdcheaaGreat
