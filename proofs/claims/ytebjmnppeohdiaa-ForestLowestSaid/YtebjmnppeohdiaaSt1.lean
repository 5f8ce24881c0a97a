/-
  What the landed holding leaves of one more stake. The conditions: the holding's rows, at most 100000 stakes. Whether an entity comes back to itself: what the landed code answers of its holding. The conditions: the holding's rows, at most 100000 stakes. The landed next of a holding: what is wrong with a stake behind those that it holds. The conditions: the holding's rows, fewer than 100000 stakes. The landed Check of layer 18. The condition: a row of at most 1000000.
-/
import Derived.Test.YtebjmnppeohdiaaStkF
import Derived.Deep.QuietTactic
import Derived.BigQuiet
import Derived.WalkSmall
import Derived.Deep.DeepCutAuto
import Derived.Deep.RegionHeld3
import Derived.Test.YtebjmnppeohdiaaStkB
import Derived.Test.YtebjmnppeohdiaaStkC
namespace Go.Proofs.Ytebjmnppeohdiaa
open Go.RowKit Go.Maps
set_option linter.unusedSimpArgs false
set_option linter.unusedVariables false

/- What the landed holding leaves of one more stake. The conditions: the holding's rows, at most 100000 stakes. -/
section
variable {P : Program} {w : World}
/-- append, to a row that is owned, of a slice, at a step of a region that draws its order: where the row lies behind it. -/
theorem step_pushS {ops : Array Oper} {o : Oper} {a : Act} {K0 : Act → World → Prop} {Q : Exit → Act → World → Prop} {E : Prop} (hgd : o.guard = none) (s x : Operand) (t : TypeId)
    (ho : o.op = .call { callee := .builtin .append, args := #[s, x], argTypes := #[t, t] })
    (base : Nat) (e : TypeId) (size bytes : Nat) (z : Value) (ht : P.underlying t = some (.slice e)) (hi : (P.info? e).map (fun i => (i.zero, i.size, i.bytes)) = some (some z, size, bytes)) (hzs : z.cells.size = size) (hsz : 0 < size)
    (v : Value) (n : Nat) (xs : List Value) (hs : a.eval s = v) (hown : w.ownsRow base e size v n xs)
    (y : Value) (m : Nat) (news : List Value) (hx : a.eval x = y) (hr : SlC w y size m news) (h1 : ∀ u ∈ news, u.oneCell' = true) (hm : 0 < m)
    (h63 : n + m ≤ 1000000000) (hby : bytes ≤ 10000) (hbase : base ≤ w.heap.size)
    (h : ∀ v' w', w'.ownsRow base e size v' (n + m) (xs ++ news) → w.grownBy w' v.ownBlock → (v'.ownBlock = v.ownBlock ∨ v'.ownBlock = some w.heap.size) → K0 (a.put o.dst v') w') : if Region.wanted o (yielded ops a.tmps) = true then Oper.wp P o a w K0 Q else E := by
  have hw : Region.wanted o (yielded ops a.tmps) = true := by simp [Region.wanted, hgd]
  rw [if_pos hw]
  obtain ⟨i, hi, hz, hsize, hbyt⟩ := info_parts hi
  obtain ⟨A, c, rfl, hc, hc0, hl, hread⟩ := hr
  have hbytes : (n + m) * bytes ≤ 140737488355328 := by
    have := Nat.mul_le_mul h63 hby
    omega
  rcases A with _ | ad
  · have := hc0 rfl; omega
  · obtain ⟨v', w', hrun, own', hgrow, _, hloc⟩ := run_append_own_at (P := P) w base t o.type e i z size bytes ht hi hz hsize hbyt hzs hsz v n xs hown ad m c news hl (by
      intro j u hj
      have hjl : j < news.length := by
        rcases Nat.lt_or_ge j news.length with q | q
        · exact q
        · rw [List.getElem?_eq_none q] at hj; cases hj
      obtain ⟨b, off, hh, hcell⟩ := hread j hjl
      cases hh
      rw [hj] at hcell
      by_cases h0 : j = 0
      · subst h0; simpa [Addr.add] using hcell
      · simpa [Addr.add, h0] using hcell) h1 (by unfold maxLen; omega) hbytes hbase
    unfold Oper.wp
    simp [execOp, ho, resolve, invoke, builtin, hs, hx, hrun, Result.andThen]
    exact h v' w' own' hgrow hloc
end
theorem ents_snoc {L : List K4} {s : K4} {x : Int} : x ∈ ents (L ++ [s]) ↔ x = s.1 ∨ x ∈ ents L := by
  rw [mem_ents, mem_ents, List.map_append, List.mem_append]
  simp only [List.map_cons, List.map_nil, List.mem_singleton]
  exact ⟨fun q => q.elim Or.inr Or.inl, fun q => q.elim Or.inr Or.inl⟩
/-- One stake more: behind the append to its entity's row, and the store. -/
theorem HoF.put {w Z Z1 Z2 : World} {base hb : Nat} {f : Int → Option SV} {L : List K4} {s : K4} {x : SV} (h : HoF w base hb f L) (hs : InR s.1) (hZ : Below w.heap.size w Z)
    (ho : Z1.ownsRow base 75 4 (encS x) ((ofE L s.1).length + 1) (row4 (ofE L s.1) ++ cells4 s)) (hg : Turn (fun j => blkS ((f s.1).getD none) = some j) Z Z1)
    (hl : blkS x = blkS ((f s.1).getD none) ∨ blkS x = some Z.heap.size) (hm : MpS Z2 hb (fun j => if j = s.1 then some x else f j)) (hg2 : Turn (fun j => hb = j) Z1 Z2) : HoF Z2 base hb (fun j => if j = s.1 then some x else f j) (L ++ [s]) ∧ Below base w Z2 := by
  have hbl : hb < w.heap.size := h.mp.lt
  have hlt : ∀ y, InR y → ∀ b, blkS ((f y).getD none) = some b → base ≤ b ∧ b < w.heap.size := fun y hy b q => World.ownsRow.lt (h.row y hy) b ((blk_enc _).trans q)
  have hxb : ∀ b, blkS x = some b → b ≠ hb := by
    intro b q
    rcases hl with e | e
    · rw [e] at q
      intro r; subst r; exact h.ne s.1 hs q
    · rw [e] at q; cases q
      have := hZ.size; omega
  refine ⟨⟨hm, h.le, fun y hy => ?_, fun y hy => ?_, ?_, ?_⟩, ?_⟩
  · show OwnS Z2 base (encS ((if y = s.1 then some x else f y).getD none)) (ofE (L ++ [s]) y)
    rw [ofE_snoc]
    by_cases e : y = s.1
    · subst e
      rw [if_pos rfl, if_pos rfl]
      have h1 : OwnS Z1 base (encS x) (ofE L s.1 ++ [s]) := by
        show World.ownsRow _ _ _ _ _ _ _
        rw [List.length_append, ← row4_app]; exact ho
      exact ownS_keep h1 fun b q => hg2.block b (World.ownsRow.lt ho b q).2 (fun r => hxb b ((blk_enc x).symm.trans q) r.symm)
    · rw [if_neg e, if_neg (fun q => e q.symm)]
      refine ownS_keep (h.row y hy) fun b q => ?_
      have q : blkS ((f y).getD none) = some b := (blk_enc _).symm.trans q
      have hb1 := (hlt y hy b q).2
      rw [hg2.block b (Nat.lt_of_lt_of_le (Nat.lt_of_lt_of_le hb1 hZ.size) hg.size) (fun r => h.ne y hy (by rw [r]; exact q)), hg.block b (Nat.lt_of_lt_of_le hb1 hZ.size) (fun r => h.ap y s.1 hy hs e b q r), hZ.block b hb1]
  · show (if y = s.1 then some x else f y).isSome = decide (y ∈ ents (L ++ [s]))
    by_cases e : y = s.1
    · rw [if_pos e, decide_eq_true (ents_snoc.2 (Or.inl e))]; rfl
    · rw [if_neg e, h.has y hy]
      rw [Bool.eq_iff_iff]; simp only [decide_eq_true_eq]
      exact ⟨fun q => ents_snoc.2 (Or.inr q), fun q => (ents_snoc.1 q).elim (fun r => absurd r e) id⟩
  · intro y z hy hz hne b q r
    have q : blkS ((if y = s.1 then some x else f y).getD none) = some b := q
    have r : blkS ((if z = s.1 then some x else f z).getD none) = some b := r
    by_cases e1 : y = s.1
    · have e2 : z ≠ s.1 := fun e => hne (e1.trans e.symm)
      rw [if_pos e1] at q
      rw [if_neg e2] at r
      have q : blkS x = some b := q
      rcases hl with e | e
      · rw [e] at q; exact h.ap s.1 z hs hz (fun e => e2 e.symm) b q r
      · rw [e] at q; cases q
        have := (hlt z hz _ r).2; have := hZ.size; omega
    · rw [if_neg e1] at q
      by_cases e2 : z = s.1
      · rw [if_pos e2] at r
        have r : blkS x = some b := r
        rcases hl with e | e
        · rw [e] at r; exact h.ap s.1 y hs hy (fun e => e1 e.symm) b r q
        · rw [e] at r; cases r
          have := (hlt y hy _ q).2; have := hZ.size; omega
      · rw [if_neg e2] at r
        exact h.ap y z hy hz hne b q r
  · intro y hy q
    have q : blkS ((if y = s.1 then some x else f y).getD none) = some hb := q
    by_cases e : y = s.1
    · rw [if_pos e] at q; exact hxb hb q rfl
    · rw [if_neg e] at q; exact h.ne y hy q
  · have hbw : base ≤ w.heap.size := by have := h.le; omega
    have b1 : Below base w Z := hZ.mono hbw
    have b2 : Below base Z Z1 := hg.below (fun j q => (hlt s.1 hs j q).1) (Nat.le_trans hbw hZ.size)
    have b3 : Below base Z1 Z2 := hg2.below (fun j q => by have := h.le; omega) (Nat.le_trans (Nat.le_trans hbw hZ.size) hg.size)
    exact (b1.trans b2).trans b3
def wz6 (wz : World) (bs : Nat) (s : K4) : Prop := wz.cell? ⟨bs, 0, none⟩ = some (.int .i64 s.1) ∧ wz.cell? ⟨bs, 1, none⟩ = some (.int .i64 s.2.1) ∧ wz.cell? ⟨bs, 2, none⟩ = some (.int .i64 s.2.2.1) ∧ wz.cell? ⟨bs, 3, none⟩ = some (.int .i64 s.2.2.2)
set_option maxHeartbeats 4000000 in
set_option maxRecDepth 100000 in
theorem put_s {w0 w : World} {base hb : Nat} {L : List K4} (h0 : HoR w0 base hb L) (hb0 : Below w0.heap.size w0 w) (hL : ∀ t ∈ L, ok4 t) (hn : L.length ≤ 100000) (s : K4) (hs : ok4 s) :
    Calls Try.prog 61 #[.map (some hb), .agg #[.int .i64 s.1, .int .i64 s.2.1, .int .i64 s.2.2.1, .int .i64 s.2.2.2]] w fun e w' => e = .returned (.tuple #[]) ∧ HoR w' base hb (L ++ [s]) ∧ Below base w w' ∧ ∀ j, w0.heap.size ≤ j → j < w.heap.size → w'.heap[j]? = w.heap[j]? := by
  obtain ⟨f, h0⟩ := h0
  have h := h0.below hb0
  have H00 : Hid (hb < w0.heap.size ∧ ∀ b, blkS ((f s.1).getD none) = some b → b < w0.heap.size) := ⟨h0.mp.lt, fun b q => (World.ownsRow.lt (h0.row s.1 hs.1) b ((blk_enc _).trans q)).2⟩
  clear h0 hb0
  have hr := h.row s.1 hs.1
  obtain ⟨a, c, hv⟩ := (ownsRow_slc hr).form
  have HV := Lib.hid hv
  have hbw := below1 w (.cells #[.int .i64 s.1, .int .i64 s.2.1, .int .i64 s.2.2.1, .int .i64 s.2.2.2] 75)
  obtain ⟨g0, g1, g2, g3⟩ := new4 (w := w) (s := s) (Below.refl _ _)
  have hlt : w.heap.size < (w.alloc (.cells #[.int .i64 s.1, .int .i64 s.2.1, .int .i64 s.2.2.1, .int .i64 s.2.2.2] 75)).heap.size := by simp
  have HF := Lib.hid h
  have HBW := Lib.hid hbw
  have HS1 : Hid (InR s.1) := hs.1
  have HLEN : Hid ((ofE L s.1).length ≤ 100000) := Nat.le_trans (List.length_filter_le _ _) hn
  have HEN : Hid ((ents L).length ≤ 1000000 ∧ ∀ k, InR k → (f k).isSome = true → k ∈ ents L) := ⟨by have := ents_len L; omega, fun k hk q => by rw [h.has k hk] at q; simpa using q⟩
  have HBB : Hid (base ≤ w.heap.size ∧ hb < w.heap.size) := ⟨by have := h.le; have := h.mp.lt; omega, h.mp.lt⟩
  clear h hr hbw hL hn hs
  go_enter Try.func61, Try.ntmps61
  go_wp2_with fail
  generalize w.alloc (.cells #[.int .i64 s.1, .int .i64 s.2.1, .int .i64 s.2.2.1, .int .i64 s.2.2.2] 75) = W at *
  obtain ⟨bs, hbs⟩ : ∃ bs, w.heap.size = bs := ⟨_, rfl⟩
  rw [hbs] at g0 g1 g2 g3 hlt ⊢
  have hS : Hid (∀ wz, Below W.heap.size W wz → wz.cell? ⟨bs, 0, none⟩ = some (.int .i64 s.1) ∧ wz.cell? ⟨bs, 1, none⟩ = some (.int .i64 s.2.1) ∧ wz.cell? ⟨bs, 2, none⟩ = some (.int .i64 s.2.2.1) ∧ wz.cell? ⟨bs, 3, none⟩ = some (.int .i64 s.2.2.2)) := fun wz h => ⟨(h.cell (p := ⟨bs, 0, none⟩) hlt).trans g0, (h.cell (p := ⟨bs, 1, none⟩) hlt).trans g1, (h.cell (p := ⟨bs, 2, none⟩) hlt).trans g2, (h.cell (p := ⟨bs, 3, none⟩) hlt).trans g3⟩
  have hST : Hid (∀ wy wz (F : Nat → Prop), Below W.heap.size W wy → Turn F wy wz → ¬ F bs → wz.cell? ⟨bs, 0, none⟩ = some (.int .i64 s.1) ∧ wz.cell? ⟨bs, 1, none⟩ = some (.int .i64 s.2.1) ∧ wz.cell? ⟨bs, 2, none⟩ = some (.int .i64 s.2.2.1) ∧ wz.cell? ⟨bs, 3, none⟩ = some (.int .i64 s.2.2.2)) := fun wy wz F h t hn => by
    obtain ⟨q0, q1, q2, q3⟩ := hS.out wy h
    have hl : bs < wy.heap.size := Nat.lt_of_lt_of_le hlt h.size
    exact ⟨(t.cell (a := ⟨bs, 0, none⟩) hl hn).trans q0, (t.cell (a := ⟨bs, 1, none⟩) hl hn).trans q1, (t.cell (a := ⟨bs, 2, none⟩) hl hn).trans q2, (t.cell (a := ⟨bs, 3, none⟩) hl hn).trans q3⟩
  have HLK : Hid (∀ X, Below W.heap.size W X → (Instr.lookup 77 (.map (some hb)) (.int .i64 s.1) false).run Try.prog X = .ok (.slice a (ofE L s.1).length c) X) := fun X hX => by
    have := ((HF.out.below HBW.out).below hX).mp.look1 kitS HS1.out
    rwa [HV.out] at this
  have HBS : Hid (w.heap.size = bs) := hbs
  have HROW : Hid (∀ X, Below W.heap.size W X → X.ownsRow base 75 4 (.slice a (ofE L s.1).length c) (ofE L s.1).length (row4 (ofE L s.1))) := fun X hX => by
    have := ((HF.out.below HBW.out).below hX).row s.1 HS1.out
    rwa [HV.out] at this
  clear hv hbs hlt
  refine wp_region_held_drew (S := fun wz => wz.cell? ⟨bs, 0, none⟩ = some (.int .i64 s.1) ∧ wz.cell? ⟨bs, 1, none⟩ = some (.int .i64 s.2.1) ∧ wz.cell? ⟨bs, 2, none⟩ = some (.int .i64 s.2.2.1) ∧ wz.cell? ⟨bs, 3, none⟩ = some (.int .i64 s.2.2.2)) (by kernel_rfl) (hS.out _ (Below.refl _ _).drew) (fun hHeld => ?_)
  refine wpAnyH_take (i := 0) (v := ?_) rfl (by kernel_rfl) (by kernel_rfl) (by kernel_rfl) (fun _ _ _ h => h) (Or.inl ⟨by rfl, ?y0⟩) (by assumption) ?_
  case y0 => intro w hSw; (try dsimp only at hSw); go_simp; (try with_reducible rfl)
  (try simp only [Act.put, List.setIfInBounds_toArray, List.set_cons_zero, List.set_cons_succ, List.getElem_toArray, List.getElem_cons_zero, List.getElem_cons_succ])
  refine wpAnyH_take (i := 1) (v := ?_) rfl (by kernel_rfl) (by kernel_rfl) (by kernel_rfl) (fun _ _ _ h => h) (Or.inl ⟨by rfl, ?y1⟩) (by assumption) ?_
  case y1 => intro w hSw; (try dsimp only at hSw); go_simp; (try with_reducible rfl)
  (try simp only [Act.put, List.setIfInBounds_toArray, List.set_cons_zero, List.set_cons_succ, List.getElem_toArray, List.getElem_cons_zero, List.getElem_cons_succ])
  refine wpAnyH_take (i := 2) (v := ?_) rfl (by kernel_rfl) (by kernel_rfl) (by kernel_rfl) (fun _ _ _ h => h) (Or.inl ⟨by rfl, ?y2⟩) (by assumption) ?_
  case y2 => intro w hSw; (try dsimp only at hSw); go_simp; (try with_reducible rfl)
  (try simp only [Act.put, List.setIfInBounds_toArray, List.set_cons_zero, List.set_cons_succ, List.getElem_toArray, List.getElem_cons_zero, List.getElem_cons_succ])
  refine wpAnyH_take (i := 3) (v := ?_) rfl (by kernel_rfl) (by kernel_rfl) (by kernel_rfl) (fun _ _ _ h => h) (Or.inl ⟨by rfl, ?y3⟩) (by assumption) ?_
  case y3 => intro w hSw; (try dsimp only at hSw); go_simp; (try with_reducible rfl)
  (try simp only [Act.put, List.setIfInBounds_toArray, List.set_cons_zero, List.set_cons_succ, List.getElem_toArray, List.getElem_cons_zero, List.getElem_cons_succ])
  refine wpAnyH_take (i := 4) (v := ?_) rfl (by kernel_rfl) (by kernel_rfl) (by kernel_rfl) (fun _ _ _ h => h) (Or.inl ⟨by rfl, ?y4⟩) (by assumption) ?_
  case y4 => intro w hSw; (try dsimp only at hSw); go_simp; (try with_reducible rfl)
  (try simp only [Act.put, List.setIfInBounds_toArray, List.set_cons_zero, List.set_cons_succ, List.getElem_toArray, List.getElem_cons_zero, List.getElem_cons_succ])
  refine wpAnyH_take (i := 5) (v := ?_) rfl (by kernel_rfl) (by kernel_rfl) (by kernel_rfl) (fun _ _ _ h => h) (Or.inl ⟨by rfl, ?y5⟩) (by assumption) ?_
  case y5 => intro w hSw; (try dsimp only at hSw); go_simp; (try with_reducible rfl)
  (try simp only [Act.put, List.setIfInBounds_toArray, List.set_cons_zero, List.set_cons_succ, List.getElem_toArray, List.getElem_cons_zero, List.getElem_cons_succ])
  refine wpAnyH_take (i := 7) (v := ?_) rfl (by kernel_rfl) (by kernel_rfl) (by kernel_rfl) (fun _ _ _ h => h) (Or.inl ⟨by rfl, ?y7⟩) (by assumption) ?_
  case y7 => intro w hSw; (try dsimp only at hSw); go_simp; (try with_reducible rfl)
  (try simp only [Act.put, List.setIfInBounds_toArray, List.set_cons_zero, List.set_cons_succ, List.getElem_toArray, List.getElem_cons_zero, List.getElem_cons_succ])
  refine wpAnyH_ready (rs := [6, 8]) (by kernel_rfl) (by simp) ?_
  refine AllReadyH.cons rfl (fun KK hKK => ?_) (AllReadyH.cons rfl (fun KK hKK => ?_) AllReadyH.nil)
  · skip
    have hlk := HLK.out (W.drew) ((Below.refl _ _).drew)
    go_simp
    clear hlk
    refine hKK.out _ _ (hS.out _ ((Below.refl _ _).drew)) (fun hHeld => ?_)
    clear hKK KK
    (try simp only [Act.put, List.setIfInBounds_toArray, List.set_cons_zero, List.set_cons_succ, List.getElem_toArray, List.getElem_cons_zero, List.getElem_cons_succ])
    refine wpAnyH_ready (rs := [8]) (by kernel_rfl) (by simp) ?_
    refine AllReadyH.cons rfl (fun KK hKK => ?_) AllReadyH.nil
    go_simp
    have HZ : Hid (Below W.heap.size W (W.alloc (.cells #[.int .i64 s.1, .int .i64 s.2.1, .int .i64 s.2.2.1, .int .i64 s.2.2.2] 75)).drew) := (below1 W (.cells #[.int .i64 s.1, .int .i64 s.2.1, .int .i64 s.2.2.1, .int .i64 s.2.2.2] 75)).drew
    have HN : Hid (SlC (W.alloc (.cells #[.int .i64 s.1, .int .i64 s.2.1, .int .i64 s.2.2.1, .int .i64 s.2.2.2] 75)).drew (.slice (some ⟨W.heap.size, 0, none⟩) 1 1) 4 1 (cells4 s)) := (one4 W s).below (Below.refl _ _).drew
    refine hKK.out _ _ (hS.out _ HZ.out) (fun hHeld => ?_)
    clear hKK KK
    (try simp only [Act.put, List.setIfInBounds_toArray, List.set_cons_zero, List.set_cons_succ, List.getElem_toArray, List.getElem_cons_zero, List.getElem_cons_succ])
    generalize (W.alloc (.cells #[.int .i64 s.1, .int .i64 s.2.1, .int .i64 s.2.2.1, .int .i64 s.2.2.2] 75)).drew = Z at *
    refine wpAnyH_ready (rs := [9]) (by kernel_rfl) (by simp) ?_
    refine AllReadyH.cons rfl (fun KK hKK => ?_) AllReadyH.nil
    refine step_pushS rfl (.tmp 10) (.tmp 12) 22 rfl base 75 4 32 (.agg #[.int .i64 0, .int .i64 0, .int .i64 0, .int .i64 0]) Try.underlying22 stake_info rfl (by decide) (.slice a (ofE L s.1).length c) (ofE L s.1).length (row4 (ofE L s.1)) (by simp [Act.eval, Act.put]) (HROW.out Z HZ.out) (.slice (some ⟨W.heap.size, 0, none⟩) 1 1) 1 (cells4 s) (by simp [Act.eval, Act.put]) HN.out (cells4_one s) (by decide) (by have := HLEN.out; omega) (by decide) (Nat.le_trans HBB.out.1 (Nat.le_trans HBW.out.size HZ.out.size)) ?_
    intro v5 w5 ho5 hg5 hl5
    obtain ⟨x5, hx5⟩ : ∃ x5 : SV, v5 = encS x5 := by
      rcases ho5.2 with ⟨e, _⟩ | ⟨g, cap, cur, e, _⟩
      · exact ⟨none, e⟩
      · exact ⟨some (g, (ofE L s.1).length + 1, cap), e⟩
    obtain ⟨a5, c5, hv5⟩ := (ownsRow_slc ho5).form
    have ht5 : Turn (fun j => blkS ((f s.1).getD none) = some j) Z w5 := by
      have t := turn_grown hg5
      rw [← HV.out, blk_enc] at t
      exact t
    have hl5 : blkS x5 = blkS ((f s.1).getD none) ∨ blkS x5 = some Z.heap.size := by
      rw [← HV.out, blk_enc, hx5, blk_enc] at hl5
      exact hl5
    have hnb : ∀ b, blkS ((f s.1).getD none) = some b → b < w.heap.size := fun b q => (World.ownsRow.lt (HF.out.row s.1 HS1.out) b ((blk_enc _).trans q)).2
    have hm5 : MpS w5 hb f := ((HF.out.below HBW.out).below HZ.out).mp.keep (ht5.block hb ((HF.out.below HBW.out).below HZ.out).mp.lt (HF.out.ne s.1 HS1.out))
    obtain ⟨w6, hrun, hm6, hg6⟩ := hm5.store kitS HEN.out.2 HEN.out.1 HS1.out (x := x5) trivial
    have ht6 : Turn (fun j => hb = j) w5 w6 := (turn_grown hg6).mono (fun j q => by cases q; rfl)
    have hS5 := hST.out Z w5 _ HZ.out ht5 (fun q => by have := hnb _ q; have := HBS.out; omega)
    have hS6 : wz6 w6 bs s := by
      obtain ⟨q0, q1, q2, q3⟩ := hS5
      have hl : bs < w5.heap.size := World.block_lt_of_cell? w5 _ q0
      have hn : ¬ hb = bs := fun q => by have := HBB.out.2; have := HBS.out; omega
      exact ⟨(ht6.cell (a := ⟨bs, 0, none⟩) hl hn).trans q0, (ht6.cell (a := ⟨bs, 1, none⟩) hl hn).trans q1, (ht6.cell (a := ⟨bs, 2, none⟩) hl hn).trans q2, (ht6.cell (a := ⟨bs, 3, none⟩) hl hn).trans q3⟩
    have HFIN : Hid (HoR w6 base hb (L ++ [s]) ∧ Below base w w6 ∧ ∀ j, w0.heap.size ≤ j → j < w.heap.size → w6.heap[j]? = w.heap[j]?) := by
      have := HF.out.put HS1.out (HBW.out.trans (HZ.out.mono HBW.out.size)) (x := x5) (by rw [← hx5]; exact ho5) ht5 hl5 hm6 ht6
      refine ⟨⟨_, this.1⟩, this.2, fun j h1 h2 => ?_⟩
      have j1 := Nat.lt_of_lt_of_le h2 HBW.out.size
      have j2 := Nat.lt_of_lt_of_le j1 HZ.out.size
      rw [ht6.block j (Nat.lt_of_lt_of_le j2 ht5.size) (fun q => by have := H00.out.1; omega), ht5.block j j2 (fun q => by have := H00.out.2 j q; omega), HZ.out.block j j1, HBW.out.block j h2]
    have HS6 := Lib.hid hS6
    rw [← hx5, hv5] at hrun
    subst hv5
    clear ho5 hg5 hl5 ht5 hnb hm5 hm6 hg6 ht6 hS6 hx5
    refine hKK.out _ _ (hS5) (fun hHeld => ?_)
    clear hKK KK
    (try simp only [Act.put, List.setIfInBounds_toArray, List.set_cons_zero, List.set_cons_succ, List.getElem_toArray, List.getElem_cons_zero, List.getElem_cons_succ])
    refine wpAnyH_ready (rs := [10]) (by kernel_rfl) (by simp) ?_
    refine AllReadyH.cons rfl (fun KK hKK => ?_) AllReadyH.nil
    go_simp
    clear hrun
    refine hKK.out _ _ (HS6.out) (fun hHeld => ?_)
    clear hKK KK
    (try simp only [Act.put, List.setIfInBounds_toArray, List.set_cons_zero, List.set_cons_succ, List.getElem_toArray, List.getElem_cons_zero, List.getElem_cons_succ])
    refine wpAnyH_done (by kernel_rfl) ?_ _
    go_wp2_with fail
    go_end0
    exact ⟨rfl, HFIN.out⟩
  · skip
    go_simp
    have HZ : Hid (Below W.heap.size W (W.alloc (.cells #[.int .i64 s.1, .int .i64 s.2.1, .int .i64 s.2.2.1, .int .i64 s.2.2.2] 75)).drew) := (below1 W (.cells #[.int .i64 s.1, .int .i64 s.2.1, .int .i64 s.2.2.1, .int .i64 s.2.2.2] 75)).drew
    have HN : Hid (SlC (W.alloc (.cells #[.int .i64 s.1, .int .i64 s.2.1, .int .i64 s.2.2.1, .int .i64 s.2.2.2] 75)).drew (.slice (some ⟨W.heap.size, 0, none⟩) 1 1) 4 1 (cells4 s)) := (one4 W s).below (Below.refl _ _).drew
    refine hKK.out _ _ (hS.out _ HZ.out) (fun hHeld => ?_)
    clear hKK KK
    (try simp only [Act.put, List.setIfInBounds_toArray, List.set_cons_zero, List.set_cons_succ, List.getElem_toArray, List.getElem_cons_zero, List.getElem_cons_succ])
    generalize (W.alloc (.cells #[.int .i64 s.1, .int .i64 s.2.1, .int .i64 s.2.2.1, .int .i64 s.2.2.2] 75)).drew = Z at *
    refine wpAnyH_ready (rs := [6]) (by kernel_rfl) (by simp) ?_
    refine AllReadyH.cons rfl (fun KK hKK => ?_) AllReadyH.nil
    have hlk := HLK.out (Z) (HZ.out)
    go_simp
    clear hlk
    refine hKK.out _ _ (hS.out _ (HZ.out)) (fun hHeld => ?_)
    clear hKK KK
    (try simp only [Act.put, List.setIfInBounds_toArray, List.set_cons_zero, List.set_cons_succ, List.getElem_toArray, List.getElem_cons_zero, List.getElem_cons_succ])
    refine wpAnyH_ready (rs := [9]) (by kernel_rfl) (by simp) ?_
    refine AllReadyH.cons rfl (fun KK hKK => ?_) AllReadyH.nil
    refine step_pushS rfl (.tmp 10) (.tmp 12) 22 rfl base 75 4 32 (.agg #[.int .i64 0, .int .i64 0, .int .i64 0, .int .i64 0]) Try.underlying22 stake_info rfl (by decide) (.slice a (ofE L s.1).length c) (ofE L s.1).length (row4 (ofE L s.1)) (by simp [Act.eval, Act.put]) (HROW.out Z HZ.out) (.slice (some ⟨W.heap.size, 0, none⟩) 1 1) 1 (cells4 s) (by simp [Act.eval, Act.put]) HN.out (cells4_one s) (by decide) (by have := HLEN.out; omega) (by decide) (Nat.le_trans HBB.out.1 (Nat.le_trans HBW.out.size HZ.out.size)) ?_
    intro v5 w5 ho5 hg5 hl5
    obtain ⟨x5, hx5⟩ : ∃ x5 : SV, v5 = encS x5 := by
      rcases ho5.2 with ⟨e, _⟩ | ⟨g, cap, cur, e, _⟩
      · exact ⟨none, e⟩
      · exact ⟨some (g, (ofE L s.1).length + 1, cap), e⟩
    obtain ⟨a5, c5, hv5⟩ := (ownsRow_slc ho5).form
    have ht5 : Turn (fun j => blkS ((f s.1).getD none) = some j) Z w5 := by
      have t := turn_grown hg5
      rw [← HV.out, blk_enc] at t
      exact t
    have hl5 : blkS x5 = blkS ((f s.1).getD none) ∨ blkS x5 = some Z.heap.size := by
      rw [← HV.out, blk_enc, hx5, blk_enc] at hl5
      exact hl5
    have hnb : ∀ b, blkS ((f s.1).getD none) = some b → b < w.heap.size := fun b q => (World.ownsRow.lt (HF.out.row s.1 HS1.out) b ((blk_enc _).trans q)).2
    have hm5 : MpS w5 hb f := ((HF.out.below HBW.out).below HZ.out).mp.keep (ht5.block hb ((HF.out.below HBW.out).below HZ.out).mp.lt (HF.out.ne s.1 HS1.out))
    obtain ⟨w6, hrun, hm6, hg6⟩ := hm5.store kitS HEN.out.2 HEN.out.1 HS1.out (x := x5) trivial
    have ht6 : Turn (fun j => hb = j) w5 w6 := (turn_grown hg6).mono (fun j q => by cases q; rfl)
    have hS5 := hST.out Z w5 _ HZ.out ht5 (fun q => by have := hnb _ q; have := HBS.out; omega)
    have hS6 : wz6 w6 bs s := by
      obtain ⟨q0, q1, q2, q3⟩ := hS5
      have hl : bs < w5.heap.size := World.block_lt_of_cell? w5 _ q0
      have hn : ¬ hb = bs := fun q => by have := HBB.out.2; have := HBS.out; omega
      exact ⟨(ht6.cell (a := ⟨bs, 0, none⟩) hl hn).trans q0, (ht6.cell (a := ⟨bs, 1, none⟩) hl hn).trans q1, (ht6.cell (a := ⟨bs, 2, none⟩) hl hn).trans q2, (ht6.cell (a := ⟨bs, 3, none⟩) hl hn).trans q3⟩
    have HFIN : Hid (HoR w6 base hb (L ++ [s]) ∧ Below base w w6 ∧ ∀ j, w0.heap.size ≤ j → j < w.heap.size → w6.heap[j]? = w.heap[j]?) := by
      have := HF.out.put HS1.out (HBW.out.trans (HZ.out.mono HBW.out.size)) (x := x5) (by rw [← hx5]; exact ho5) ht5 hl5 hm6 ht6
      refine ⟨⟨_, this.1⟩, this.2, fun j h1 h2 => ?_⟩
      have j1 := Nat.lt_of_lt_of_le h2 HBW.out.size
      have j2 := Nat.lt_of_lt_of_le j1 HZ.out.size
      rw [ht6.block j (Nat.lt_of_lt_of_le j2 ht5.size) (fun q => by have := H00.out.1; omega), ht5.block j j2 (fun q => by have := H00.out.2 j q; omega), HZ.out.block j j1, HBW.out.block j h2]
    have HS6 := Lib.hid hS6
    rw [← hx5, hv5] at hrun
    subst hv5
    clear ho5 hg5 hl5 ht5 hnb hm5 hm6 hg6 ht6 hS6 hx5
    refine hKK.out _ _ (hS5) (fun hHeld => ?_)
    clear hKK KK
    (try simp only [Act.put, List.setIfInBounds_toArray, List.set_cons_zero, List.set_cons_succ, List.getElem_toArray, List.getElem_cons_zero, List.getElem_cons_succ])
    refine wpAnyH_ready (rs := [10]) (by kernel_rfl) (by simp) ?_
    refine AllReadyH.cons rfl (fun KK hKK => ?_) AllReadyH.nil
    go_simp
    clear hrun
    refine hKK.out _ _ (HS6.out) (fun hHeld => ?_)
    clear hKK KK
    (try simp only [Act.put, List.setIfInBounds_toArray, List.set_cons_zero, List.set_cons_succ, List.getElem_toArray, List.getElem_cons_zero, List.getElem_cons_succ])
    refine wpAnyH_done (by kernel_rfl) ?_ _
    go_wp2_with fail
    go_end0
    exact ⟨rfl, HFIN.out⟩
/- Whether an entity comes back to itself: what the landed code answers of its holding. The conditions: the holding's rows, at most 100000 stakes. -/
theorem ofE_ok {L : List K4} (hL : ∀ s ∈ L, ok4 s) (x : Int) : ∀ s ∈ ofE L x, ok4 s := fun s hs => hL s (mem_ofE.1 hs).1
theorem wrap_up {k : Nat} (h : k < 100000) : wrap64 ((k : Int) + 1) = (k : Int) + 1 := by unfold wrap64; omega
theorem upv_ofE (L : List K4) (x p : Int) : upv (ofE L x) x p = upv L x p ∧ shv (ofE L x) x p = shv L x p := by unfold upv shv; rw [hel_ofE]; exact ⟨rfl, rfl⟩
set_option maxHeartbeats 4000000 in
set_option maxRecDepth 100000 in
theorem goes_h {w : World} {base hb : Nat} {L : List K4} (h : HoR w base hb L) (hL : ∀ t ∈ L, ok4 t) (hn : L.length ≤ 100000) (x : Int) (hx : x ≠ 0) (hxi : InR x) :
    Calls Try.prog 62 #[.map (some hb), .int .i64 x] w fun e w' => e = .returned (.bool (goes L x)) ∧ Below w.heap.size w w' := by
  obtain ⟨f, h⟩ := h
  have HLEN : Hid (∀ X, Below w.heap.size w X → ∀ ty, (Builtin.len_ #[77] ty #[.map (some hb)]).run Try.prog X = .ok (.int .i64 ((ents L).length : Int)) X) := fun X hX ty => (h.below hX).len hL ty
  have HLK : Hid (∀ X z, Below w.heap.size w X → InR z → ∃ a c, (Instr.lookup 77 (.map (some hb)) (.int .i64 z) false).run Try.prog X = .ok (.slice a (ofE L z).length c) X ∧ RdQ X a (ofE L z)) := fun X z hX hz => by
    have h1 := (h.below hX).mp.look1 kitS hz
    obtain ⟨a, c, hv, _, _, hr⟩ := ((h.below hX).row z hz).reads (ofE_ok hL z)
    rw [hv] at h1
    exact ⟨a, c, h1, hr⟩
  have HIN : Hid (∀ p z, InR (nx L p z)) := fun p z => by
    unfold nx
    split
    · exact zero_in
    · exact (hel_ok hL z p).2.1
  have HLE : Hid (∀ z, (ofE L z).length ≤ 1000000) := fun z => Nat.le_trans (List.length_filter_le _ _) (by omega)
  have HEN : Hid ((ents L).length ≤ 100000) := Nat.le_trans (ents_len L) hn
  have HX := Lib.hid (And.intro hx hxi)
  obtain ⟨r, hr⟩ : ∃ r, r = goes L x := ⟨_, rfl⟩
  rw [← hr]
  have HR := Lib.hid hr
  clear h hL hn hx hxi hr
  go_enter Try.func62, Try.ntmps62
  go_wp2_with fail
  go_step3
  go_wp2_with fail
  go_step3
  go_wp2_with fail
  go_loopw [7] (fun i wr => ∃ p : Nat, p ≤ 24 ∧ i = .int .i64 (p : Int) ∧ (∀ q : Nat, q < p → ¬ Back (nx L (q : Int)) x) ∧ Below w.heap.size w wr) (fun i _ => 24 - (RowKit.intOf i).toNat)
  case atStart => exact ⟨0, by omega, rfl, fun q hq => by omega, Below.refl _ _⟩
  case round =>
    obtain ⟨p, hp, rfl, hok, hb⟩ := hrel
    have HOK := Lib.hid hok; clear hok
    by_cases hlt : p < 24
    · have i0 : decide (p < 24) = true := decide_eq_true hlt
      have i1 : decide ((p : Int) < 24) = true := decide_eq_true (by omega)
      have e1 : wrap64 ((p : Int) + 1) = (p : Int) + 1 := by unfold wrap64; omega
      have hlen := HLEN.out wr hb
      have HB := Lib.hid hb
      have HLT := Lib.hid hlt
      generalize hM : (ents L).length = M at *
      have HM := Lib.hid hM
      clear hb hM
      go_wp2_with fail
      clear hlen
      have HRND : Hid (∀ w', Below w.heap.size w w' → ¬ Back (nx L (p : Int)) x → ∃ p' : Nat, p' ≤ 24 ∧ Value.int .i64 ((p : Int) + 1) = .int .i64 (p' : Int) ∧ (∀ q : Nat, q < p' → ¬ Back (nx L (q : Int)) x) ∧ Below w.heap.size w w') := fun w' h1 h2 => ⟨p + 1, HLT.out, by rw [show ((p + 1 : Nat) : Int) = (p : Int) + 1 by omega], fun q hq => by
        rcases Nat.lt_or_ge q p with q' | q'
        · exact HOK.out q q'
        · rw [show q = p by omega]; exact h2, h1⟩
      go_loopw [6, 13] (fun va i wy => ∃ k : Nat, k ≤ M ∧ i = .int .i64 (k : Int) ∧ va = .int .i64 (way (nx L (p : Int)) k x) ∧ (∀ j, 1 ≤ j → j ≤ k → way (nx L (p : Int)) j x ≠ 0 ∧ way (nx L (p : Int)) j x ≠ x) ∧ Below w.heap.size w wy) (fun _ i _ => M - (RowKit.intOf i).toNat)
      case atStart => exact ⟨0, Nat.zero_le _, rfl, rfl, fun j h1 h2 => by omega, HB.out⟩
      case round =>
        clear HB
        obtain ⟨k, hk, rfl, rfl, hway, hb⟩ := hrel
        have HWY := Lib.hid hway; clear hway
        by_cases hkm : k < M
        · have j0 : decide (k < M) = true := decide_eq_true hkm
          have j1 : decide ((k : Int) < (M : Int)) = true := decide_eq_true (by omega)
          have hkb : k < 100000 := Nat.lt_of_lt_of_le hkm HEN.out
          have e2 : wrap64 ((k : Int) + 1) = (k : Int) + 1 := wrap_up hkb
          have hz0 : way (nx L (p : Int)) k x ≠ 0 := by
            rcases Nat.eq_zero_or_pos k with q | q
            · subst q; exact HX.out.1
            · exact (HWY.out k q (Nat.le_refl _)).1
          have hzi : InR (way (nx L (p : Int)) k x) := by
            rcases Nat.eq_zero_or_pos k with q | q
            · subst q; exact HX.out.2
            · obtain ⟨i, rfl⟩ : ∃ i, k = i + 1 := ⟨k - 1, by omega⟩
              exact HIN.out _ _
          have HNX : Hid (way (nx L (p : Int)) (k + 1) x = upv L (way (nx L (p : Int)) k x) (p : Int)) := nx_ne hz0
          have HKM := Lib.hid hkm
          generalize way (nx L (p : Int)) k x = z at *
          obtain ⟨a, c, hlk, hrd⟩ := HLK.out _ z hb hzi
          have hat := at_s a c (ofE L z) z (p : Int) _ hrd (HLE.out z)
          rw [(upv_ofE L z (p : Int)).1, (upv_ofE L z (p : Int)).2, ← HNX.out] at hat
          have HB := Lib.hid hb
          have HST : Hid (∀ w', Below w.heap.size w w' → way (nx L (p : Int)) (k + 1) x ≠ 0 → way (nx L (p : Int)) (k + 1) x ≠ x → ∃ k' : Nat, k' ≤ M ∧ Value.int .i64 ((k : Int) + 1) = .int .i64 (k' : Int) ∧ Value.int .i64 (way (nx L (p : Int)) (k + 1) x) = .int .i64 (way (nx L (p : Int)) k' x) ∧ (∀ j, 1 ≤ j → j ≤ k' → way (nx L (p : Int)) j x ≠ 0 ∧ way (nx L (p : Int)) j x ≠ x) ∧ Below w.heap.size w w') := fun w' h1 h2 h3 =>
            ⟨k + 1, HKM.out, by rw [show ((k + 1 : Nat) : Int) = (k : Int) + 1 by omega], rfl, fun j q1 q2 => by
              rcases Nat.lt_or_ge j (k + 1) with r | r
              · exact HWY.out j q1 (by omega)
              · rw [show j = k + 1 by omega]; exact ⟨h2, h3⟩, h1⟩
          have HZ0 : Hid (way (nx L (p : Int)) (k + 1) x = 0 → ¬ Back (nx L (p : Int)) x) := by
            rintro h0 ⟨j, h1, h2⟩
            rcases Nat.lt_or_ge j (k + 1) with r | r
            · exact (HWY.out j h1 (by omega)).2 h2
            · rw [show j = (k + 1) + (j - (k + 1)) by omega, way_add, h0, way_zero (nx_zero L _)] at h2
              exact HX.out.1 h2.symm
          have HZX : Hid (way (nx L (p : Int)) (k + 1) x = x → r = true) := fun h0 => by
            rw [HR.out]; exact (goes_is HX.out.1).2 ⟨p, HLT.out, k + 1, by omega, h0⟩
          clear hb hrd hz0 hzi
          generalize way (nx L (p : Int)) (k + 1) x = y at *
          generalize shv L z (p : Int) = sh at *
          by_cases h0 : y = 0
          · have HNB : Hid (¬ Back (nx L (p : Int)) x) := HZ0.out h0
            subst h0
            go_wp2_with fail
            refine hat.mono ?_; clear hat; rintro e w4 ⟨rfl, hb4⟩
            have HB4 : Hid (Below w.heap.size w w4) := HB.out.trans (hb4.mono HB.out.size)
            clear hb4 hlk
            go_wp2_with fail
            go_roundw
            · exact HRND.out _ HB4.out HNB.out
            · have := HLT.out; simp [RowKit.intOf]; omega
          · have e0 : (y == 0) = false := by simpa using h0
            by_cases h1 : y = x
            · have HRV : Hid (r = true) := HZX.out h1
              subst h1
              clear h0
              go_wp2_with fail
              refine hat.mono ?_; clear hat; rintro e w4 ⟨rfl, hb4⟩
              have HB4 : Hid (Below w.heap.size w w4) := HB.out.trans (hb4.mono HB.out.size)
              clear hb4 hlk
              go_wp2_with fail
              try rw [Exit.noGoto_ret]
              go_ret
              exact ⟨by rw [HRV.out] <;> rfl, HB4.out⟩
            · have e3 : (y == x) = false := by simpa using h1
              have HN := Lib.hid (And.intro h0 h1)
              clear h0 h1
              go_wp2_with fail
              refine hat.mono ?_; clear hat; rintro e w4 ⟨rfl, hb4⟩
              have HB4 : Hid (Below w.heap.size w w4) := HB.out.trans (hb4.mono HB.out.size)
              clear hb4 hlk
              go_wp2_with fail
              go_roundw
              · (first | exact HST.out _ HB4.out HN.out.1 HN.out.2 | (rw [e2]; exact HST.out _ HB4.out HN.out.1 HN.out.2))
              · have := HKM.out; simp [RowKit.intOf]; omega
        · obtain rfl : k = M := by omega
          have HNB : Hid (¬ Back (nx L (p : Int)) x) := fun q => by
            obtain ⟨j, h1, h2, h3⟩ := (back_ents HX.out.1).1 q
            exact (HWY.out j h1 (by rw [HM.out] at h2; exact h2)).2 h3
          have HB := Lib.hid hb
          clear hb hkm
          go_wp2_with fail
          go_roundw
          · exact HRND.out _ HB.out HNB.out
          · have := HLT.out; simp [RowKit.intOf]; omega
    · obtain rfl : p = 24 := by omega
      have HRV : Hid (r = false) := by
        show _ = _
        rw [HR.out]
        cases e : goes L x with
        | false => rfl
        | true =>
          obtain ⟨k, h1, h2⟩ := (goes_is HX.out.1).1 e
          exact absurd h2 (HOK.out k h1)
      have HB := Lib.hid hb; clear hb
      go_wp2_with fail
      try rw [Exit.noGoto_ret]
      go_ret
      exact ⟨by rw [HRV.out] <;> rfl, HB.out⟩
/- The landed next of a holding: what is wrong with a stake behind those that it holds. The conditions: the holding's rows, fewer than 100000 stakes. -/
theorem ok4_snoc {L : List K4} {s : K4} (hL : ∀ t ∈ L, ok4 t) (hs : ok4 s) : ∀ t ∈ L ++ [s], ok4 t := fun t ht => by
  rcases List.mem_append.1 ht with q | q
  · exact hL t q
  · rw [List.mem_singleton.1 q]; exact hs
set_option maxHeartbeats 4000000 in
set_option maxRecDepth 100000 in
theorem next_s {w : World} {base hb : Nat} {L : List K4} (h : HoR w base hb L) (hbs : base ≤ w.heap.size) (hL : ∀ t ∈ L, ok4 t) (hn : L.length < 100000) (s : K4) (hs : ok4 s) (n : Int) :
    Calls Try.prog 48 #[.map (some hb), .agg #[.int .i64 s.1, .int .i64 s.2.1, .int .i64 s.2.2.1, .int .i64 s.2.2.2], .int .i64 n] w fun e w' => e = .returned (.int .i64 (nxe L s n)) ∧ (nxe L s n = 0 → HoR w' base hb (L ++ [s])) ∧ Below base w w' := by
  have hbx := below1 w (.cells #[.int .i64 s.1, .int .i64 s.2.1, .int .i64 s.2.2.1, .int .i64 s.2.2.2] 75)
  obtain ⟨g0, g1, g2, g3⟩ := new4 (w := w) (s := s) (Below.refl _ _)
  have hlt : w.heap.size < (w.alloc (.cells #[.int .i64 s.1, .int .i64 s.2.1, .int .i64 s.2.2.1, .int .i64 s.2.2.2] 75)).heap.size := by simp
  have hwr := wrong_s s n (w.alloc (.cells #[.int .i64 s.1, .int .i64 s.2.1, .int .i64 s.2.2.1, .int .i64 s.2.2.2] 75))
  have HBX := Lib.hid hbx
  have HBS := Lib.hid hbs
  by_cases hw : wrg s n = 0
  · have hx0 : s.1 ≠ 0 := fun q => by have := wrg_zero hw; omega
    have HV : Hid (nxe L s n = if goes (L ++ [s]) s.1 = true then 26 else 0) := by show _ = _; unfold nxe; rw [hw, if_neg (fun q => q rfl)]
    rw [hw] at hwr
    have HH := Lib.hid h
    have HPUT : Hid (∀ X, Below w.heap.size w X → Calls Try.prog 61 #[.map (some hb), .agg #[.int .i64 s.1, .int .i64 s.2.1, .int .i64 s.2.2.1, .int .i64 s.2.2.2]] X fun e w' => e = .returned (.tuple #[]) ∧ HoR w' base hb (L ++ [s]) ∧ Below base X w' ∧ ∀ j, w.heap.size ≤ j → j < X.heap.size → w'.heap[j]? = X.heap[j]?) := fun X hX => put_s h hX hL (by omega) s hs
    have HGO : Hid (∀ X, HoR X base hb (L ++ [s]) → Calls Try.prog 62 #[.map (some hb), .int .i64 s.1] X fun e w' => e = .returned (.bool (goes (L ++ [s]) s.1)) ∧ Below X.heap.size X w') := fun X hX => goes_h hX (ok4_snoc hL hs) (by simp; omega) s.1 hx0 hs.1
    obtain ⟨r, hr⟩ : ∃ r, r = nxe L s n := ⟨_, rfl⟩
    rw [← hr]
    have HR : Hid (r = if goes (L ++ [s]) s.1 = true then 26 else 0) := hr.trans HV.out
    have HQ : Hid (∀ X, HoR X base hb (L ++ [s]) → (r = 0 → HoR X base hb (L ++ [s]))) := fun X hX _ => hX
    clear hw hx0 h hL hn hs hbx hbs hr
    go_enter Try.func48, Try.ntmps48
    go_wp2_with fail
    generalize hW : w.alloc (.cells #[.int .i64 s.1, .int .i64 s.2.1, .int .i64 s.2.2.1, .int .i64 s.2.2.2] 75) = W at *
    clear hW
    refine hwr.mono ?_; clear hwr; rintro e w2 ⟨rfl, hb2⟩
    have k0 := (hb2.cell (p := ⟨w.heap.size, 0, none⟩) hlt).trans g0
    have k1 := (hb2.cell (p := ⟨w.heap.size, 1, none⟩) hlt).trans g1
    have k2 := (hb2.cell (p := ⟨w.heap.size, 2, none⟩) hlt).trans g2
    have k3 := (hb2.cell (p := ⟨w.heap.size, 3, none⟩) hlt).trans g3
    have hl2 : w.heap.size < w2.heap.size := Nat.lt_of_lt_of_le hlt hb2.size
    have HB2 : Hid (Below w.heap.size w w2) := HBX.out.trans (hb2.mono HBX.out.size)
    clear g0 g1 g2 g3 hb2 hlt
    go_wp2_with fail
    refine (HPUT.out w2 HB2.out).mono ?_; rintro e w3 ⟨rfl, hr3, hb3, hk3⟩
    have q0 : w3.cell? ⟨w.heap.size, 0, none⟩ = some (.int .i64 s.1) := (World.cell?_of_block (a := ⟨w.heap.size, 0, none⟩) (hk3 w.heap.size (Nat.le_refl _) hl2)).trans k0
    have hgo := HGO.out w3 hr3
    have HR3 := Lib.hid hr3
    have HB3 : Hid (Below base w w3) := (HB2.out.mono HBS.out).trans hb3
    clear k0 k1 k2 k3 hr3 hb3 hk3 hl2
    cases hg : goes (L ++ [s]) s.1 with
    | false =>
      have HRV : Hid (r = 0) := by show _ = _; rw [HR.out, hg]; rfl
      rw [hg] at hgo
      clear hg
      go_wp2_with fail
      refine hgo.mono ?_; clear hgo; rintro e w4 ⟨rfl, hb4⟩
      have HB4 : Hid (Below base w w4) := HB3.out.trans (hb4.mono (Nat.le_trans HBS.out HB3.out.size))
      have HR4 := Lib.hid (HR3.out.below hb4)
      clear hb4 q0
      go_wp2_with fail
      go_ret
      exact ⟨by rw [HRV.out] <;> rfl, HQ.out _ HR4.out, HB4.out⟩
    | true =>
      have HRV : Hid (r = 26) := by show _ = _; rw [HR.out, hg]; rfl
      rw [hg] at hgo
      clear hg
      go_wp2_with fail
      refine hgo.mono ?_; clear hgo; rintro e w4 ⟨rfl, hb4⟩
      have HB4 : Hid (Below base w w4) := HB3.out.trans (hb4.mono (Nat.le_trans HBS.out HB3.out.size))
      have HR4 := Lib.hid (HR3.out.below hb4)
      clear hb4 q0
      go_wp2_with fail
      go_ret
      exact ⟨by rw [HRV.out] <;> rfl, HQ.out _ HR4.out, HB4.out⟩
  · have HRV : Hid (nxe L s n = wrg s n ∧ ¬ nxe L s n = 0) := by
      have e : nxe L s n = wrg s n := by unfold nxe; rw [if_pos hw]
      exact ⟨e, by rw [e]; exact hw⟩
    have e0 : (wrg s n != 0) = true := by simpa using hw
    obtain ⟨r, hr⟩ : ∃ r, r = nxe L s n := ⟨_, rfl⟩
    rw [← hr] at HRV ⊢
    generalize wrg s n = x at *
    clear hw h hL hn hs hbx hbs hr
    go_enter Try.func48, Try.ntmps48
    go_wp2_with fail
    generalize hW : w.alloc (.cells #[.int .i64 s.1, .int .i64 s.2.1, .int .i64 s.2.2.1, .int .i64 s.2.2.2] 75) = W at *
    clear hW
    refine hwr.mono ?_; clear hwr; rintro e w2 ⟨rfl, hb2⟩
    have HB2 : Hid (Below base w w2) := (HBX.out.trans (hb2.mono HBX.out.size)).mono HBS.out
    clear g0 g1 g2 g3 hb2 hlt
    go_wp2_with fail
    go_ret
    exact ⟨by rw [HRV.out.1] <;> rfl, fun q => absurd q HRV.out.2, HB2.out⟩
/- The landed Check of layer 18. The condition: a row of at most 1000000. -/
set_option maxHeartbeats 4000000 in
set_option maxRecDepth 100000 in
theorem check_s (a : Option Addr) (c : Nat) (L : List K4) (n : Int) (w : World) (hL : RdQ w a L) (hn : L.length ≤ 1000000) :
    Calls Try.prog 30 #[.slice a L.length c, .int .i64 n] w fun e w' => e = .returned (.tuple #[.int .i64 (chV L n), .int .i64 (chE L n)]) ∧ Below w.heap.size w w' := by
  by_cases h40 : 400 < L.length
  · have d1 : decide (400 < L.length) = true := decide_eq_true h40
    have d2 : decide ((400 : Int) < (L.length : Int)) = true := decide_eq_true (by omega)
    rw [show chV L n = 0 from if_pos h40, show chE L n = 3 from if_pos h40]
    clear hL
    go_enter Try.func30, Try.ntmps30
    go_wp2_with fail
    go_ret2
    exact ⟨rfl, Below.refl _ _⟩
  · have d1 : decide (400 < L.length) = false := decide_eq_false h40
    have d2 : decide ((400 : Int) < (L.length : Int)) = false := decide_eq_false (by omega)
    have hV : Hid (chV L n = (fst18 L n : Int) ∧ chE L n = if fst18 L n < L.length then nxe (L.take (fst18 L n)) (L.getD (fst18 L n) z4) n else 0) := ⟨if_neg h40, if_neg h40⟩
    have HL := Lib.hid hL; clear hL
    have hln : L.length ≤ 400 := by omega
    have hmm := @run_makeMap Try.prog
    have HM0 : Hid (HoR (w.alloc (.map #[] 0)) w.heap.size w.heap.size []) := HoR.made w w.heap.size (Nat.le_refl _)
    have HB0 := Lib.hid (below1 w (.map #[] 0))
    obtain ⟨hb, hhb⟩ : ∃ hb, hb = w.heap.size := ⟨_, rfl⟩
    have HM0 : Hid (HoR (w.alloc (.map #[] 0)) w.heap.size hb []) := by show HoR _ _ _ _; rw [hhb]; exact HM0.out
    obtain ⟨cv, hcv⟩ : ∃ x, x = chV L n := ⟨_, rfl⟩
    obtain ⟨ce, hce⟩ : ∃ x, x = chE L n := ⟨_, rfl⟩
    rw [← hcv, ← hce] at hV ⊢
    clear hcv hce
    go_enter Try.func30, Try.ntmps30
    go_wp2_with fail
    rw [← hhb]
    clear hhb
    generalize w.alloc (.map #[] 0) = W at *
    clear d1 d2 h40 hmm
    go_loopw [16] (fun i wr => ∃ k : Nat, k ≤ L.length ∧ i = .int .i64 (k : Int) ∧ (∀ j, j < k → nxe (L.take j) (L.getD j z4) n = 0) ∧ HoR wr w.heap.size hb (L.take k) ∧ Below w.heap.size w wr) (fun i _ => L.length - (RowKit.intOf i).toNat)
    case atStart => exact ⟨0, Nat.zero_le _, rfl, fun j hj => by omega, HM0.out, HB0.out⟩
    case round =>
      clear HM0 HB0
      obtain ⟨k, hk, rfl, hok, hm, hb0⟩ := hrel
      have HK := Lib.hid hok; clear hok
      by_cases hlt : k < L.length
      · obtain ⟨b, off, rfl, d0, d1, d2, d3⟩ := (HL.out.below hb0).2 k hlt
        have i0 : (0 : Int) ≤ (k : Int) := by omega
        have i1 : (k : Int) < (L.length : Int) := by omega
        have e1 : wrap64 ((k : Int) + 1) = (k : Int) + 1 := by unfold wrap64; omega
        have HOK : Hid (ok4 (L.getD k z4)) := HL.out.at hlt
        have HOKS : Hid (∀ t ∈ L.take k, ok4 t) := fun t ht => HL.out.1 t (List.mem_of_mem_take ht)
        have HT : Hid (L.take (k + 1) = L.take k ++ [L.getD k z4]) := take4 hlt
        have HLT := Lib.hid hlt
        have hbx := below1 wr (.cells #[.int .i64 (L.getD k z4).1, .int .i64 (L.getD k z4).2.1, .int .i64 (L.getD k z4).2.2.1, .int .i64 (L.getD k z4).2.2.2] 75)
        obtain ⟨g0, g1, g2, g3⟩ := new4 (w := wr) (s := L.getD k z4) (Below.refl _ _)
        have hnx := next_s (hm.below hbx) (Nat.le_trans hb0.size hbx.size) HOKS.out (by rw [List.length_take]; omega) (L.getD k z4) HOK.out n
        have HB : Hid (Below w.heap.size w (wr.alloc (.cells #[.int .i64 (L.getD k z4).1, .int .i64 (L.getD k z4).2.1, .int .i64 (L.getD k z4).2.2.1, .int .i64 (L.getD k z4).2.2.2] 75))) := hb0.trans (hbx.mono hb0.size)
        obtain ⟨x, hx⟩ : ∃ x, x = nxe (L.take k) (L.getD k z4) n := ⟨_, rfl⟩
        rw [← hx] at hnx
        have HX := Lib.hid hx
        have HK2 : Hid (x ≠ 0 → fst18 L n = k) := fun q => fst18_is hk HK.out (Or.inr (fun r => q (hx.trans r)))
        have HRN : Hid (x = 0 → ∀ j, j < k + 1 → nxe (L.take j) (L.getD j z4) n = 0) := fun q j hj => by
          rcases Nat.lt_or_ge j k with r | r
          · exact HK.out j r
          · rw [show j = k by omega]; exact hx.symm.trans q
        have HCV : Hid (x ≠ 0 → cv = (k : Int) ∧ ce = x) := fun q => by
          have e := HK2.out q
          have e1 := hV.out.1
          have e2 := hV.out.2
          rw [e] at e1 e2
          rw [if_pos hlt, ← hx] at e2
          exact ⟨e1, e2⟩
        rw [← HT.out] at hnx
        clear HK HX HK2
        generalize L.getD k z4 = s at *
        clear hm hb0 hbx hx
        by_cases h0 : x = 0
        · subst h0
          go_wp2_with fail
          generalize hW : wr.alloc (.cells #[.int .i64 s.1, .int .i64 s.2.1, .int .i64 s.2.2.1, .int .i64 s.2.2.2] 75) = W' at *
          clear hW
          refine hnx.mono ?_; clear hnx; rintro e w4 ⟨rfl, hm4, hb4⟩
          have HM4 : Hid (HoR w4 w.heap.size hb (L.take (k + 1))) := hm4 (by first | rfl | trivial)
          have HB4 : Hid (Below w.heap.size w w4) := HB.out.trans hb4
          clear hb4 hm4 g0 g1 g2 g3 d0 d1 d2 d3
          go_wp2_with fail
          go_roundw
          · exact ⟨k + 1, by omega, by go_num, HRN.out (by first | rfl | trivial), HM4.out, HB4.out⟩
          · simp [RowKit.intOf]; omega
        · have e0 : (x != 0) = true := by simpa using h0
          have HCC := Lib.hid (HCV.out h0)
          clear h0
          go_wp2_with fail
          generalize hW : wr.alloc (.cells #[.int .i64 s.1, .int .i64 s.2.1, .int .i64 s.2.2.1, .int .i64 s.2.2.2] 75) = W' at *
          clear hW
          refine hnx.mono ?_; clear hnx; rintro e w4 ⟨rfl, -, hb4⟩
          have HB4 : Hid (Below w.heap.size w w4) := HB.out.trans hb4
          clear hb4 g0 g1 g2 g3 d0 d1 d2 d3
          go_wp2_with fail
          go_ret2
          exact ⟨by rw [HCC.out.1, HCC.out.2] <;> rfl, HB4.out⟩
      · obtain rfl : k = L.length := by omega
        have hk2 : Hid (fst18 L n = L.length) := fst18_is (Nat.le_refl _) HK.out (Or.inl rfl)
        have hd0 : decide ((L.length : Int) < (L.length : Int)) = false := decide_eq_false (by omega)
        have HB := Lib.hid hb0; clear hb0 hm
        go_wp2_with fail
        go_ret2
        exact ⟨by rw [hV.out.1, hV.out.2, hk2.out, if_neg (Nat.lt_irrefl _)] <;> rfl, HB.out⟩
end Go.Proofs.Ytebjmnppeohdiaa
