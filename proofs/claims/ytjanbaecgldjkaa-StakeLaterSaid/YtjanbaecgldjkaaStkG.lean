/-
  What the landed holding leaves of one more stake. The conditions: the holding's rows, at most 100000 stakes.
-/
import Derived.Test.YtjanbaecgldjkaaStkF
import Derived.Deep.QuietTactic
import Derived.BigQuiet
import Derived.WalkSmall
import Derived.Deep.DeepCutAuto
import Derived.Deep.RegionHeld3
namespace Go.Proofs.Ytjanbaecgldjkaa
open Go.RowKit Go.Maps
set_option linter.unusedSimpArgs false
set_option linter.unusedVariables false

section
variable {P : Program} {w : World}
/-- append, to a row that is owned, of a slice, at a step of a region that draws its order: where the row lies behind it. -/
theorem step_pushS {ops : Array Oper} {o : Oper} {a : Act} {K0 : Act → World → Prop} {Q : Exit → Act → World → Prop} {E : Prop} (hgd : o.guard = none) (s x : Operand) (t : TypeId)
    (ho : o.op = .call { callee := .builtin .append, args := #[s, x], argTypes := #[t, t] })
    (base : Nat) (e : TypeId) (size bytes : Nat) (z : Value) (ht : P.underlying t = some (.slice e)) (hi : (P.info? e).map (fun i => (i.zero, i.size, i.bytes)) = some (some z, size, bytes)) (hzs : z.cells.size = size) (hsz : 0 < size)
    (v : Value) (n : Nat) (xs : List Value) (hs : a.eval s = v) (hown : w.ownsRow base e size v n xs)
    (y : Value) (m : Nat) (news : List Value) (hx : a.eval x = y) (hr : SlC w y size m news) (h1 : ∀ u ∈ news, u.oneCell' = true) (hm : 0 < m)
    (h63 : n + m ≤ 1000000000) (hby : bytes ≤ 10000) (hbase : base ≤ w.heap.size)
    (h : ∀ v' w', w'.ownsRow base e size v' (n + m) (xs ++ news) → w.grownBy w' v.ownBlock → (v'.ownBlock = v.ownBlock ∨ v'.ownBlock = some w.heap.size) → K0 (a.put o.dst v') w') : if Region.wanted o (yielded ops a.tmps) = true then Oper.wp P o a w K0 Q else E := by
  have hw : Region.wanted o (yielded ops a.tmps) = true := by simp [Region.wanted, hgd]
  rw [if_pos hw]
  obtain ⟨i, hi, hz, hsize, hbyt⟩ := info_parts hi
  obtain ⟨A, c, rfl, hc, hc0, hl, hread⟩ := hr
  have hbytes : (n + m) * bytes ≤ 140737488355328 := by
    have := Nat.mul_le_mul h63 hby
    omega
  rcases A with _ | ad
  · have := hc0 rfl; omega
  · obtain ⟨v', w', hrun, own', hgrow, _, hloc⟩ := run_append_own_at (P := P) w base t o.type e i z size bytes ht hi hz hsize hbyt hzs hsz v n xs hown ad m c news hl (by
      intro j u hj
      have hjl : j < news.length := by
        rcases Nat.lt_or_ge j news.length with q | q
        · exact q
        · rw [List.getElem?_eq_none q] at hj; cases hj
      obtain ⟨b, off, hh, hcell⟩ := hread j hjl
      cases hh
      rw [hj] at hcell
      by_cases h0 : j = 0
      · subst h0; simpa [Addr.add] using hcell
      · simpa [Addr.add, h0] using hcell) h1 (by unfold maxLen; omega) hbytes hbase
    unfold Oper.wp
    simp [execOp, ho, resolve, invoke, builtin, hs, hx, hrun, Result.andThen]
    exact h v' w' own' hgrow hloc
end
theorem ents_snoc {L : List K4} {s : K4} {x : Int} : x ∈ ents (L ++ [s]) ↔ x = s.1 ∨ x ∈ ents L := by
  rw [mem_ents, mem_ents, List.map_append, List.mem_append]
  simp only [List.map_cons, List.map_nil, List.mem_singleton]
  exact ⟨fun q => q.elim Or.inr Or.inl, fun q => q.elim Or.inr Or.inl⟩
/-- One stake more: behind the append to its entity's row, and the store. -/
theorem HoF.put {w Z Z1 Z2 : World} {base hb : Nat} {f : Int → Option SV} {L : List K4} {s : K4} {x : SV} (h : HoF w base hb f L) (hs : InR s.1) (hZ : Below w.heap.size w Z)
    (ho : Z1.ownsRow base 24 4 (encS x) ((ofE L s.1).length + 1) (row4 (ofE L s.1) ++ cells4 s)) (hg : Turn (fun j => blkS ((f s.1).getD none) = some j) Z Z1)
    (hl : blkS x = blkS ((f s.1).getD none) ∨ blkS x = some Z.heap.size) (hm : MpS Z2 hb (fun j => if j = s.1 then some x else f j)) (hg2 : Turn (fun j => hb = j) Z1 Z2) : HoF Z2 base hb (fun j => if j = s.1 then some x else f j) (L ++ [s]) ∧ Below base w Z2 := by
  have hbl : hb < w.heap.size := h.mp.lt
  have hlt : ∀ y, InR y → ∀ b, blkS ((f y).getD none) = some b → base ≤ b ∧ b < w.heap.size := fun y hy b q => World.ownsRow.lt (h.row y hy) b ((blk_enc _).trans q)
  have hxb : ∀ b, blkS x = some b → b ≠ hb := by
    intro b q
    rcases hl with e | e
    · rw [e] at q
      intro r; subst r; exact h.ne s.1 hs q
    · rw [e] at q; cases q
      have := hZ.size; omega
  refine ⟨⟨hm, h.le, fun y hy => ?_, fun y hy => ?_, ?_, ?_⟩, ?_⟩
  · show OwnS Z2 base (encS ((if y = s.1 then some x else f y).getD none)) (ofE (L ++ [s]) y)
    rw [ofE_snoc]
    by_cases e : y = s.1
    · subst e
      rw [if_pos rfl, if_pos rfl]
      have h1 : OwnS Z1 base (encS x) (ofE L s.1 ++ [s]) := by
        show World.ownsRow _ _ _ _ _ _ _
        rw [List.length_append, ← row4_app]; exact ho
      exact ownS_keep h1 fun b q => hg2.block b (World.ownsRow.lt ho b q).2 (fun r => hxb b ((blk_enc x).symm.trans q) r.symm)
    · rw [if_neg e, if_neg (fun q => e q.symm)]
      refine ownS_keep (h.row y hy) fun b q => ?_
      have q : blkS ((f y).getD none) = some b := (blk_enc _).symm.trans q
      have hb1 := (hlt y hy b q).2
      rw [hg2.block b (Nat.lt_of_lt_of_le (Nat.lt_of_lt_of_le hb1 hZ.size) hg.size) (fun r => h.ne y hy (by rw [r]; exact q)), hg.block b (Nat.lt_of_lt_of_le hb1 hZ.size) (fun r => h.ap y s.1 hy hs e b q r), hZ.block b hb1]
  · show (if y = s.1 then some x else f y).isSome = decide (y ∈ ents (L ++ [s]))
    by_cases e : y = s.1
    · rw [if_pos e, decide_eq_true (ents_snoc.2 (Or.inl e))]; rfl
    · rw [if_neg e, h.has y hy]
      rw [Bool.eq_iff_iff]; simp only [decide_eq_true_eq]
      exact ⟨fun q => ents_snoc.2 (Or.inr q), fun q => (ents_snoc.1 q).elim (fun r => absurd r e) id⟩
  · intro y z hy hz hne b q r
    have q : blkS ((if y = s.1 then some x else f y).getD none) = some b := q
    have r : blkS ((if z = s.1 then some x else f z).getD none) = some b := r
    by_cases e1 : y = s.1
    · have e2 : z ≠ s.1 := fun e => hne (e1.trans e.symm)
      rw [if_pos e1] at q
      rw [if_neg e2] at r
      have q : blkS x = some b := q
      rcases hl with e | e
      · rw [e] at q; exact h.ap s.1 z hs hz (fun e => e2 e.symm) b q r
      · rw [e] at q; cases q
        have := (hlt z hz _ r).2; have := hZ.size; omega
    · rw [if_neg e1] at q
      by_cases e2 : z = s.1
      · rw [if_pos e2] at r
        have r : blkS x = some b := r
        rcases hl with e | e
        · rw [e] at r; exact h.ap s.1 y hs hy (fun e => e1 e.symm) b r q
        · rw [e] at r; cases r
          have := (hlt y hy _ q).2; have := hZ.size; omega
      · rw [if_neg e2] at r
        exact h.ap y z hy hz hne b q r
  · intro y hy q
    have q : blkS ((if y = s.1 then some x else f y).getD none) = some hb := q
    by_cases e : y = s.1
    · rw [if_pos e] at q; exact hxb hb q rfl
    · rw [if_neg e] at q; exact h.ne y hy q
  · have hbw : base ≤ w.heap.size := by have := h.le; omega
    have b1 : Below base w Z := hZ.mono hbw
    have b2 : Below base Z Z1 := hg.below (fun j q => (hlt s.1 hs j q).1) (Nat.le_trans hbw hZ.size)
    have b3 : Below base Z1 Z2 := hg2.below (fun j q => by have := h.le; omega) (Nat.le_trans (Nat.le_trans hbw hZ.size) hg.size)
    exact (b1.trans b2).trans b3
def wz6 (wz : World) (bs : Nat) (s : K4) : Prop := wz.cell? ⟨bs, 0, none⟩ = some (.int .i64 s.1) ∧ wz.cell? ⟨bs, 1, none⟩ = some (.int .i64 s.2.1) ∧ wz.cell? ⟨bs, 2, none⟩ = some (.int .i64 s.2.2.1) ∧ wz.cell? ⟨bs, 3, none⟩ = some (.int .i64 s.2.2.2)
set_option maxHeartbeats 4000000 in
set_option maxRecDepth 100000 in
theorem put_s {w0 w : World} {base hb : Nat} {L : List K4} (h0 : HoR w0 base hb L) (hb0 : Below w0.heap.size w0 w) (hL : ∀ t ∈ L, ok4 t) (hn : L.length ≤ 100000) (s : K4) (hs : ok4 s) :
    Calls Try.prog 22 #[.map (some hb), .agg #[.int .i64 s.1, .int .i64 s.2.1, .int .i64 s.2.2.1, .int .i64 s.2.2.2]] w fun e w' => e = .returned (.tuple #[]) ∧ HoR w' base hb (L ++ [s]) ∧ Below base w w' ∧ ∀ j, w0.heap.size ≤ j → j < w.heap.size → w'.heap[j]? = w.heap[j]? := by
  obtain ⟨f, h0⟩ := h0
  have h := h0.below hb0
  have H00 : Hid (hb < w0.heap.size ∧ ∀ b, blkS ((f s.1).getD none) = some b → b < w0.heap.size) := ⟨h0.mp.lt, fun b q => (World.ownsRow.lt (h0.row s.1 hs.1) b ((blk_enc _).trans q)).2⟩
  clear h0 hb0
  have hr := h.row s.1 hs.1
  obtain ⟨a, c, hv⟩ := (ownsRow_slc hr).form
  have HV := Lib.hid hv
  have hbw := below1 w (.cells #[.int .i64 s.1, .int .i64 s.2.1, .int .i64 s.2.2.1, .int .i64 s.2.2.2] 24)
  obtain ⟨g0, g1, g2, g3⟩ := new4 (w := w) (s := s) (Below.refl _ _)
  have hlt : w.heap.size < (w.alloc (.cells #[.int .i64 s.1, .int .i64 s.2.1, .int .i64 s.2.2.1, .int .i64 s.2.2.2] 24)).heap.size := by simp
  have HF := Lib.hid h
  have HBW := Lib.hid hbw
  have HS1 : Hid (InR s.1) := hs.1
  have HLEN : Hid ((ofE L s.1).length ≤ 100000) := Nat.le_trans (List.length_filter_le _ _) hn
  have HEN : Hid ((ents L).length ≤ 1000000 ∧ ∀ k, InR k → (f k).isSome = true → k ∈ ents L) := ⟨by have := ents_len L; omega, fun k hk q => by rw [h.has k hk] at q; simpa using q⟩
  have HBB : Hid (base ≤ w.heap.size ∧ hb < w.heap.size) := ⟨by have := h.le; have := h.mp.lt; omega, h.mp.lt⟩
  clear h hr hbw hL hn hs
  go_enter Try.func22, Try.ntmps22
  go_wp2_with fail
  generalize w.alloc (.cells #[.int .i64 s.1, .int .i64 s.2.1, .int .i64 s.2.2.1, .int .i64 s.2.2.2] 24) = W at *
  obtain ⟨bs, hbs⟩ : ∃ bs, w.heap.size = bs := ⟨_, rfl⟩
  rw [hbs] at g0 g1 g2 g3 hlt ⊢
  have hS : Hid (∀ wz, Below W.heap.size W wz → wz.cell? ⟨bs, 0, none⟩ = some (.int .i64 s.1) ∧ wz.cell? ⟨bs, 1, none⟩ = some (.int .i64 s.2.1) ∧ wz.cell? ⟨bs, 2, none⟩ = some (.int .i64 s.2.2.1) ∧ wz.cell? ⟨bs, 3, none⟩ = some (.int .i64 s.2.2.2)) := fun wz h => ⟨(h.cell (p := ⟨bs, 0, none⟩) hlt).trans g0, (h.cell (p := ⟨bs, 1, none⟩) hlt).trans g1, (h.cell (p := ⟨bs, 2, none⟩) hlt).trans g2, (h.cell (p := ⟨bs, 3, none⟩) hlt).trans g3⟩
  have hST : Hid (∀ wy wz (F : Nat → Prop), Below W.heap.size W wy → Turn F wy wz → ¬ F bs → wz.cell? ⟨bs, 0, none⟩ = some (.int .i64 s.1) ∧ wz.cell? ⟨bs, 1, none⟩ = some (.int .i64 s.2.1) ∧ wz.cell? ⟨bs, 2, none⟩ = some (.int .i64 s.2.2.1) ∧ wz.cell? ⟨bs, 3, none⟩ = some (.int .i64 s.2.2.2)) := fun wy wz F h t hn => by
    obtain ⟨q0, q1, q2, q3⟩ := hS.out wy h
    have hl : bs < wy.heap.size := Nat.lt_of_lt_of_le hlt h.size
    exact ⟨(t.cell (a := ⟨bs, 0, none⟩) hl hn).trans q0, (t.cell (a := ⟨bs, 1, none⟩) hl hn).trans q1, (t.cell (a := ⟨bs, 2, none⟩) hl hn).trans q2, (t.cell (a := ⟨bs, 3, none⟩) hl hn).trans q3⟩
  have HLK : Hid (∀ X, Below W.heap.size W X → (Instr.lookup 54 (.map (some hb)) (.int .i64 s.1) false).run Try.prog X = .ok (.slice a (ofE L s.1).length c) X) := fun X hX => by
    have := ((HF.out.below HBW.out).below hX).mp.look1 kitS HS1.out
    rwa [HV.out] at this
  have HBS : Hid (w.heap.size = bs) := hbs
  have HROW : Hid (∀ X, Below W.heap.size W X → X.ownsRow base 24 4 (.slice a (ofE L s.1).length c) (ofE L s.1).length (row4 (ofE L s.1))) := fun X hX => by
    have := ((HF.out.below HBW.out).below hX).row s.1 HS1.out
    rwa [HV.out] at this
  clear hv hbs hlt
  refine wp_region_held_drew (S := fun wz => wz.cell? ⟨bs, 0, none⟩ = some (.int .i64 s.1) ∧ wz.cell? ⟨bs, 1, none⟩ = some (.int .i64 s.2.1) ∧ wz.cell? ⟨bs, 2, none⟩ = some (.int .i64 s.2.2.1) ∧ wz.cell? ⟨bs, 3, none⟩ = some (.int .i64 s.2.2.2)) (by kernel_rfl) (hS.out _ (Below.refl _ _).drew) (fun hHeld => ?_)
  refine wpAnyH_take (i := 0) (v := ?_) rfl (by kernel_rfl) (by kernel_rfl) (by kernel_rfl) (fun _ _ _ h => h) (Or.inl ⟨by rfl, ?y0⟩) (by assumption) ?_
  case y0 => intro w hSw; (try dsimp only at hSw); go_simp; (try with_reducible rfl)
  (try simp only [Act.put, List.setIfInBounds_toArray, List.set_cons_zero, List.set_cons_succ, List.getElem_toArray, List.getElem_cons_zero, List.getElem_cons_succ])
  refine wpAnyH_take (i := 1) (v := ?_) rfl (by kernel_rfl) (by kernel_rfl) (by kernel_rfl) (fun _ _ _ h => h) (Or.inl ⟨by rfl, ?y1⟩) (by assumption) ?_
  case y1 => intro w hSw; (try dsimp only at hSw); go_simp; (try with_reducible rfl)
  (try simp only [Act.put, List.setIfInBounds_toArray, List.set_cons_zero, List.set_cons_succ, List.getElem_toArray, List.getElem_cons_zero, List.getElem_cons_succ])
  refine wpAnyH_take (i := 2) (v := ?_) rfl (by kernel_rfl) (by kernel_rfl) (by kernel_rfl) (fun _ _ _ h => h) (Or.inl ⟨by rfl, ?y2⟩) (by assumption) ?_
  case y2 => intro w hSw; (try dsimp only at hSw); go_simp; (try with_reducible rfl)
  (try simp only [Act.put, List.setIfInBounds_toArray, List.set_cons_zero, List.set_cons_succ, List.getElem_toArray, List.getElem_cons_zero, List.getElem_cons_succ])
  refine wpAnyH_take (i := 3) (v := ?_) rfl (by kernel_rfl) (by kernel_rfl) (by kernel_rfl) (fun _ _ _ h => h) (Or.inl ⟨by rfl, ?y3⟩) (by assumption) ?_
  case y3 => intro w hSw; (try dsimp only at hSw); go_simp; (try with_reducible rfl)
  (try simp only [Act.put, List.setIfInBounds_toArray, List.set_cons_zero, List.set_cons_succ, List.getElem_toArray, List.getElem_cons_zero, List.getElem_cons_succ])
  refine wpAnyH_take (i := 4) (v := ?_) rfl (by kernel_rfl) (by kernel_rfl) (by kernel_rfl) (fun _ _ _ h => h) (Or.inl ⟨by rfl, ?y4⟩) (by assumption) ?_
  case y4 => intro w hSw; (try dsimp only at hSw); go_simp; (try with_reducible rfl)
  (try simp only [Act.put, List.setIfInBounds_toArray, List.set_cons_zero, List.set_cons_succ, List.getElem_toArray, List.getElem_cons_zero, List.getElem_cons_succ])
  refine wpAnyH_take (i := 5) (v := ?_) rfl (by kernel_rfl) (by kernel_rfl) (by kernel_rfl) (fun _ _ _ h => h) (Or.inl ⟨by rfl, ?y5⟩) (by assumption) ?_
  case y5 => intro w hSw; (try dsimp only at hSw); go_simp; (try with_reducible rfl)
  (try simp only [Act.put, List.setIfInBounds_toArray, List.set_cons_zero, List.set_cons_succ, List.getElem_toArray, List.getElem_cons_zero, List.getElem_cons_succ])
  refine wpAnyH_take (i := 7) (v := ?_) rfl (by kernel_rfl) (by kernel_rfl) (by kernel_rfl) (fun _ _ _ h => h) (Or.inl ⟨by rfl, ?y7⟩) (by assumption) ?_
  case y7 => intro w hSw; (try dsimp only at hSw); go_simp; (try with_reducible rfl)
  (try simp only [Act.put, List.setIfInBounds_toArray, List.set_cons_zero, List.set_cons_succ, List.getElem_toArray, List.getElem_cons_zero, List.getElem_cons_succ])
  refine wpAnyH_ready (rs := [6, 8]) (by kernel_rfl) (by simp) ?_
  refine AllReadyH.cons rfl (fun KK hKK => ?_) (AllReadyH.cons rfl (fun KK hKK => ?_) AllReadyH.nil)
  · skip
    have hlk := HLK.out (W.drew) ((Below.refl _ _).drew)
    go_simp
    clear hlk
    refine hKK.out _ _ (hS.out _ ((Below.refl _ _).drew)) (fun hHeld => ?_)
    clear hKK KK
    (try simp only [Act.put, List.setIfInBounds_toArray, List.set_cons_zero, List.set_cons_succ, List.getElem_toArray, List.getElem_cons_zero, List.getElem_cons_succ])
    refine wpAnyH_ready (rs := [8]) (by kernel_rfl) (by simp) ?_
    refine AllReadyH.cons rfl (fun KK hKK => ?_) AllReadyH.nil
    go_simp
    have HZ : Hid (Below W.heap.size W (W.alloc (.cells #[.int .i64 s.1, .int .i64 s.2.1, .int .i64 s.2.2.1, .int .i64 s.2.2.2] 24)).drew) := (below1 W (.cells #[.int .i64 s.1, .int .i64 s.2.1, .int .i64 s.2.2.1, .int .i64 s.2.2.2] 24)).drew
    have HN : Hid (SlC (W.alloc (.cells #[.int .i64 s.1, .int .i64 s.2.1, .int .i64 s.2.2.1, .int .i64 s.2.2.2] 24)).drew (.slice (some ⟨W.heap.size, 0, none⟩) 1 1) 4 1 (cells4 s)) := (one4 W s).below (Below.refl _ _).drew
    refine hKK.out _ _ (hS.out _ HZ.out) (fun hHeld => ?_)
    clear hKK KK
    (try simp only [Act.put, List.setIfInBounds_toArray, List.set_cons_zero, List.set_cons_succ, List.getElem_toArray, List.getElem_cons_zero, List.getElem_cons_succ])
    generalize (W.alloc (.cells #[.int .i64 s.1, .int .i64 s.2.1, .int .i64 s.2.2.1, .int .i64 s.2.2.2] 24)).drew = Z at *
    refine wpAnyH_ready (rs := [9]) (by kernel_rfl) (by simp) ?_
    refine AllReadyH.cons rfl (fun KK hKK => ?_) AllReadyH.nil
    refine step_pushS rfl (.tmp 10) (.tmp 12) 22 rfl base 24 4 32 (.agg #[.int .i64 0, .int .i64 0, .int .i64 0, .int .i64 0]) Try.underlying22 stake_info rfl (by decide) (.slice a (ofE L s.1).length c) (ofE L s.1).length (row4 (ofE L s.1)) (by simp [Act.eval, Act.put]) (HROW.out Z HZ.out) (.slice (some ⟨W.heap.size, 0, none⟩) 1 1) 1 (cells4 s) (by simp [Act.eval, Act.put]) HN.out (cells4_one s) (by decide) (by have := HLEN.out; omega) (by decide) (Nat.le_trans HBB.out.1 (Nat.le_trans HBW.out.size HZ.out.size)) ?_
    intro v5 w5 ho5 hg5 hl5
    obtain ⟨x5, hx5⟩ : ∃ x5 : SV, v5 = encS x5 := by
      rcases ho5.2 with ⟨e, _⟩ | ⟨g, cap, cur, e, _⟩
      · exact ⟨none, e⟩
      · exact ⟨some (g, (ofE L s.1).length + 1, cap), e⟩
    obtain ⟨a5, c5, hv5⟩ := (ownsRow_slc ho5).form
    have ht5 : Turn (fun j => blkS ((f s.1).getD none) = some j) Z w5 := by
      have t := turn_grown hg5
      rw [← HV.out, blk_enc] at t
      exact t
    have hl5 : blkS x5 = blkS ((f s.1).getD none) ∨ blkS x5 = some Z.heap.size := by
      rw [← HV.out, blk_enc, hx5, blk_enc] at hl5
      exact hl5
    have hnb : ∀ b, blkS ((f s.1).getD none) = some b → b < w.heap.size := fun b q => (World.ownsRow.lt (HF.out.row s.1 HS1.out) b ((blk_enc _).trans q)).2
    have hm5 : MpS w5 hb f := ((HF.out.below HBW.out).below HZ.out).mp.keep (ht5.block hb ((HF.out.below HBW.out).below HZ.out).mp.lt (HF.out.ne s.1 HS1.out))
    obtain ⟨w6, hrun, hm6, hg6⟩ := hm5.store kitS HEN.out.2 HEN.out.1 HS1.out (x := x5) trivial
    have ht6 : Turn (fun j => hb = j) w5 w6 := (turn_grown hg6).mono (fun j q => by cases q; rfl)
    have hS5 := hST.out Z w5 _ HZ.out ht5 (fun q => by have := hnb _ q; have := HBS.out; omega)
    have hS6 : wz6 w6 bs s := by
      obtain ⟨q0, q1, q2, q3⟩ := hS5
      have hl : bs < w5.heap.size := World.block_lt_of_cell? w5 _ q0
      have hn : ¬ hb = bs := fun q => by have := HBB.out.2; have := HBS.out; omega
      exact ⟨(ht6.cell (a := ⟨bs, 0, none⟩) hl hn).trans q0, (ht6.cell (a := ⟨bs, 1, none⟩) hl hn).trans q1, (ht6.cell (a := ⟨bs, 2, none⟩) hl hn).trans q2, (ht6.cell (a := ⟨bs, 3, none⟩) hl hn).trans q3⟩
    have HFIN : Hid (HoR w6 base hb (L ++ [s]) ∧ Below base w w6 ∧ ∀ j, w0.heap.size ≤ j → j < w.heap.size → w6.heap[j]? = w.heap[j]?) := by
      have := HF.out.put HS1.out (HBW.out.trans (HZ.out.mono HBW.out.size)) (x := x5) (by rw [← hx5]; exact ho5) ht5 hl5 hm6 ht6
      refine ⟨⟨_, this.1⟩, this.2, fun j h1 h2 => ?_⟩
      have j1 := Nat.lt_of_lt_of_le h2 HBW.out.size
      have j2 := Nat.lt_of_lt_of_le j1 HZ.out.size
      rw [ht6.block j (Nat.lt_of_lt_of_le j2 ht5.size) (fun q => by have := H00.out.1; omega), ht5.block j j2 (fun q => by have := H00.out.2 j q; omega), HZ.out.block j j1, HBW.out.block j h2]
    have HS6 := Lib.hid hS6
    rw [← hx5, hv5] at hrun
    subst hv5
    clear ho5 hg5 hl5 ht5 hnb hm5 hm6 hg6 ht6 hS6 hx5
    refine hKK.out _ _ (hS5) (fun hHeld => ?_)
    clear hKK KK
    (try simp only [Act.put, List.setIfInBounds_toArray, List.set_cons_zero, List.set_cons_succ, List.getElem_toArray, List.getElem_cons_zero, List.getElem_cons_succ])
    refine wpAnyH_ready (rs := [10]) (by kernel_rfl) (by simp) ?_
    refine AllReadyH.cons rfl (fun KK hKK => ?_) AllReadyH.nil
    go_simp
    clear hrun
    refine hKK.out _ _ (HS6.out) (fun hHeld => ?_)
    clear hKK KK
    (try simp only [Act.put, List.setIfInBounds_toArray, List.set_cons_zero, List.set_cons_succ, List.getElem_toArray, List.getElem_cons_zero, List.getElem_cons_succ])
    refine wpAnyH_done (by kernel_rfl) ?_ _
    go_wp2_with fail
    go_end0
    exact ⟨rfl, HFIN.out⟩
  · skip
    go_simp
    have HZ : Hid (Below W.heap.size W (W.alloc (.cells #[.int .i64 s.1, .int .i64 s.2.1, .int .i64 s.2.2.1, .int .i64 s.2.2.2] 24)).drew) := (below1 W (.cells #[.int .i64 s.1, .int .i64 s.2.1, .int .i64 s.2.2.1, .int .i64 s.2.2.2] 24)).drew
    have HN : Hid (SlC (W.alloc (.cells #[.int .i64 s.1, .int .i64 s.2.1, .int .i64 s.2.2.1, .int .i64 s.2.2.2] 24)).drew (.slice (some ⟨W.heap.size, 0, none⟩) 1 1) 4 1 (cells4 s)) := (one4 W s).below (Below.refl _ _).drew
    refine hKK.out _ _ (hS.out _ HZ.out) (fun hHeld => ?_)
    clear hKK KK
    (try simp only [Act.put, List.setIfInBounds_toArray, List.set_cons_zero, List.set_cons_succ, List.getElem_toArray, List.getElem_cons_zero, List.getElem_cons_succ])
    generalize (W.alloc (.cells #[.int .i64 s.1, .int .i64 s.2.1, .int .i64 s.2.2.1, .int .i64 s.2.2.2] 24)).drew = Z at *
    refine wpAnyH_ready (rs := [6]) (by kernel_rfl) (by simp) ?_
    refine AllReadyH.cons rfl (fun KK hKK => ?_) AllReadyH.nil
    have hlk := HLK.out (Z) (HZ.out)
    go_simp
    clear hlk
    refine hKK.out _ _ (hS.out _ (HZ.out)) (fun hHeld => ?_)
    clear hKK KK
    (try simp only [Act.put, List.setIfInBounds_toArray, List.set_cons_zero, List.set_cons_succ, List.getElem_toArray, List.getElem_cons_zero, List.getElem_cons_succ])
    refine wpAnyH_ready (rs := [9]) (by kernel_rfl) (by simp) ?_
    refine AllReadyH.cons rfl (fun KK hKK => ?_) AllReadyH.nil
    refine step_pushS rfl (.tmp 10) (.tmp 12) 22 rfl base 24 4 32 (.agg #[.int .i64 0, .int .i64 0, .int .i64 0, .int .i64 0]) Try.underlying22 stake_info rfl (by decide) (.slice a (ofE L s.1).length c) (ofE L s.1).length (row4 (ofE L s.1)) (by simp [Act.eval, Act.put]) (HROW.out Z HZ.out) (.slice (some ⟨W.heap.size, 0, none⟩) 1 1) 1 (cells4 s) (by simp [Act.eval, Act.put]) HN.out (cells4_one s) (by decide) (by have := HLEN.out; omega) (by decide) (Nat.le_trans HBB.out.1 (Nat.le_trans HBW.out.size HZ.out.size)) ?_
    intro v5 w5 ho5 hg5 hl5
    obtain ⟨x5, hx5⟩ : ∃ x5 : SV, v5 = encS x5 := by
      rcases ho5.2 with ⟨e, _⟩ | ⟨g, cap, cur, e, _⟩
      · exact ⟨none, e⟩
      · exact ⟨some (g, (ofE L s.1).length + 1, cap), e⟩
    obtain ⟨a5, c5, hv5⟩ := (ownsRow_slc ho5).form
    have ht5 : Turn (fun j => blkS ((f s.1).getD none) = some j) Z w5 := by
      have t := turn_grown hg5
      rw [← HV.out, blk_enc] at t
      exact t
    have hl5 : blkS x5 = blkS ((f s.1).getD none) ∨ blkS x5 = some Z.heap.size := by
      rw [← HV.out, blk_enc, hx5, blk_enc] at hl5
      exact hl5
    have hnb : ∀ b, blkS ((f s.1).getD none) = some b → b < w.heap.size := fun b q => (World.ownsRow.lt (HF.out.row s.1 HS1.out) b ((blk_enc _).trans q)).2
    have hm5 : MpS w5 hb f := ((HF.out.below HBW.out).below HZ.out).mp.keep (ht5.block hb ((HF.out.below HBW.out).below HZ.out).mp.lt (HF.out.ne s.1 HS1.out))
    obtain ⟨w6, hrun, hm6, hg6⟩ := hm5.store kitS HEN.out.2 HEN.out.1 HS1.out (x := x5) trivial
    have ht6 : Turn (fun j => hb = j) w5 w6 := (turn_grown hg6).mono (fun j q => by cases q; rfl)
    have hS5 := hST.out Z w5 _ HZ.out ht5 (fun q => by have := hnb _ q; have := HBS.out; omega)
    have hS6 : wz6 w6 bs s := by
      obtain ⟨q0, q1, q2, q3⟩ := hS5
      have hl : bs < w5.heap.size := World.block_lt_of_cell? w5 _ q0
      have hn : ¬ hb = bs := fun q => by have := HBB.out.2; have := HBS.out; omega
      exact ⟨(ht6.cell (a := ⟨bs, 0, none⟩) hl hn).trans q0, (ht6.cell (a := ⟨bs, 1, none⟩) hl hn).trans q1, (ht6.cell (a := ⟨bs, 2, none⟩) hl hn).trans q2, (ht6.cell (a := ⟨bs, 3, none⟩) hl hn).trans q3⟩
    have HFIN : Hid (HoR w6 base hb (L ++ [s]) ∧ Below base w w6 ∧ ∀ j, w0.heap.size ≤ j → j < w.heap.size → w6.heap[j]? = w.heap[j]?) := by
      have := HF.out.put HS1.out (HBW.out.trans (HZ.out.mono HBW.out.size)) (x := x5) (by rw [← hx5]; exact ho5) ht5 hl5 hm6 ht6
      refine ⟨⟨_, this.1⟩, this.2, fun j h1 h2 => ?_⟩
      have j1 := Nat.lt_of_lt_of_le h2 HBW.out.size
      have j2 := Nat.lt_of_lt_of_le j1 HZ.out.size
      rw [ht6.block j (Nat.lt_of_lt_of_le j2 ht5.size) (fun q => by have := H00.out.1; omega), ht5.block j j2 (fun q => by have := H00.out.2 j q; omega), HZ.out.block j j1, HBW.out.block j h2]
    have HS6 := Lib.hid hS6
    rw [← hx5, hv5] at hrun
    subst hv5
    clear ho5 hg5 hl5 ht5 hnb hm5 hm6 hg6 ht6 hS6 hx5
    refine hKK.out _ _ (hS5) (fun hHeld => ?_)
    clear hKK KK
    (try simp only [Act.put, List.setIfInBounds_toArray, List.set_cons_zero, List.set_cons_succ, List.getElem_toArray, List.getElem_cons_zero, List.getElem_cons_succ])
    refine wpAnyH_ready (rs := [10]) (by kernel_rfl) (by simp) ?_
    refine AllReadyH.cons rfl (fun KK hKK => ?_) AllReadyH.nil
    go_simp
    clear hrun
    refine hKK.out _ _ (HS6.out) (fun hHeld => ?_)
    clear hKK KK
    (try simp only [Act.put, List.setIfInBounds_toArray, List.set_cons_zero, List.set_cons_succ, List.getElem_toArray, List.getElem_cons_zero, List.getElem_cons_succ])
    refine wpAnyH_done (by kernel_rfl) ?_ _
    go_wp2_with fail
    go_end0
    exact ⟨rfl, HFIN.out⟩
end Go.Proofs.Ytjanbaecgldjkaa
