/-
  The landed book's blocks: the book's own (values, lost, the beginnings' slice), the map of values, the row of beginnings, a map for each. What keeps them, what each step turns. No Go function is walked here. No conditions.
-/
import Derived.Test.YtmhfgkkiplencaaUndW
import Derived.Test.YtmhfgkkiplencaaIntB0
namespace Go.Proofs.Ytmhfgkkiplencaa
open Go.RowKit Go.Maps
set_option linter.unusedSimpArgs false
set_option linter.unusedVariables false

/-- What a key had, as the element of a map. -/
def encH (h : Option Int) : Value := .agg #[.int .i64 (h.getD 0), .bool h.isSome]
def datH : Option Int → DataW Unit
  | some z => .lit (.int .i64 z)
  | none => .agg []
def hadE (v : Value) : Option (DataW Unit × List MemPlace) :=
  match v with
  | .agg a => match a.toList with
    | [.int .i64 z, .bool true] => if (Lit.int .i64 z).wf = true then some (datH (some z), []) else none
    | [.int .i64 0, .bool false] => some (datH none, [])
    | _ => none
  | _ => none
def OkH (h : Option Int) : Prop := ∀ z, h = some z → InR z
abbrev datV (z : Int) : DataW Unit := .lit (.int .i64 z)
theorem kitV : VKit Try.prog 3 3 44 (fun z : Int => .int .i64 z) InR (plainElem Try.prog 3) datV 0 where
  int := Try.underlying3
  map := Try.underlying44
  zero w := by kernel_rfl
  okz := by unfold InR; omega
  reads b hb := plainElem_int Try.underlying3 (WalkArith.wf_i64 hb)
  inv v y h := by
    obtain ⟨c, rfl, hc, hw⟩ := plainElem_int_inv Try.underlying3 h
    exact ⟨c, inR_of hw, rfl, by rw [hc]⟩
  inj a b h := by simpa [datV] using h
theorem hadE_inv {v : Value} {y : DataW Unit × List MemPlace} (h : hadE v = some y) : ∃ b, OkH b ∧ v = encH b ∧ y.1 = datH b := by
  unfold hadE at h
  split at h
  · rename_i a
    split at h
    · rename_i z ha
      split at h
      · rename_i hw
        cases h
        refine ⟨some z, fun x hx => by cases hx; exact inR_of hw, ?_, rfl⟩
        show _ = Value.agg #[.int .i64 z, .bool true]
        rw [← ha]
      · cases h
    · rename_i ha
      cases h
      refine ⟨none, fun x hx => (by cases hx), ?_, rfl⟩
      show _ = Value.agg #[.int .i64 0, .bool false]
      rw [← ha]
    · cases h
  · cases h
theorem kitH : VKit Try.prog 3 75 60 encH OkH hadE datH none where
  int := Try.underlying3
  map := Try.underlying60
  zero w := by kernel_rfl
  okz := fun z h => by cases h
  reads b hb := by
    cases b with
    | none => rfl
    | some z => simp [hadE, encH, WalkArith.wf_i64 (hb z rfl)]
  inv v y h := hadE_inv h
  inj a b h := by
    cases a <;> cases b <;> simp_all [datH]
abbrev MpV (w : World) (b : Nat) (f : Int → Option Int) : Prop := MpF Try.prog 3 (plainElem Try.prog 3) datV 0 w b f
abbrev MpH (w : World) (b : Nat) (f : UH) : Prop := MpF Try.prog 3 hadE datH none w b f
/-- The cells of the row of beginnings, the last one that is open last. -/
def cellsB (p : Nat × UH) : List Value := [.map (some p.1), .int .i64 0]
def rowB (lv : List (Nat × UH)) : List Value := lv.reverse.flatMap cellsB
theorem rowB_push (m : Nat) (f : UH) (lv : List (Nat × UH)) : rowB ((m, f) :: lv) = rowB lv ++ [.map (some m), .int .i64 0] := by
  unfold rowB; rw [List.reverse_cons, List.flatMap_append]; rfl
theorem rowB_len : ∀ lv : List (Nat × UH), (rowB lv).length = lv.length * 2
  | [] => rfl
  | (m, f) :: lv => by rw [rowB_push, List.length_append, rowB_len lv]; simp only [List.length_cons, List.length_nil]; omega
theorem rowB_top (m : Nat) (f g : UH) (lv : List (Nat × UH)) : rowB ((m, f) :: lv) = rowB ((m, g) :: lv) := by rw [rowB_push, rowB_push]

/-- A book whose block is B: the values lie in the map mv and are told by g, the beginnings' slice is v, the beginnings are lv (the map of each, and what it tells), the last one first. -/
structure UB (w : World) (B mv : Nat) (v : Value) (lv : List (Nat × UH)) (g : Int → Option Int) : Prop where
  c0 : w.cell? ⟨B, 0, none⟩ = some (.map (some mv))
  c1 : w.cell? ⟨B, 1, none⟩ = some (.int .i64 0)
  c2 : w.cell? ⟨B, 2, none⟩ = some v
  z1 : w.frozen? ⟨B, 1, none⟩ = false
  z2 : w.frozen? ⟨B, 2, none⟩ = false
  row : w.ownsRow 0 62 2 v lv.length (rowB lv)
  vals : MpV w mv g
  maps : ∀ p ∈ lv, MpH w p.1 p.2
  h1 : B ≠ mv
  h2 : v.ownBlock ≠ some B
  h3 : v.ownBlock ≠ some mv
  h4 : ∀ p ∈ lv, p.1 ≠ B ∧ p.1 ≠ mv ∧ v.ownBlock ≠ some p.1
  h5 : (lv.map Prod.fst).Nodup
def UF (B mv : Nat) (v : Value) (lv : List (Nat × UH)) (j : Nat) : Prop := j = B ∨ j = mv ∨ v.ownBlock = some j ∨ j ∈ lv.map Prod.fst
section
variable {w w' : World} {B mv : Nat} {v : Value} {lv : List (Nat × UH)} {g : Int → Option Int}
theorem UB.lt (h : UB w B mv v lv g) : B < w.heap.size := World.block_lt_of_cell? w _ h.c0
theorem UB.foot (h : UB w B mv v lv g) : ∀ j, UF B mv v lv j → j < w.heap.size := by
  rintro j (rfl | rfl | q | q)
  · exact h.lt
  · exact h.vals.lt
  · exact (World.ownsRow.lt h.row j q).2
  · obtain ⟨p, hp, rfl⟩ := List.mem_map.1 q; exact (h.maps p hp).lt
/-- All of it stays while its blocks stay, but for what is told apart. -/
theorem UB.stay {lv' : List (Nat × UH)} {g' : Int → Option Int} (h : UB w B mv v lv g) (hB : w'.heap[B]? = w.heap[B]?) (hv : ∀ k, v.ownBlock = some k → w'.heap[k]? = w.heap[k]?) (hg : MpV w' mv g')
    (hm : ∀ p ∈ lv', MpH w' p.1 p.2) (hl : lv'.map Prod.fst = lv.map Prod.fst) : UB w' B mv v lv' g' := by
  have hc : ∀ i, w'.cell? ⟨B, i, none⟩ = w.cell? ⟨B, i, none⟩ := fun i => by unfold World.cell?; rw [hB]
  have hz : ∀ i, w'.frozen? ⟨B, i, none⟩ = w.frozen? ⟨B, i, none⟩ := fun i => by unfold World.frozen?; rw [hB]
  have hlen : lv'.length = lv.length := by simpa using congrArg List.length hl
  have hrow : rowB lv' = rowB lv := by
    unfold rowB
    have e : ∀ l : List (Nat × UH), l.reverse.flatMap cellsB = (l.map Prod.fst).reverse.flatMap (fun m => [.map (some m), .int .i64 0]) := fun l => by
      rw [← List.map_reverse, List.flatMap_map]; rfl
    rw [e, e, hl]
  refine ⟨(hc 0).trans h.c0, (hc 1).trans h.c1, (hc 2).trans h.c2, (hz 1).trans h.z1, (hz 2).trans h.z2, ?_, hg, hm, h.h1, h.h2, h.h3, fun p hp => ?_, by rw [hl]; exact h.h5⟩
  · rw [hlen, hrow]
    refine ⟨h.row.1, ?_⟩
    rcases h.row.2 with q | ⟨b, cap, cur, rfl, q2, q3, q4⟩
    · exact Or.inl q
    · exact Or.inr ⟨b, cap, cur, rfl, q2, (hv b rfl).trans q3, q4⟩
  · have : p.1 ∈ lv.map Prod.fst := hl ▸ List.mem_map_of_mem hp
    obtain ⟨q, hq, e⟩ := List.mem_map.1 this
    rw [← e]; exact h.h4 q hq
theorem UB.keep (h : UB w B mv v lv g) (hk : ∀ j, UF B mv v lv j → w'.heap[j]? = w.heap[j]?) : UB w' B mv v lv g :=
  h.stay (hk B (Or.inl rfl)) (fun k q => hk k (Or.inr (Or.inr (Or.inl q)))) (h.vals.keep (hk mv (Or.inr (Or.inl rfl)))) (fun p hp => (h.maps p hp).keep (hk _ (Or.inr (Or.inr (Or.inr (List.mem_map_of_mem hp)))))) rfl
theorem UB.below (h : UB w B mv v lv g) (hb : Below w.heap.size w w') : UB w' B mv v lv g := h.keep (fun j q => hb.block j (h.foot j q))
theorem UB.turn {G : Nat → Prop} (h : UB w B mv v lv g) (t : Turn G w w') (hn : ∀ j, UF B mv v lv j → ¬ G j) : UB w' B mv v lv g := h.keep (fun j q => t.block j (h.foot j q) (hn j q))
theorem UB.same {g' : Int → Option Int} (h : UB w B mv v lv g) (e : ∀ k, InR k → g k = g' k) : UB w B mv v lv g' := { h with vals := h.vals.same e }
/-- The map of values alone has turned. -/
theorem UB.val {g' : Int → Option Int} (h : UB w B mv v lv g) (t : Turn (fun j => j = mv) w w') (hg : MpV w' mv g') : UB w' B mv v lv g' :=
  h.stay (t.block B h.lt h.h1) (fun k q => t.block k (World.ownsRow.lt h.row k q).2 (fun e => h.h3 (e ▸ q))) hg (fun p hp => (h.maps p hp).keep (t.block _ (h.maps p hp).lt (h.h4 p hp).2.1)) rfl
/-- The map of the last beginning alone has turned. -/
theorem UB.top {m : Nat} {f f' : UH} (h : UB w B mv v ((m, f) :: lv) g) (t : Turn (fun j => j = m) w w') (hf : MpH w' m f') : UB w' B mv v ((m, f') :: lv) g := by
  have h4 := h.h4 (m, f) List.mem_cons_self
  have h5 : m ∉ lv.map Prod.fst := (List.nodup_cons.1 h.h5).1
  refine h.stay (t.block B h.lt (fun e => h4.1 e.symm)) (fun k q => t.block k (World.ownsRow.lt h.row k q).2 (fun e => h4.2.2 (e ▸ q))) (h.vals.keep (t.block mv h.vals.lt (fun e => h4.2.1 e.symm))) (fun p hp => ?_) rfl
  rcases List.mem_cons.1 hp with rfl | hp
  · exact hf
  · have hp' := List.mem_cons_of_mem (m, f) hp
    exact (h.maps p hp').keep (t.block _ (h.maps p hp').lt (fun e => h5 (e ▸ List.mem_map_of_mem hp)))
theorem UB.form (h : UB w B mv v lv g) : ∃ a cap, v = .slice a lv.length cap := (ownsRow_slc h.row).form
theorem UB.slice (h : UB w B mv v lv g) (h0 : lv ≠ []) : ∃ r cap, v = .slice (some ⟨r, 0, none⟩) lv.length cap := by
  rcases h.row.2 with ⟨_, q⟩ | ⟨r, cap, cur, q, _⟩
  · exact absurd (List.length_eq_zero_iff.1 q) h0
  · exact ⟨r, cap, q⟩
/-- The cells of the last beginning. -/
theorem UB.last {m r cap : Nat} {f : UH} (h : UB w B mv (.slice (some ⟨r, 0, none⟩) (lv.length + 1) cap) ((m, f) :: lv) g) :
    w.cell? ⟨r, lv.length * 2, none⟩ = some (.map (some m)) ∧ w.cell? ⟨r, lv.length * 2 + 1, none⟩ = some (.int .i64 0) := by
  have hl := rowB_len lv
  have hrow := h.row
  rw [rowB_push] at hrow
  refine ⟨(hrow.cellAt _ (by omega)).trans ?_, (hrow.cellAt _ (by omega)).trans ?_⟩
  · rw [← hl, List.getElem?_append_right (Nat.le_refl _)]; simp
  · rw [← hl, List.getElem?_append_right (by omega)]; simp
/-- A new book. -/
theorem UB.made (w : World) (t : TypeId) : UB ((w.alloc (.map #[] 0)).alloc (.cells #[.map (some w.heap.size), .int .i64 0, .slice none 0 0] t)) (w.heap.size + 1) w.heap.size (.slice none 0 0) [] (fun _ => none) := by
  have hs : (w.alloc (.map #[] 0)).heap.size = w.heap.size + 1 := by simp
  have hn := heap_alloc_new (w.alloc (.map #[] 0)) (.cells #[.map (some w.heap.size), .int .i64 0, .slice none 0 0] t)
  rw [hs] at hn
  have ho := heap_alloc_old (w.alloc (.map #[] 0)) (.cells #[.map (some w.heap.size), .int .i64 0, .slice none 0 0] t) (show w.heap.size < _ by rw [hs]; omega)
  refine ⟨?_, ?_, ?_, ?_, ?_, World.ownsRow_nil _ _ _ _, (MpF.made w).keep ho, by simp, by omega, by simp [Value.ownBlock], by simp [Value.ownBlock], by simp, List.nodup_nil⟩
  · unfold World.cell?; rw [hn]; rfl
  · unfold World.cell?; rw [hn]; rfl
  · unfold World.cell?; rw [hn]; rfl
  · unfold World.frozen?; rw [hn]; rfl
  · unfold World.frozen?; rw [hn]; rfl
theorem UB.own (h : UB w B mv v lv g) : OwnO (fun j => j = B ∨ j = mv ∨ j ∈ lv.map Prod.fst) w 0 62 2 v lv.length (rowB lv) :=
  ⟨h.row, fun k q => ⟨(World.ownsRow.lt h.row k q).2, fun r => by
    rcases r with r | r | r
    · exact h.h2 (r ▸ q)
    · exact h.h3 (r ▸ q)
    · obtain ⟨p, hp, rfl⟩ := List.mem_map.1 r; exact (h.h4 p hp).2.2 q⟩⟩
/-- The row of beginnings laid anew, its slice stored: the row's block has turned alone, new ones were laid. -/
theorem UB.relay {lv' : List (Nat × UH)} {v' : Value} (h : UB w B mv v lv g) (t : Turn (fun j => v.ownBlock = some j) w w')
    (O : w'.ownsRow 0 62 2 v' lv'.length (rowB lv')) (l : v'.ownBlock = v.ownBlock ∨ ∃ r, v'.ownBlock = some r ∧ w.heap.size ≤ r ∧ r ∉ lv'.map Prod.fst)
    (hm : ∀ p ∈ lv', MpH w' p.1 p.2 ∧ (p ∈ lv ∨ w.heap.size ≤ p.1)) (h5 : (lv'.map Prod.fst).Nodup) :
    UB (w'.setCell ⟨B, 2, none⟩ v') B mv v' lv' g ∧ Turn (UF B mv v lv) w (w'.setCell ⟨B, 2, none⟩ v') ∧ ∀ j, UF B mv v' lv' j → UF B mv v lv j ∨ w.heap.size ≤ j := by
  have hB : w'.heap[B]? = w.heap[B]? := t.block B h.lt h.h2
  have hc : ∀ i, w'.cell? ⟨B, i, none⟩ = w.cell? ⟨B, i, none⟩ := fun i => by unfold World.cell?; rw [hB]
  have hz : ∀ i, w'.frozen? ⟨B, i, none⟩ = w.frozen? ⟨B, i, none⟩ := fun i => by unfold World.frozen?; rw [hB]
  have hne : ∀ i, i ≠ 2 → (⟨B, 2, none⟩ : Addr) ≠ ⟨B, i, none⟩ := fun i hi q => hi (by cases q; rfl)
  have ts : Turn (fun j => j = B) w' (w'.setCell ⟨B, 2, none⟩ v') := turn_set (F := fun j => j = B) (Turn.refl _ _) (p := ⟨B, 2, none⟩) (Or.inl rfl) v'
  have hvb : ∀ b, v'.ownBlock = some b → b ≠ B ∧ b ≠ mv := fun b q => by
    rcases l with r | ⟨r, hr, hge, _⟩
    · rw [r] at q; exact ⟨fun e => h.h2 (e ▸ q), fun e => h.h3 (e ▸ q)⟩
    · rw [hr] at q; cases q; have := h.lt; have := h.vals.lt; exact ⟨by omega, by omega⟩
  have hpb : ∀ p ∈ lv', p.1 ≠ B ∧ p.1 ≠ mv ∧ v'.ownBlock ≠ some p.1 := fun p hp => by
    rcases (hm p hp).2 with q | q
    · refine ⟨(h.h4 p q).1, (h.h4 p q).2.1, fun e => ?_⟩
      rcases l with r | ⟨r, hr, hge, hni⟩
      · rw [r] at e; exact (h.h4 p q).2.2 e
      · rw [hr] at e; cases e; exact hni (List.mem_map_of_mem hp)
    · refine ⟨by have := h.lt; omega, by have := h.vals.lt; omega, fun e => ?_⟩
      rcases l with r | ⟨r, hr, hge, hni⟩
      · rw [r] at e; have := (World.ownsRow.lt h.row _ e).2; omega
      · rw [hr] at e; cases e; exact hni (List.mem_map_of_mem hp)
  refine ⟨⟨(World.cell?_setCell_other _ _ _ _ (hne 0 (by decide))).trans ((hc 0).trans h.c0), (World.cell?_setCell_other _ _ _ _ (hne 1 (by decide))).trans ((hc 1).trans h.c1), World.cell?_setCell_same _ _ _ ((hc 2).trans h.c2), (World.frozen?_setCell _ _ _ _).trans ((hz 1).trans h.z1), (World.frozen?_setCell _ _ _ _).trans ((hz 2).trans h.z2),
    own_turn O ts (fun k q r => (hvb k q).1 r), ?_, fun p hp => ?_, h.h1, fun q => (hvb B q).1 rfl, fun q => (hvb mv q).2 rfl, hpb, h5⟩, ?_, ?_⟩
  · exact (h.vals.keep (t.block mv h.vals.lt h.h3)).keep (ts.block mv (Nat.lt_of_lt_of_le h.vals.lt t.size) (fun e => h.h1 e.symm))
  · exact (hm p hp).1.keep (ts.block _ (hm p hp).1.lt (hpb p hp).1)
  · exact (t.mono (fun j q => Or.inr (Or.inr (Or.inl q)))).trans ts (fun j q => Or.inl (Or.inl q))
  · rintro j (q | q | q | q)
    · exact Or.inl (Or.inl q)
    · exact Or.inl (Or.inr (Or.inl q))
    · rcases l with r | ⟨r, hr, hge, _⟩
      · exact Or.inl (Or.inr (Or.inr (Or.inl (r ▸ q))))
      · rw [hr] at q; cases q; exact Or.inr hge
    · obtain ⟨p, hp, rfl⟩ := List.mem_map.1 q
      rcases (hm p hp).2 with q | q
      · exact Or.inl (Or.inr (Or.inr (Or.inr (List.mem_map_of_mem q))))
      · exact Or.inr q
/-- The number of keys that are never found is laid anew. -/
theorem UB.lost (h : UB w B mv v lv g) : UB (w.setCell ⟨B, 1, none⟩ (.int .i64 0)) B mv v lv g ∧ Turn (UF B mv v lv) w (w.setCell ⟨B, 1, none⟩ (.int .i64 0)) := by
  have hne : ∀ i, i ≠ 1 → (⟨B, 1, none⟩ : Addr) ≠ ⟨B, i, none⟩ := fun i hi q => hi (by cases q; rfl)
  have ts : Turn (fun j => j = B) w (w.setCell ⟨B, 1, none⟩ (.int .i64 0)) := turn_set (F := fun j => j = B) (Turn.refl _ _) (p := ⟨B, 1, none⟩) (Or.inl rfl) _
  refine ⟨⟨(World.cell?_setCell_other _ _ _ _ (hne 0 (by decide))).trans h.c0, World.cell?_setCell_same _ _ _ h.c1, (World.cell?_setCell_other _ _ _ _ (hne 2 (by decide))).trans h.c2, (World.frozen?_setCell _ _ _ _).trans h.z1, (World.frozen?_setCell _ _ _ _).trans h.z2, own_turn h.row ts (fun k q r => h.h2 (r ▸ q)),
    h.vals.keep (ts.block mv h.vals.lt (fun e => h.h1 e.symm)), fun p hp => (h.maps p hp).keep (ts.block _ (h.maps p hp).lt (h.h4 p hp).1), h.h1, h.h2, h.h3, h.h4, h.h5⟩, ts.mono (fun j q => Or.inl q)⟩
end
end Go.Proofs.Ytmhfgkkiplencaa
