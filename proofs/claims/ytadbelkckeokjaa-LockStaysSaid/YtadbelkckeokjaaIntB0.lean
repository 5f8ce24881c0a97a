/-
  Rows that a call owns, outside an object's blocks, and appends to them. No Go function is walked here.
-/
import Derived.Test.YtadbelkckeokjaaIntG
import Derived.Maps.AppendAt
namespace Go.Proofs.Ytadbelkckeokjaa
open Go.RowKit
set_option linter.unusedSimpArgs false
set_option linter.unusedVariables false

/-- A row that the call owns, outside F. -/
def OwnO (F : Nat → Prop) (w : World) (base : Nat) (e : TypeId) (size : Nat) (v : Value) (n : Nat) (xs : List Value) : Prop := w.ownsRow base e size v n xs ∧ ∀ b, v.ownBlock = some b → Out F w b
theorem OwnO.turn {F F' G : Nat → Prop} {w w' : World} {base : Nat} {e : TypeId} {size n : Nat} {v : Value} {xs : List Value} (h : OwnO F w base e size v n xs) (t : Turn G w w') (hn : ∀ b, v.ownBlock = some b → ¬ G b) (hF : ∀ k, F' k → F k ∨ w.heap.size ≤ k) : OwnO F' w' base e size v n xs :=
  ⟨own_turn h.1 t hn, fun b q => ⟨Nat.lt_of_lt_of_le (h.2 b q).1 t.size, fun r => (hF b r).elim (h.2 b q).2 (fun r => by have := (h.2 b q).1; omega)⟩⟩
theorem OwnO.below {F : Nat → Prop} {w w' : World} {base : Nat} {e : TypeId} {size n : Nat} {v : Value} {xs : List Value} (h : OwnO F w base e size v n xs) (hb : Below w.heap.size w w') : OwnO F w' base e size v n xs :=
  ⟨ownsRow_below h.1 hb, fun b q => (h.2 b q).below hb⟩
theorem OwnO.drewN {F : Nat → Prop} {w : World} {base : Nat} {e : TypeId} {size n : Nat} {v : Value} {xs : List Value} (h : OwnO F w base e size v n xs) (k : Nat) : OwnO F (w.drewN k) base e size v n xs := h.below ⟨rfl, rfl, rfl, Nat.le_refl _, fun _ _ => rfl⟩
theorem OwnO.nil (F : Nat → Prop) (w : World) (base : Nat) (e : TypeId) (size : Nat) : OwnO F w base e size (.slice none 0 0) 0 [] := ⟨World.ownsRow_nil _ _ _ _, fun b q => by (cases q)⟩
theorem turn_grown {w w' : World} {row : Option Nat} (h : w.grownBy w' row) : Turn (fun j => row = some j) w w' := ⟨h.os, h.tape, h.output, h.size, fun k hk hn => h.block k hk (fun q => hn q.symm)⟩

section
variable {P : Program} {w : World}
/-- append, to a row that the call owns outside F, of a slice: at a plain region's list. -/
theorem wpList_push {ops : Array Oper} {rest : List Oper} {o : Oper} {a : Act} {Q : Exit → Act → World → Prop} (hgd : o.guard = none) (s x : Operand) (t : TypeId)
    (ho : o.op = .call { callee := .builtin .append, args := #[s, x], argTypes := #[t, t] })
    (F : Nat → Prop) (base : Nat) (e : TypeId) (size bytes : Nat) (z : Value) (ht : P.underlying t = some (.slice e)) (hi : (P.info? e).map (fun i => (i.zero, i.size, i.bytes)) = some (some z, size, bytes)) (hzs : z.cells.size = size) (hsz : 0 < size)
    (v : Value) (n : Nat) (xs : List Value) (hs : a.eval s = v) (hown : OwnO F w base e size v n xs)
    (y : Value) (m : Nat) (news : List Value) (hx : a.eval x = y) (hr : SlC w y size m news) (h1 : ∀ u ∈ news, u.oneCell' = true) (hm : 0 < m)
    (h63 : n + m ≤ 1000000000) (hby : bytes ≤ 10000) (hbase : base ≤ w.heap.size) (hF : ∀ j, F j → j < w.heap.size)
    (h : ∀ v' w', OwnO F w' base e size v' (n + m) (xs ++ news) → Turn (fun j => v.ownBlock = some j) w w' → (v'.ownBlock = v.ownBlock ∨ v'.ownBlock = some w.heap.size) → wpList P ops Q rest (a.put o.dst v') w') : wpList P ops Q (o :: rest) a w := by
  obtain ⟨i, hi, hz, hsize, hbyt⟩ := info_parts hi
  obtain ⟨A, c, rfl, hc, hc0, hl, hread⟩ := hr
  have hbytes : (n + m) * bytes ≤ 140737488355328 := by
    have := Nat.mul_le_mul h63 hby
    omega
  rcases A with _ | ad
  · have := hc0 rfl; omega
  · refine wpList_append_own_at w hgd s x t ho base e i z size bytes ht hi hz hsize hbyt hzs hsz v n xs hs hown.1 ad m c news hx hl ?_ h1 (by unfold maxLen; omega) hbytes hbase ?_
    · intro j u hj
      have hjl : j < news.length := by
        rcases Nat.lt_or_ge j news.length with q | q
        · exact q
        · rw [List.getElem?_eq_none q] at hj; cases hj
      obtain ⟨b, off, hh, hcell⟩ := hread j hjl
      cases hh
      rw [hj] at hcell
      by_cases h0 : j = 0
      · subst h0; simpa [Addr.add] using hcell
      · simpa [Addr.add, h0] using hcell
    · intro v' w' hown' hgrow _ hloc
      refine h v' w' ⟨hown', fun b q => ⟨(World.ownsRow.lt hown' b q).2, fun r => ?_⟩⟩ (turn_grown hgrow) hloc
      rcases hloc with s | s
      · exact (hown.2 b (s ▸ q)).2 r
      · rw [s] at q; have := hF b r; simp at q; omega
end
section
variable {P : Program} {w : World}
/-- .. of one element, made on the spot. -/
theorem wpList_push1 {ops : Array Oper} {rest : List Oper} {o : Oper} {a : Act} {Q : Exit → Act → World → Prop} (hgd : o.guard = none) (s x : Operand) (t : TypeId)
    (ho : o.op = .call { callee := .builtin .append, args := #[s, x], argTypes := #[t, t] })
    (F : Nat → Prop) (base : Nat) (e : TypeId) (size bytes : Nat) (z : Value) (ht : P.underlying t = some (.slice e)) (hi : (P.info? e).map (fun i => (i.zero, i.size, i.bytes)) = some (some z, size, bytes)) (hzs : z.cells.size = size) (hsz : 0 < size)
    (cs : List Value) (hcs : cs.length = size) (v : Value) (n : Nat) (xs : List Value) (hs : a.eval s = v) (hown : OwnO F w base e size v n xs)
    (hx : a.eval x = .slice (some ⟨w.heap.size, 0, none⟩) 1 1) (h1 : ∀ u ∈ cs, u.oneCell' = true)
    (h63 : n + 1 ≤ 1000000000) (hby : bytes ≤ 10000) (hbase : base ≤ w.heap.size) (hF : ∀ j, F j → j < w.heap.size)
    (h : ∀ v' w', OwnO F w' base e size v' (n + 1) (xs ++ cs) → Turn (fun j => v.ownBlock = some j) w w' → (v'.ownBlock = v.ownBlock ∨ ∃ g, v'.ownBlock = some g ∧ w.heap.size ≤ g) → wpList P ops Q rest (a.put o.dst v') w') : wpList P ops Q (o :: rest) a (w.alloc (.cells cs.toArray e)) := by
  have hb := below1 w (.cells cs.toArray e)
  have hr : SlC (w.alloc (.cells cs.toArray e)) (.slice (some ⟨w.heap.size, 0, none⟩) 1 1) size 1 cs :=
    ownsRow_slc (World.ownsRow_lit (base := w.heap.size) (e := e) (size := size) w cs.toArray 1 (Nat.le_refl _) (by unfold maxLen; omega) (by simpa using hcs))
  refine wpList_push hgd s x t ho F base e size bytes z ht hi hzs hsz v n xs hs (hown.below hb) _ 1 cs hx hr h1 (by omega) h63 hby (Nat.le_trans hbase hb.size) (fun j q => Nat.lt_of_lt_of_le (hF j q) hb.size) ?_
  intro v' w' o' t' l'
  refine h v' w' o' ((Turn.of_below hb).trans t' (fun j q => Or.inl q)) (l'.imp id (fun q => ⟨_, q, hb.size⟩))
end
section
variable {P : Program} {w : World}
/-- .. at a step of a region that draws its order. -/
theorem step_push1 {ops : Array Oper} {o : Oper} {a : Act} {K0 : Act → World → Prop} {Q : Exit → Act → World → Prop} {E : Prop} (hgd : o.guard = none) (s x : Operand) (t : TypeId)
    (ho : o.op = .call { callee := .builtin .append, args := #[s, x], argTypes := #[t, t] })
    (F : Nat → Prop) (base : Nat) (e : TypeId) (size bytes : Nat) (z : Value) (ht : P.underlying t = some (.slice e)) (hi : (P.info? e).map (fun i => (i.zero, i.size, i.bytes)) = some (some z, size, bytes)) (hzs : z.cells.size = size) (hsz : 0 < size)
    (cs : List Value) (hcs : cs.length = size) (v : Value) (n : Nat) (xs : List Value) (hs : a.eval s = v) (hown : OwnO F w base e size v n xs)
    (hx : a.eval x = .slice (some ⟨w.heap.size, 0, none⟩) 1 1) (h1 : ∀ u ∈ cs, u.oneCell' = true)
    (h63 : n + 1 ≤ 1000000000) (hby : bytes ≤ 10000) (hbase : base ≤ w.heap.size) (hF : ∀ j, F j → j < w.heap.size)
    (h : ∀ v' w', OwnO F w' base e size v' (n + 1) (xs ++ cs) → Turn (fun j => v.ownBlock = some j) w w' → (v'.ownBlock = v.ownBlock ∨ ∃ g, v'.ownBlock = some g ∧ w.heap.size ≤ g) → K0 (a.put o.dst v') w') : if Region.wanted o (yielded ops a.tmps) = true then Oper.wp P o a (w.alloc (.cells cs.toArray e)) K0 Q else E := by
  have hw : Region.wanted o (yielded ops a.tmps) = true := by simp [Region.wanted, hgd]
  rw [if_pos hw]
  obtain ⟨i, hi, hz, hsize, hbyt⟩ := info_parts hi
  have hb := below1 w (.cells cs.toArray e)
  have hr : SlC (w.alloc (.cells cs.toArray e)) (.slice (some ⟨w.heap.size, 0, none⟩) 1 1) size 1 cs :=
    ownsRow_slc (World.ownsRow_lit (base := w.heap.size) (e := e) (size := size) w cs.toArray 1 (Nat.le_refl _) (by unfold maxLen; omega) (by simpa using hcs))
  have o1 := hown.below hb
  have hbytes : (n + 1) * bytes ≤ 140737488355328 := by
    have := Nat.mul_le_mul h63 hby
    omega
  obtain ⟨_, _, e1, _, _, hl, hread⟩ := hr
  cases e1
  obtain ⟨v', w', hrun, own', hgrow, _, hloc⟩ := run_append_own_at (P := P) (w.alloc (.cells cs.toArray e)) base t o.type e i z size bytes ht hi hz hsize hbyt hzs hsz v n xs o1.1 ⟨w.heap.size, 0, none⟩ 1 1 cs hl (by
    intro j u hj
    have hjl : j < cs.length := by
      rcases Nat.lt_or_ge j cs.length with q | q
      · exact q
      · rw [List.getElem?_eq_none q] at hj; cases hj
    obtain ⟨b, off, hh, hcell⟩ := hread j hjl
    cases hh
    rw [hj] at hcell
    by_cases h0 : j = 0
    · subst h0; simpa [Addr.add] using hcell
    · simpa [Addr.add, h0] using hcell) h1 (by unfold maxLen; omega) hbytes (Nat.le_trans hbase hb.size)
  unfold Oper.wp
  simp [execOp, ho, resolve, invoke, builtin, hs, hx, hrun, Result.andThen]
  refine h v' w' ⟨own', fun b q => ⟨(World.ownsRow.lt own' b q).2, fun r => ?_⟩⟩ ((Turn.of_below hb).trans (turn_grown hgrow) (fun j q => Or.inl q)) (hloc.imp id (fun q => ⟨_, q, hb.size⟩))
  rcases hloc with s' | s'
  · exact (hown.2 b (s' ▸ q)).2 r
  · rw [s'] at q; have := hF b r; simp at q; omega
end
end Go.Proofs.Ytadbelkckeokjaa
