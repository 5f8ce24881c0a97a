/-
  Slices of whatever elements: what they read as, cell by cell; appends of whole slices, as a law for plain regions and for a step of a region that draws. No Go function is walked here.
-/
import Derived.Test.YtadbelkckeokjaaRow0
import Derived.Deep.RegionLaw
import Derived.Deep.AppendLies
import Derived.OwnWalk
namespace Go.Proofs.Ytadbelkckeokjaa
open Go.RowKit

/-- A slice that starts at a reads as these cells. -/
def ReadsC (w : World) (a : Option Addr) (cs : List Value) : Prop := ∀ j, j < cs.length → ∃ b off, a = some ⟨b, off, none⟩ ∧ w.cell? ⟨b, off + j, none⟩ = cs[j]?
theorem ReadsC.below {w w' : World} {a : Option Addr} {cs : List Value} (h : ReadsC w a cs) (hb : Below w.heap.size w w') : ReadsC w' a cs := fun j hj => by
  obtain ⟨b, off, ha, hc⟩ := h j hj
  rw [List.getElem?_eq_getElem hj] at hc ⊢
  exact ⟨b, off, ha, (hb.cell (World.block_lt_of_cell? w _ hc)).trans hc⟩

/-- The slice v of n elements of so many cells each reads as these cells. -/
def SlC (w : World) (v : Value) (size n : Nat) (cs : List Value) : Prop := ∃ a cap, v = .slice a n cap ∧ n ≤ cap ∧ (a = none → cap = 0) ∧ cs.length = n * size ∧ ReadsC w a cs
theorem SlC.below {w w' : World} {v : Value} {size n : Nat} {cs : List Value} (h : SlC w v size n cs) (hb : Below w.heap.size w w') : SlC w' v size n cs := by
  obtain ⟨a, cap, h1, h2, h3, h4, h5⟩ := h
  exact ⟨a, cap, h1, h2, h3, h4, h5.below hb⟩
theorem SlC.alloc {w : World} {v : Value} {size n : Nat} {cs : List Value} (h : SlC w v size n cs) (o : Obj) : SlC (w.alloc o) v size n cs := h.below ((Below.refl _ _).alloc (Nat.le_refl _) _)
theorem SlC.form {w : World} {v : Value} {size n : Nat} {cs : List Value} (h : SlC w v size n cs) : ∃ a cap, v = .slice a n cap := by
  obtain ⟨a, cap, h1, _⟩ := h; exact ⟨a, cap, h1⟩
theorem SlC.nil (w : World) (size : Nat) : SlC w (.slice none 0 0) size 0 [] := ⟨none, 0, rfl, Nat.le_refl _, fun _ => rfl, by simp, fun j hj => by (cases hj)⟩

/-- What the call owns reads so. -/
theorem ownsRow_slc {w : World} {base : Nat} {e : TypeId} {size n : Nat} {v : Value} {cs : List Value} (h : w.ownsRow base e size v n cs) : SlC w v size n cs := by
  have hl := h.1
  rcases h.2 with ⟨rfl, rfl⟩ | ⟨g, cap, cur, rfl, _, _, hn, _⟩
  · have : cs = [] := List.eq_nil_of_length_eq_zero (by rw [hl, Nat.zero_mul])
    subst this
    exact SlC.nil w size
  · refine ⟨some ⟨g, 0, none⟩, cap, rfl, hn, fun q => by (cases q), hl, fun j hj => ⟨g, 0, rfl, ?_⟩⟩
    rw [Nat.zero_add]
    exact World.ownsRow.cellAt h j (by omega)
theorem ownsRow_below {w w' : World} {base : Nat} {e : TypeId} {size n : Nat} {v : Value} {cs : List Value} (h : w.ownsRow base e size v n cs) (hb : Below w.heap.size w w') : w'.ownsRow base e size v n cs :=
  World.ownsRow.kept (row := none) h ⟨hb.os, hb.tape, hb.output, hb.size, fun k hk _ => hb.block k hk⟩ (by cases hv : v.ownBlock <;> simp)

/-- What lies in another block than the row that has grown reads as it did. -/
theorem SlC.grown {w w' : World} {v : Value} {size n : Nat} {cs : List Value} {row : Option Nat} (h : SlC w v size n cs) (hg : w.grownBy w' row) (hne : ∀ b, v.ownBlock = some b → row ≠ some b) : SlC w' v size n cs := by
  obtain ⟨a, cap, rfl, h2, h3, h4, h5⟩ := h
  refine ⟨a, cap, rfl, h2, h3, h4, fun j hj => ?_⟩
  obtain ⟨b, off, rfl, hc⟩ := h5 j hj
  rw [List.getElem?_eq_getElem hj] at hc ⊢
  exact ⟨b, off, rfl, (hg.cell_far _ (World.block_lt_of_cell? w _ hc) (fun q => hne b rfl q.symm)).trans hc⟩

section
variable {P : Program} {w : World}

/-- append, to what the call owns, of whatever slice: at the operation. -/
theorem wp_app {o : Oper} {a : Act} {K : Act → World → Prop} {Q : Exit → Act → World → Prop} (s x : Operand) (t : TypeId)
    (ho : o.op = .call { callee := .builtin .append, args := #[s, x], argTypes := #[t, t] })
    (base : Nat) (e : TypeId) (size bytes : Nat) (z : Value) (ht : P.underlying t = some (.slice e)) (hi : (P.info? e).map (fun i => (i.zero, i.size, i.bytes)) = some (some z, size, bytes)) (hzs : z.cells.size = size) (hsz : 0 < size)
    (v : Value) (n : Nat) (xs : List Value) (hs : a.eval s = v) (hown : w.ownsRow base e size v n xs)
    (y : Value) (m : Nat) (news : List Value) (hx : a.eval x = y) (hr : SlC w y size m news) (h1 : ∀ u ∈ news, u.oneCell' = true)
    (h63 : n + m ≤ 1000000000) (hby : bytes ≤ 10000) (hbase : base ≤ w.heap.size)
    (h : ∀ v' w', w'.ownsRow base e size v' (n + m) (xs ++ news) → Below base w w' → w.grownBy w' v.ownBlock → K (a.put o.dst v') w') : o.wp P a w K Q := by
  obtain ⟨i, hi, hz, hsize, hbyt⟩ := info_parts hi
  obtain ⟨A, c, rfl, hc, hc0, hl, hread⟩ := hr
  have hbytes : (n + m) * bytes ≤ 140737488355328 := by
    have := Nat.mul_le_mul h63 hby
    omega
  rcases A with _ | ad
  · have hm : m = 0 := by have := hc0 rfl; omega
    subst hm
    have hn : news = [] := List.eq_nil_of_length_eq_zero (by rw [hl, Nat.zero_mul])
    subst hn
    rw [hc0 rfl] at hx
    have hrun := run_append_owned_none (P := P) (w := w) base t o.type e i size ht hi v n xs hown
    unfold Oper.wp
    simp [execOp, ho, resolve, invoke, builtin, hs, hx, hrun, Result.andThen]
    exact h v w (by simpa using hown) (Below.refl _ _) ⟨rfl, rfl, rfl, Nat.le_refl _, fun _ _ _ => rfl⟩
  · refine wp_append_own w s x t ho base e i z size bytes ht hi hz hsize hbyt hzs hsz v n xs hs hown ad m c news hx hl ?_ h1 (by unfold maxLen; omega) hbytes hbase ?_
    · intro j u hj
      have hjl : j < news.length := by
        rcases Nat.lt_or_ge j news.length with q | q
        · exact q
        · rw [List.getElem?_eq_none q] at hj; cases hj
      obtain ⟨b, off, hh, hcell⟩ := hread j hjl
      cases hh
      rw [hj] at hcell
      by_cases h0 : j = 0
      · subst h0; simpa [Addr.add] using hcell
      · simpa [Addr.add, h0] using hcell
    · intro v' w' hown' hgrow _
      exact h v' w' hown' ((Below.refl _ _).grown hgrow hbase (fun k hk => (World.ownsRow.lt hown k hk).1)) hgrow

/-- .. at a plain region's list. -/
theorem wpList_app {ops : Array Oper} {rest : List Oper} {o : Oper} {a : Act} {Q : Exit → Act → World → Prop} (hgd : o.guard = none) (s x : Operand) (t : TypeId)
    (ho : o.op = .call { callee := .builtin .append, args := #[s, x], argTypes := #[t, t] })
    (base : Nat) (e : TypeId) (size bytes : Nat) (z : Value) (ht : P.underlying t = some (.slice e)) (hi : (P.info? e).map (fun i => (i.zero, i.size, i.bytes)) = some (some z, size, bytes)) (hzs : z.cells.size = size) (hsz : 0 < size)
    (v : Value) (n : Nat) (xs : List Value) (hs : a.eval s = v) (hown : w.ownsRow base e size v n xs)
    (y : Value) (m : Nat) (news : List Value) (hx : a.eval x = y) (hr : SlC w y size m news) (h1 : ∀ u ∈ news, u.oneCell' = true)
    (h63 : n + m ≤ 1000000000) (hby : bytes ≤ 10000) (hbase : base ≤ w.heap.size)
    (h : ∀ v' w', w'.ownsRow base e size v' (n + m) (xs ++ news) → Below base w w' → w.grownBy w' v.ownBlock → wpList P ops Q rest (a.put o.dst v') w') : wpList P ops Q (o :: rest) a w :=
  wpList_plain hgd fun _ hK => wp_app s x t ho base e size bytes z ht hi hzs hsz v n xs hs hown y m news hx hr h1 h63 hby hbase fun v' w' h2 h3 h4 => hK _ _ (h v' w' h2 h3 h4)

/-- .. at a step of a region that draws its order. -/
theorem step_app {ops : Array Oper} {o : Oper} {a : Act} {K : Act → World → Prop} {Q : Exit → Act → World → Prop} {E : Prop} (hgd : o.guard = none) (s x : Operand) (t : TypeId)
    (ho : o.op = .call { callee := .builtin .append, args := #[s, x], argTypes := #[t, t] })
    (base : Nat) (e : TypeId) (size bytes : Nat) (z : Value) (ht : P.underlying t = some (.slice e)) (hi : (P.info? e).map (fun i => (i.zero, i.size, i.bytes)) = some (some z, size, bytes)) (hzs : z.cells.size = size) (hsz : 0 < size)
    (v : Value) (n : Nat) (xs : List Value) (hs : a.eval s = v) (hown : w.ownsRow base e size v n xs)
    (y : Value) (m : Nat) (news : List Value) (hx : a.eval x = y) (hr : SlC w y size m news) (h1 : ∀ u ∈ news, u.oneCell' = true)
    (h63 : n + m ≤ 1000000000) (hby : bytes ≤ 10000) (hbase : base ≤ w.heap.size)
    (h : ∀ v' w', w'.ownsRow base e size v' (n + m) (xs ++ news) → Below base w w' → w.grownBy w' v.ownBlock → K (a.put o.dst v') w') :
    if Region.wanted o (yielded ops a.tmps) = true then Oper.wp P o a w K Q else E := by
  have hw : Region.wanted o (yielded ops a.tmps) = true := by simp [Region.wanted, hgd]
  rw [if_pos hw]
  exact wp_app s x t ho base e size bytes z ht hi hzs hsz v n xs hs hown y m news hx hr h1 h63 hby hbase h
end

/-- A row of numbers, cell by cell. -/
def ints (L : List Int) : List Value := L.map (Value.int .i64)
theorem ints_app (L M : List Int) : ints L ++ ints M = ints (L ++ M) := by simp [ints]
theorem ints_len (L : List Int) : (ints L).length = L.length := by simp [ints]
theorem ints_one (L : List Int) : ∀ u ∈ ints L, u.oneCell' = true := one_cell L
theorem Sl.slc {w : World} {v : Value} {L : List Int} (h : Sl w v L) : SlC w v 1 L.length (ints L) := by
  obtain ⟨a, cap, h1, h2, h3, h4⟩ := h
  refine ⟨a, cap, h1, h2, h3, by simp [ints], fun j hj => ?_⟩
  rw [ints_len] at hj
  obtain ⟨b, off, ha, hc⟩ := h4.2 j hj
  refine ⟨b, off, ha, ?_⟩
  rw [hc, getD_lt _ _ hj]
  simp [ints, hj]
theorem SlC.sl {w : World} {v : Value} {L : List Int} {n : Nat} (h : SlC w v 1 n (ints L)) (hL : ∀ z ∈ L, InR z) : Sl w v L := by
  obtain ⟨a, cap, h1, h2, h3, h4, h5⟩ := h
  rw [ints_len, Nat.mul_one] at h4
  subst h4
  refine ⟨a, cap, h1, h2, h3, hL, fun j hj => ?_⟩
  obtain ⟨b, off, ha, hc⟩ := h5 j (by rw [ints_len]; exact hj)
  refine ⟨b, off, ha, ?_⟩
  rw [hc, getD_lt _ _ hj]
  simp [ints, hj]
theorem own_lit (w : World) (base : Nat) (hb : base ≤ w.heap.size) : (w.alloc (.cells #[] 3)).ownsRow base 3 1 (.slice (some ⟨w.heap.size, 0, none⟩) 0 0) 0 (ints []) :=
  World.ownsRow_lit (base := base) (e := 3) (size := 1) w #[] 0 hb (by unfold maxLen; omega) rfl
theorem own_lit1 (w : World) (base : Nat) (hb : base ≤ w.heap.size) (z : Int) : (w.alloc (.cells #[.int .i64 z] 3)).ownsRow base 3 1 (.slice (some ⟨w.heap.size, 0, none⟩) 1 1) 1 (ints [z]) :=
  World.ownsRow_lit (base := base) (e := 3) (size := 1) w #[.int .i64 z] 1 hb (by unfold maxLen; omega) rfl
theorem below1d (w : World) (a : Obj) : Below w.heap.size w (w.alloc a).drew := ((Below.refl _ _).alloc (Nat.le_refl _) _).drew
theorem below2d (w : World) (a b : Obj) : Below w.heap.size w ((w.alloc a).alloc b).drew := (below2 w a b).drew
/-- Two blocks, in either order: an empty row, and a row of one number. -/
theorem lit_a (w : World) : ((w.alloc (.cells #[] 3)).drew).ownsRow w.heap.size 3 1 (.slice (some ⟨w.heap.size, 0, none⟩) 0 0) 0 (ints []) := (own_lit w _ (Nat.le_refl _)).drew
theorem lit_ab (w : World) (n : Int) : (((w.alloc (.cells #[] 3)).alloc (.cells #[.int .i64 n] 3)).drew).ownsRow w.heap.size 3 1 (.slice (some ⟨w.heap.size, 0, none⟩) 0 0) 0 (ints []) := ((own_lit w _ (Nat.le_refl _)).alloc _).drew
theorem lit_ba (w : World) (n : Int) : (((w.alloc (.cells #[.int .i64 n] 3)).alloc (.cells #[] 3)).drew).ownsRow w.heap.size 3 1 (.slice (some ⟨w.heap.size + 1, 0, none⟩) 0 0) 0 (ints []) := by
  have := (own_lit (w.alloc (.cells #[.int .i64 n] 3)) w.heap.size (by simp)).drew
  rwa [show (w.alloc (.cells #[.int .i64 n] 3)).heap.size = w.heap.size + 1 by simp] at this
theorem one_ab (w : World) (n : Int) : SlC ((w.alloc (.cells #[] 3)).alloc (.cells #[.int .i64 n] 3)).drew (.slice (some ⟨w.heap.size + 1, 0, none⟩) 1 1) 1 1 (ints [n]) := by
  have := ownsRow_slc (own_lit1 (w.alloc (.cells #[] 3)) w.heap.size (by simp) n).drew
  rwa [show (w.alloc (.cells #[] 3)).heap.size = w.heap.size + 1 by simp] at this
theorem one_ba (w : World) (n : Int) : SlC ((w.alloc (.cells #[.int .i64 n] 3)).alloc (.cells #[] 3)).drew (.slice (some ⟨w.heap.size, 0, none⟩) 1 1) 1 1 (ints [n]) :=
  ownsRow_slc ((own_lit1 w w.heap.size (Nat.le_refl _) n).alloc _).drew
theorem one_a (w : World) (n : Int) : SlC (w.alloc (.cells #[.int .i64 n] 3)) (.slice (some ⟨w.heap.size, 0, none⟩) 1 1) 1 1 (ints [n]) :=
  ownsRow_slc (own_lit1 w w.heap.size (Nat.le_refl _) n)
/-- A slice's first ones; its rest. -/
theorem SlC.take {w : World} {a : Option Addr} {cap n size k : Nat} {cs : List Value} (h : SlC w (.slice a n cap) size n cs) (hk : k ≤ n) : SlC w (.slice a k cap) size k (cs.take (k * size)) := by
  obtain ⟨a', cap', h1, h2, h3, h4, h5⟩ := h
  injection h1 with e1 e2 e3
  subst e1 e3
  have hks : k * size ≤ n * size := Nat.mul_le_mul_right _ hk
  refine ⟨_, _, rfl, by omega, h3, by rw [List.length_take]; omega, fun j hj => ?_⟩
  rw [List.length_take] at hj
  obtain ⟨b, off, ha, hc⟩ := h5 j (by omega)
  exact ⟨b, off, ha, by rw [hc, List.getElem?_take, if_pos (by omega)]⟩
theorem SlC.drop {w : World} {b off cap n size k : Nat} {cs : List Value} (h : SlC w (.slice (some ⟨b, off, none⟩) n cap) size n cs) (hk : k ≤ n) : SlC w (.slice (some ⟨b, off + k * size, none⟩) (n - k) (cap - k)) size (n - k) (cs.drop (k * size)) := by
  obtain ⟨a', cap', h1, h2, h3, h4, h5⟩ := h
  injection h1 with e1 e2 e3
  subst e1 e3
  have hks : k * size ≤ n * size := Nat.mul_le_mul_right _ hk
  refine ⟨_, _, rfl, by omega, fun q => by (cases q), by rw [List.length_drop, h4, Nat.sub_mul], fun j hj => ?_⟩
  rw [List.length_drop] at hj
  obtain ⟨b', off', ha, hc⟩ := h5 (k * size + j) (by omega)
  cases ha
  exact ⟨b, off + k * size, rfl, by rw [Nat.add_assoc, hc, List.getElem?_drop]⟩
end Go.Proofs.Ytadbelkckeokjaa
