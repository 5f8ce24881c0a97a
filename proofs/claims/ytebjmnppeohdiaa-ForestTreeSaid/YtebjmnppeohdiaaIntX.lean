/-
  Tables in plain words, whatever their keys: what is found, what gets a number, what is cut off; what a table's calls must answer, as one bundle of contracts. No Go function is walked here. Rows that a call owns, outside an object's blocks, and appends to them. No Go function is walked here. Words for InternBack of layer 8: structs of four numbers. No Go function is walked here.
-/
import Derived.Test.YtebjmnppeohdiaaTurnM
import Derived.Maps.AppendAt
namespace Go.Proofs.Ytebjmnppeohdiaa
open Go.RowKit
set_option linter.unusedSimpArgs false
set_option linter.unusedVariables false

/- Tables in plain words, whatever their keys: what is found, what gets a number, what is cut off; what a table's calls must answer, as one bundle of contracts. No Go function is walked here. -/
section
variable {κ : Type} [DecidableEq κ]
def gfnd (K : List κ) (k : κ) : Int := if k ∈ K then (K.idxOf k : Int) else 0
def gidK (K : List κ) (m : Int) (k : κ) : List κ := if k ∈ K then K else if m ≤ (K.length : Int) then K else K ++ [k]
def gidN (K : List κ) (m : Int) (k : κ) : Int := if k ∈ K then (K.idxOf k : Int) else if m ≤ (K.length : Int) then 0 else (K.length : Int)
def gidE (K : List κ) (m : Int) (k : κ) : Int := if k ∈ K then 0 else if m ≤ (K.length : Int) then 3 else 0
def gkey (z : κ) (K : List κ) (i : Int) : κ := if 0 ≤ i ∧ i < (K.length : Int) then K.getD i.toNat z else z
def gin (K : List κ) (i : Int) : Bool := decide (0 ≤ i) && decide (i < (K.length : Int))
def gcut (K : List κ) (n : Int) : List κ := K.take n.toNat
end

/-- What the calls of a table must answer (pf, pk, pc: whether Find, Key and Cut are asked for): Rep w B m K F: in w, at block B, lies a table of at most m keys, whose keys are K, in the blocks of F. -/
structure TabCon (P : Program) (κ : Type) [DecidableEq κ] (enc : κ → Value) (ok : κ → Prop) (zero : κ) (nw ci cf ck cl cc : FuncId) (pf pk pc : Prop) where
  Rep : World → Nat → Int → List κ → (Nat → Prop) → Prop
  foot : ∀ {w B m K F}, Rep w B m K F → ∀ j, F j → j < w.heap.size
  keep : ∀ {w w' B m K F}, Rep w B m K F → w.heap.size ≤ w'.heap.size → (∀ j, F j → w'.heap[j]? = w.heap[j]?) → Rep w' B m K F
  inv : ∀ {w B m K F}, Rep w B m K F → K.Nodup ∧ (K.length : Int) ≤ m ∧ 1 ≤ m ∧ m ≤ 20000 ∧ ∀ k ∈ K, ok k
  new_ok : ∀ (m : Int) (w : World), 1 ≤ m → m ≤ 20000 → Calls P nw #[.int .i64 m] w fun e w' => ∃ B F, e = .returned (.tuple #[.pointer (some ⟨B, 0, none⟩), .int .i64 0]) ∧ Rep w' B m [] F ∧ Below w.heap.size w w' ∧ ∀ j, F j → w.heap.size ≤ j
  new_no : ∀ (m : Int) (w : World), ¬ (1 ≤ m ∧ m ≤ 20000) → Calls P nw #[.int .i64 m] w fun e w' => e = .returned (.tuple #[.pointer none, .int .i64 2]) ∧ Below w.heap.size w w'
  id : ∀ {w B m K F} (k : κ), Rep w B m K F → ok k → Calls P ci #[.pointer (some ⟨B, 0, none⟩), enc k] w fun e w' => e = .returned (.tuple #[.int .i64 (gidN K m k), .int .i64 (gidE K m k)]) ∧ ∃ F', Rep w' B m (gidK K m k) F' ∧ Turn F w w' ∧ ∀ j, F' j → F j ∨ w.heap.size ≤ j
  find : pf → ∀ {w B m K F} (k : κ), Rep w B m K F → ok k → Calls P cf #[.pointer (some ⟨B, 0, none⟩), enc k] w fun e w' => e = .returned (.tuple #[.int .i64 (gfnd K k), .bool (decide (k ∈ K))]) ∧ Below w.heap.size w w'
  key : pk → ∀ {w B m K F} (i : Int), Rep w B m K F → InR i → Calls P ck #[.pointer (some ⟨B, 0, none⟩), .int .i64 i] w fun e w' => e = .returned (.tuple #[enc (gkey zero K i), .bool (gin K i)]) ∧ Below w.heap.size w w'
  len : ∀ {w B m K F}, Rep w B m K F → Calls P cl #[.pointer (some ⟨B, 0, none⟩)] w fun e w' => e = .returned (.int .i64 (K.length : Int)) ∧ Below w.heap.size w w'
  cut : pc → ∀ {w B m K F} (n : Int), Rep w B m K F → InR n → Calls P cc #[.pointer (some ⟨B, 0, none⟩), .int .i64 n] w fun e w' => e = .returned (.tuple #[]) ∧ ∃ F', Rep w' B m (gcut K n) F' ∧ Turn F w w' ∧ ∀ j, F' j → F j ∨ w.heap.size ≤ j

section
variable {P : Program} {κ : Type} [DecidableEq κ] {enc : κ → Value} {ok : κ → Prop} {zero : κ} {nw ci cf ck cl cc : FuncId} {pf pk pc : Prop}
theorem TabCon.below (T : TabCon P κ enc ok zero nw ci cf ck cl cc pf pk pc) {w w' : World} {B : Nat} {m : Int} {K : List κ} {F : Nat → Prop} (h : T.Rep w B m K F) (hb : Below w.heap.size w w') : T.Rep w' B m K F :=
  T.keep h hb.size (fun j hj => hb.block j (T.foot h j hj))
theorem TabCon.turn (T : TabCon P κ enc ok zero nw ci cf ck cl cc pf pk pc) {w w' : World} {B : Nat} {m : Int} {K : List κ} {F G : Nat → Prop} (h : T.Rep w B m K F) (t : Turn G w w') (hd : ∀ j, F j → ¬ G j) : T.Rep w' B m K F :=
  T.keep h t.size (fun j hj => t.block j (T.foot h j hj) (hd j hj))
end
/- Rows that a call owns, outside an object's blocks, and appends to them. No Go function is walked here. -/
/-- A row that the call owns, outside F. -/
def OwnO (F : Nat → Prop) (w : World) (base : Nat) (e : TypeId) (size : Nat) (v : Value) (n : Nat) (xs : List Value) : Prop := w.ownsRow base e size v n xs ∧ ∀ b, v.ownBlock = some b → Out F w b
theorem OwnO.turn {F F' G : Nat → Prop} {w w' : World} {base : Nat} {e : TypeId} {size n : Nat} {v : Value} {xs : List Value} (h : OwnO F w base e size v n xs) (t : Turn G w w') (hn : ∀ b, v.ownBlock = some b → ¬ G b) (hF : ∀ k, F' k → F k ∨ w.heap.size ≤ k) : OwnO F' w' base e size v n xs :=
  ⟨own_turn h.1 t hn, fun b q => ⟨Nat.lt_of_lt_of_le (h.2 b q).1 t.size, fun r => (hF b r).elim (h.2 b q).2 (fun r => by have := (h.2 b q).1; omega)⟩⟩
theorem OwnO.below {F : Nat → Prop} {w w' : World} {base : Nat} {e : TypeId} {size n : Nat} {v : Value} {xs : List Value} (h : OwnO F w base e size v n xs) (hb : Below w.heap.size w w') : OwnO F w' base e size v n xs :=
  ⟨ownsRow_below h.1 hb, fun b q => (h.2 b q).below hb⟩
theorem OwnO.drewN {F : Nat → Prop} {w : World} {base : Nat} {e : TypeId} {size n : Nat} {v : Value} {xs : List Value} (h : OwnO F w base e size v n xs) (k : Nat) : OwnO F (w.drewN k) base e size v n xs := h.below ⟨rfl, rfl, rfl, Nat.le_refl _, fun _ _ => rfl⟩
theorem OwnO.nil (F : Nat → Prop) (w : World) (base : Nat) (e : TypeId) (size : Nat) : OwnO F w base e size (.slice none 0 0) 0 [] := ⟨World.ownsRow_nil _ _ _ _, fun b q => by (cases q)⟩
theorem turn_grown {w w' : World} {row : Option Nat} (h : w.grownBy w' row) : Turn (fun j => row = some j) w w' := ⟨h.os, h.tape, h.output, h.size, fun k hk hn => h.block k hk (fun q => hn q.symm)⟩

section
variable {P : Program} {w : World}
/-- append, to a row that the call owns outside F, of a slice: at a plain region's list. -/
theorem wpList_push {ops : Array Oper} {rest : List Oper} {o : Oper} {a : Act} {Q : Exit → Act → World → Prop} (hgd : o.guard = none) (s x : Operand) (t : TypeId)
    (ho : o.op = .call { callee := .builtin .append, args := #[s, x], argTypes := #[t, t] })
    (F : Nat → Prop) (base : Nat) (e : TypeId) (size bytes : Nat) (z : Value) (ht : P.underlying t = some (.slice e)) (hi : (P.info? e).map (fun i => (i.zero, i.size, i.bytes)) = some (some z, size, bytes)) (hzs : z.cells.size = size) (hsz : 0 < size)
    (v : Value) (n : Nat) (xs : List Value) (hs : a.eval s = v) (hown : OwnO F w base e size v n xs)
    (y : Value) (m : Nat) (news : List Value) (hx : a.eval x = y) (hr : SlC w y size m news) (h1 : ∀ u ∈ news, u.oneCell' = true) (hm : 0 < m)
    (h63 : n + m ≤ 1000000000) (hby : bytes ≤ 10000) (hbase : base ≤ w.heap.size) (hF : ∀ j, F j → j < w.heap.size)
    (h : ∀ v' w', OwnO F w' base e size v' (n + m) (xs ++ news) → Turn (fun j => v.ownBlock = some j) w w' → (v'.ownBlock = v.ownBlock ∨ v'.ownBlock = some w.heap.size) → wpList P ops Q rest (a.put o.dst v') w') : wpList P ops Q (o :: rest) a w := by
  obtain ⟨i, hi, hz, hsize, hbyt⟩ := info_parts hi
  obtain ⟨A, c, rfl, hc, hc0, hl, hread⟩ := hr
  have hbytes : (n + m) * bytes ≤ 140737488355328 := by
    have := Nat.mul_le_mul h63 hby
    omega
  rcases A with _ | ad
  · have := hc0 rfl; omega
  · refine wpList_append_own_at w hgd s x t ho base e i z size bytes ht hi hz hsize hbyt hzs hsz v n xs hs hown.1 ad m c news hx hl ?_ h1 (by unfold maxLen; omega) hbytes hbase ?_
    · intro j u hj
      have hjl : j < news.length := by
        rcases Nat.lt_or_ge j news.length with q | q
        · exact q
        · rw [List.getElem?_eq_none q] at hj; cases hj
      obtain ⟨b, off, hh, hcell⟩ := hread j hjl
      cases hh
      rw [hj] at hcell
      by_cases h0 : j = 0
      · subst h0; simpa [Addr.add] using hcell
      · simpa [Addr.add, h0] using hcell
    · intro v' w' hown' hgrow _ hloc
      refine h v' w' ⟨hown', fun b q => ⟨(World.ownsRow.lt hown' b q).2, fun r => ?_⟩⟩ (turn_grown hgrow) hloc
      rcases hloc with s | s
      · exact (hown.2 b (s ▸ q)).2 r
      · rw [s] at q; have := hF b r; simp at q; omega
end
section
variable {P : Program} {w : World}
/-- .. of one element, made on the spot. -/
theorem wpList_push1 {ops : Array Oper} {rest : List Oper} {o : Oper} {a : Act} {Q : Exit → Act → World → Prop} (hgd : o.guard = none) (s x : Operand) (t : TypeId)
    (ho : o.op = .call { callee := .builtin .append, args := #[s, x], argTypes := #[t, t] })
    (F : Nat → Prop) (base : Nat) (e : TypeId) (size bytes : Nat) (z : Value) (ht : P.underlying t = some (.slice e)) (hi : (P.info? e).map (fun i => (i.zero, i.size, i.bytes)) = some (some z, size, bytes)) (hzs : z.cells.size = size) (hsz : 0 < size)
    (cs : List Value) (hcs : cs.length = size) (v : Value) (n : Nat) (xs : List Value) (hs : a.eval s = v) (hown : OwnO F w base e size v n xs)
    (hx : a.eval x = .slice (some ⟨w.heap.size, 0, none⟩) 1 1) (h1 : ∀ u ∈ cs, u.oneCell' = true)
    (h63 : n + 1 ≤ 1000000000) (hby : bytes ≤ 10000) (hbase : base ≤ w.heap.size) (hF : ∀ j, F j → j < w.heap.size)
    (h : ∀ v' w', OwnO F w' base e size v' (n + 1) (xs ++ cs) → Turn (fun j => v.ownBlock = some j) w w' → (v'.ownBlock = v.ownBlock ∨ ∃ g, v'.ownBlock = some g ∧ w.heap.size ≤ g) → wpList P ops Q rest (a.put o.dst v') w') : wpList P ops Q (o :: rest) a (w.alloc (.cells cs.toArray e)) := by
  have hb := below1 w (.cells cs.toArray e)
  have hr : SlC (w.alloc (.cells cs.toArray e)) (.slice (some ⟨w.heap.size, 0, none⟩) 1 1) size 1 cs :=
    ownsRow_slc (World.ownsRow_lit (base := w.heap.size) (e := e) (size := size) w cs.toArray 1 (Nat.le_refl _) (by unfold maxLen; omega) (by simpa using hcs))
  refine wpList_push hgd s x t ho F base e size bytes z ht hi hzs hsz v n xs hs (hown.below hb) _ 1 cs hx hr h1 (by omega) h63 hby (Nat.le_trans hbase hb.size) (fun j q => Nat.lt_of_lt_of_le (hF j q) hb.size) ?_
  intro v' w' o' t' l'
  refine h v' w' o' ((Turn.of_below hb).trans t' (fun j q => Or.inl q)) (l'.imp id (fun q => ⟨_, q, hb.size⟩))
end
section
variable {P : Program} {w : World}
/-- .. at a step of a region that draws its order. -/
theorem step_push1 {ops : Array Oper} {o : Oper} {a : Act} {K0 : Act → World → Prop} {Q : Exit → Act → World → Prop} {E : Prop} (hgd : o.guard = none) (s x : Operand) (t : TypeId)
    (ho : o.op = .call { callee := .builtin .append, args := #[s, x], argTypes := #[t, t] })
    (F : Nat → Prop) (base : Nat) (e : TypeId) (size bytes : Nat) (z : Value) (ht : P.underlying t = some (.slice e)) (hi : (P.info? e).map (fun i => (i.zero, i.size, i.bytes)) = some (some z, size, bytes)) (hzs : z.cells.size = size) (hsz : 0 < size)
    (cs : List Value) (hcs : cs.length = size) (v : Value) (n : Nat) (xs : List Value) (hs : a.eval s = v) (hown : OwnO F w base e size v n xs)
    (hx : a.eval x = .slice (some ⟨w.heap.size, 0, none⟩) 1 1) (h1 : ∀ u ∈ cs, u.oneCell' = true)
    (h63 : n + 1 ≤ 1000000000) (hby : bytes ≤ 10000) (hbase : base ≤ w.heap.size) (hF : ∀ j, F j → j < w.heap.size)
    (h : ∀ v' w', OwnO F w' base e size v' (n + 1) (xs ++ cs) → Turn (fun j => v.ownBlock = some j) w w' → (v'.ownBlock = v.ownBlock ∨ ∃ g, v'.ownBlock = some g ∧ w.heap.size ≤ g) → K0 (a.put o.dst v') w') : if Region.wanted o (yielded ops a.tmps) = true then Oper.wp P o a (w.alloc (.cells cs.toArray e)) K0 Q else E := by
  have hw : Region.wanted o (yielded ops a.tmps) = true := by simp [Region.wanted, hgd]
  rw [if_pos hw]
  obtain ⟨i, hi, hz, hsize, hbyt⟩ := info_parts hi
  have hb := below1 w (.cells cs.toArray e)
  have hr : SlC (w.alloc (.cells cs.toArray e)) (.slice (some ⟨w.heap.size, 0, none⟩) 1 1) size 1 cs :=
    ownsRow_slc (World.ownsRow_lit (base := w.heap.size) (e := e) (size := size) w cs.toArray 1 (Nat.le_refl _) (by unfold maxLen; omega) (by simpa using hcs))
  have o1 := hown.below hb
  have hbytes : (n + 1) * bytes ≤ 140737488355328 := by
    have := Nat.mul_le_mul h63 hby
    omega
  obtain ⟨_, _, e1, _, _, hl, hread⟩ := hr
  cases e1
  obtain ⟨v', w', hrun, own', hgrow, _, hloc⟩ := run_append_own_at (P := P) (w.alloc (.cells cs.toArray e)) base t o.type e i z size bytes ht hi hz hsize hbyt hzs hsz v n xs o1.1 ⟨w.heap.size, 0, none⟩ 1 1 cs hl (by
    intro j u hj
    have hjl : j < cs.length := by
      rcases Nat.lt_or_ge j cs.length with q | q
      · exact q
      · rw [List.getElem?_eq_none q] at hj; cases hj
    obtain ⟨b, off, hh, hcell⟩ := hread j hjl
    cases hh
    rw [hj] at hcell
    by_cases h0 : j = 0
    · subst h0; simpa [Addr.add] using hcell
    · simpa [Addr.add, h0] using hcell) h1 (by unfold maxLen; omega) hbytes (Nat.le_trans hbase hb.size)
  unfold Oper.wp
  simp [execOp, ho, resolve, invoke, builtin, hs, hx, hrun, Result.andThen]
  refine h v' w' ⟨own', fun b q => ⟨(World.ownsRow.lt own' b q).2, fun r => ?_⟩⟩ ((Turn.of_below hb).trans (turn_grown hgrow) (fun j q => Or.inl q)) (hloc.imp id (fun q => ⟨_, q, hb.size⟩))
  rcases hloc with s' | s'
  · exact (hown.2 b (s' ▸ q)).2 r
  · rw [s'] at q; have := hF b r; simp at q; omega
end
/- Words for InternBack of layer 8: structs of four numbers. No Go function is walked here. -/
abbrev K4 := Int × Int × Int × Int
def cells4 (s : K4) : List Value := [.int .i64 s.1, .int .i64 s.2.1, .int .i64 s.2.2.1, .int .i64 s.2.2.2]
def enc4 (s : K4) : Value := .agg #[.int .i64 s.1, .int .i64 s.2.1, .int .i64 s.2.2.1, .int .i64 s.2.2.2]
def ok4 (s : K4) : Prop := InR s.1 ∧ InR s.2.1 ∧ InR s.2.2.1 ∧ InR s.2.2.2
def row4 (P : List K4) : List Value := P.flatMap cells4
theorem row4_len (P : List K4) : (row4 P).length = P.length * 4 := by
  induction P with
  | nil => rfl
  | cons a P ih => simp only [row4, List.flatMap_cons, List.length_append, List.length_cons] at ih ⊢; rw [ih]; simp [cells4]; omega
theorem row4_app (P : List K4) (s : K4) : row4 P ++ cells4 s = row4 (P ++ [s]) := by simp [row4]
theorem row4_one (P : List K4) : ∀ u ∈ row4 P, u.oneCell' = true := by
  intro u hu
  obtain ⟨s, _, h⟩ := List.mem_flatMap.1 hu
  simp [cells4] at h
  rcases h with rfl | rfl | rfl | rfl <;> rfl
theorem cells4_one (s : K4) : ∀ u ∈ cells4 s, u.oneCell' = true := by
  intro u h
  simp [cells4] at h
  rcases h with rfl | rfl | rfl | rfl <;> rfl
theorem row4_at : ∀ (P : List K4) (i j : Nat), i < P.length → j < 4 → (row4 P)[i * 4 + j]? = (cells4 (P.getD i (0, 0, 0, 0)))[j]?
  | [], i, j, h, _ => by cases h
  | a :: P, 0, j, _, hj => by
    show (cells4 a ++ row4 P)[0 * 4 + j]? = _
    rw [List.getElem?_append_left (by simp [cells4]; omega)]; simp
  | a :: P, i + 1, j, h, hj => by
    show (cells4 a ++ row4 P)[(i + 1) * 4 + j]? = _
    rw [List.getElem?_append_right (by simp [cells4]; omega)]
    have := row4_at P i j (by simpa using h) hj
    simp only [List.getD_cons_succ]
    rw [← this]
    congr 1
    simp [cells4]; omega
theorem eq_stake (a b c d a' b' c' d' : Int) (w : World) : (Op.equalIn 10000 75 (.agg #[.int .i64 a, .int .i64 b, .int .i64 c, .int .i64 d]) (.agg #[.int .i64 a', .int .i64 b', .int .i64 c', .int .i64 d'])).run Try.prog w = .ok (a == a' && (b == b' && (c == c' && d == d'))) w := by
  simp [go_sem]
  by_cases h1 : a = a' <;> by_cases h2 : b = b' <;> by_cases h3 : c = c' <;> by_cases h4 : d = d' <;> simp [h1, h2, h3, h4]

/-- A new block of four cells, and what is laid behind it. -/
theorem new4 {w w' : World} {s : K4} (h : Below (w.alloc (.cells #[.int .i64 s.1, .int .i64 s.2.1, .int .i64 s.2.2.1, .int .i64 s.2.2.2] 75)).heap.size (w.alloc (.cells #[.int .i64 s.1, .int .i64 s.2.1, .int .i64 s.2.2.1, .int .i64 s.2.2.2] 75)) w') :
    w'.cell? ⟨w.heap.size, 0, none⟩ = some (.int .i64 s.1) ∧ w'.cell? ⟨w.heap.size, 1, none⟩ = some (.int .i64 s.2.1) ∧ w'.cell? ⟨w.heap.size, 2, none⟩ = some (.int .i64 s.2.2.1) ∧ w'.cell? ⟨w.heap.size, 3, none⟩ = some (.int .i64 s.2.2.2) := by
  have hs : w.heap.size < (w.alloc (.cells #[.int .i64 s.1, .int .i64 s.2.1, .int .i64 s.2.2.1, .int .i64 s.2.2.2] 75)).heap.size := by simp
  have hn := heap_alloc_new w (.cells #[.int .i64 s.1, .int .i64 s.2.1, .int .i64 s.2.2.1, .int .i64 s.2.2.2] 75)
  refine ⟨(h.cell (p := ⟨w.heap.size, 0, none⟩) hs).trans ?_, (h.cell (p := ⟨w.heap.size, 1, none⟩) hs).trans ?_, (h.cell (p := ⟨w.heap.size, 2, none⟩) hs).trans ?_, (h.cell (p := ⟨w.heap.size, 3, none⟩) hs).trans ?_⟩ <;> · unfold World.cell?; rw [hn]; rfl
theorem stake_info : (Try.prog.info? 75).map (fun i => (i.zero, i.size, i.bytes)) = some (some (.agg #[.int .i64 0, .int .i64 0, .int .i64 0, .int .i64 0]), 4, 32) := by kernel_rfl
theorem one4 (w : World) (s : K4) : SlC (w.alloc (.cells #[.int .i64 s.1, .int .i64 s.2.1, .int .i64 s.2.2.1, .int .i64 s.2.2.2] 75)) (.slice (some ⟨w.heap.size, 0, none⟩) 1 1) 4 1 (cells4 s) :=
  ownsRow_slc (World.ownsRow_lit (base := w.heap.size) (e := 75) (size := 4) w #[.int .i64 s.1, .int .i64 s.2.1, .int .i64 s.2.2.1, .int .i64 s.2.2.2] 1 (Nat.le_refl _) (by unfold maxLen; omega) rfl)
end Go.Proofs.Ytebjmnppeohdiaa
