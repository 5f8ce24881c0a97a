/-
  Rates as they lie: a struct of six numbers in six cells, blocks of one, rows that are owned by a call, rows as they read. No Go function is walked here. No conditions.
-/
import Derived.Test.YtogckefmmjbapaaRtM
import Derived.Test.YtogckefmmjbapaaIntB0
import Derived.Test.YtogckefmmjbapaaTurnM
namespace Go.Proofs.Ytogckefmmjbapaa
open Go.RowKit
set_option linter.unusedSimpArgs false
set_option linter.unusedVariables false

/-- A rate, cell by cell; as a value; as a block. -/
def cellsR (s : RtT) : List Value := [.int .i64 s.1, .int .i64 s.2.1, .int .i64 s.2.2.1, .int .i64 s.2.2.2.1, .int .i64 s.2.2.2.2.1, .int .i64 s.2.2.2.2.2]
abbrev encR (s : RtT) : Value := .agg #[.int .i64 s.1, .int .i64 s.2.1, .int .i64 s.2.2.1, .int .i64 s.2.2.2.1, .int .i64 s.2.2.2.2.1, .int .i64 s.2.2.2.2.2]
abbrev objR (s : RtT) : Obj := .cells #[.int .i64 s.1, .int .i64 s.2.1, .int .i64 s.2.2.1, .int .i64 s.2.2.2.1, .int .i64 s.2.2.2.2.1, .int .i64 s.2.2.2.2.2] 26
def rowR (P : List RtT) : List Value := P.flatMap cellsR
theorem rowR_len (P : List RtT) : (rowR P).length = P.length * 6 := by
  induction P with
  | nil => rfl
  | cons a P ih => simp only [rowR, List.flatMap_cons, List.length_append, List.length_cons] at ih ⊢; rw [ih]; simp [cellsR]; omega
theorem rowR_app (P : List RtT) (s : RtT) : rowR P ++ cellsR s = rowR (P ++ [s]) := by simp [rowR]
theorem cellsR_one (s : RtT) : ∀ u ∈ cellsR s, u.oneCell' = true := by
  intro u h
  simp [cellsR] at h
  rcases h with rfl | rfl | rfl | rfl | rfl | rfl <;> rfl
theorem rowR_one (P : List RtT) : ∀ u ∈ rowR P, u.oneCell' = true := by
  intro u hu
  obtain ⟨s, _, h⟩ := List.mem_flatMap.1 hu
  exact cellsR_one s u h
theorem rowR_at : ∀ (P : List RtT) (i j : Nat), i < P.length → j < 6 → (rowR P)[i * 6 + j]? = (cellsR (P.getD i zR))[j]?
  | [], i, j, h, _ => by cases h
  | a :: P, 0, j, _, hj => by
    show (cellsR a ++ rowR P)[0 * 6 + j]? = _
    rw [List.getElem?_append_left (by simp [cellsR]; omega)]; simp
  | a :: P, i + 1, j, h, hj => by
    show (cellsR a ++ rowR P)[(i + 1) * 6 + j]? = _
    rw [List.getElem?_append_right (by simp [cellsR]; omega)]
    have := rowR_at P i j (by simpa using h) hj
    simp only [List.getD_cons_succ]
    rw [← this]
    congr 1
    simp [cellsR]; omega
theorem eq_rate (s s' : RtT) (w : World) : (Op.equalIn 10000 26 (.agg #[.int .i64 s.1, .int .i64 s.2.1, .int .i64 s.2.2.1, .int .i64 s.2.2.2.1, .int .i64 s.2.2.2.2.1, .int .i64 s.2.2.2.2.2]) (.agg #[.int .i64 s'.1, .int .i64 s'.2.1, .int .i64 s'.2.2.1, .int .i64 s'.2.2.2.1, .int .i64 s'.2.2.2.2.1, .int .i64 s'.2.2.2.2.2])).run Try.prog w = .ok (decide (s = s')) w := by
  obtain ⟨a, b, c, d, e, f⟩ := s
  obtain ⟨a', b', c', d', e', f'⟩ := s'
  simp [go_sem]
  by_cases h1 : a = a' <;> by_cases h2 : b = b' <;> by_cases h3 : c = c' <;> by_cases h4 : d = d' <;> by_cases h5 : e = e' <;> by_cases h6 : f = f' <;> simp [h1, h2, h3, h4, h5, h6]
theorem rate_info : (Try.prog.info? 26).map (fun i => (i.zero, i.size, i.bytes)) = some (some (.agg #[.int .i64 0, .int .i64 0, .int .i64 0, .int .i64 0, .int .i64 0, .int .i64 0]), 6, 48) := by kernel_rfl

/-- Six cells that are there and may be written. -/
structure OwF (w : World) (B : Nat) (f : Nat → Value) : Prop where
  c : ∀ i, i < 6 → w.cell? ⟨B, i, none⟩ = some (f i)
  z : ∀ i, i < 6 → w.frozen? ⟨B, i, none⟩ = false
  lt : B < w.heap.size
theorem OwF.eq {w : World} {B : Nat} {f g : Nat → Value} (h : OwF w B f) (e : ∀ i, i < 6 → g i = f i) : OwF w B g := ⟨fun i hi => by rw [e i hi]; exact h.c i hi, h.z, h.lt⟩
theorem OwF.turn {F : Nat → Prop} {w w' : World} {B : Nat} {f : Nat → Value} (h : OwF w B f) (t : Turn F w w') (hn : ¬ F B) : OwF w' B f :=
  ⟨fun i hi => (t.cell (a := ⟨B, i, none⟩) h.lt hn).trans (h.c i hi), fun i hi => (t.frozen (a := ⟨B, i, none⟩) h.lt hn).trans (h.z i hi), Nat.lt_of_lt_of_le h.lt t.size⟩
theorem OwF.below {w w' : World} {B : Nat} {f : Nat → Value} (h : OwF w B f) (hb : Below w.heap.size w w') : OwF w' B f := h.turn (Turn.of_below (F := fun _ => False) hb) (fun q => q)
theorem OwF.set {w : World} {B : Nat} {f : Nat → Value} (h : OwF w B f) {k : Nat} (hk : k < 6) (v : Value) : OwF (w.setCell ⟨B, k, none⟩ v) B (fun j => if j = k then v else f j) := by
  refine ⟨fun i hi => ?_, fun i hi => by simpa [World.frozen?_setCell] using h.z i hi, by simpa [World.setCell] using h.lt⟩
  by_cases q : i = k
  · subst q
    rw [if_pos rfl]; exact World.cell?_setCell_same _ _ _ (h.c i hi)
  · rw [if_neg q]
    exact (World.cell?_setCell_other _ _ _ _ (fun e => q (by cases e; rfl))).trans (h.c i hi)
def vR (r : RtT) : Nat → Value
  | 0 => .int .i64 r.1
  | 1 => .int .i64 r.2.1
  | 2 => .int .i64 r.2.2.1
  | 3 => .int .i64 r.2.2.2.1
  | 4 => .int .i64 r.2.2.2.2.1
  | _ => .int .i64 r.2.2.2.2.2
/-- A block of a rate that is there and may be written. -/
def Ow6 (w : World) (B : Nat) (r : RtT) : Prop := OwF w B (vR r)
theorem six_case {P : Nat → Prop} (h0 : P 0) (h1 : P 1) (h2 : P 2) (h3 : P 3) (h4 : P 4) (h5 : P 5) : ∀ i, i < 6 → P i := by
  intro i hi
  rcases (by omega : i = 0 ∨ i = 1 ∨ i = 2 ∨ i = 3 ∨ i = 4 ∨ i = 5) with rfl | rfl | rfl | rfl | rfl | rfl <;> assumption
theorem Ow6.new (w : World) (r : RtT) : Ow6 (w.alloc (objR r)) w.heap.size r := by
  have hn := heap_alloc_new w (objR r)
  refine ⟨six_case ?_ ?_ ?_ ?_ ?_ ?_, six_case ?_ ?_ ?_ ?_ ?_ ?_, by simp⟩ <;> first | (unfold World.cell?; rw [hn]; rfl) | (unfold World.frozen?; rw [hn]; rfl)
theorem Ow6.turn {F : Nat → Prop} {w w' : World} {B : Nat} {r : RtT} (h : Ow6 w B r) (t : Turn F w w') (hn : ¬ F B) : Ow6 w' B r := OwF.turn h t hn
theorem Ow6.below {w w' : World} {B : Nat} {r : RtT} (h : Ow6 w B r) (hb : Below w.heap.size w w') : Ow6 w' B r := OwF.below h hb
theorem Ow6.alloc {w : World} {B : Nat} {r : RtT} (h : Ow6 w B r) (o : Obj) : Ow6 (w.alloc o) B r := h.below (below1 _ _)
theorem Ow6.drew {w : World} {B : Nat} {r : RtT} (h : Ow6 w B r) : Ow6 w.drew B r := h.below (Below.refl _ _).drew
theorem Ow6.lt' {w : World} {B : Nat} {r : RtT} (h : Ow6 w B r) : B < w.heap.size := h.lt
theorem Ow6.letters {w : World} {B : Nat} {a b c d n m : Int} (h : Ow6 w B (a, b, c, d, n, m)) : w.cell? ⟨B, 0, none⟩ = some (.int .i64 a) ∧ w.cell? ⟨B, 1, none⟩ = some (.int .i64 b) ∧ w.cell? ⟨B, 2, none⟩ = some (.int .i64 c) ∧ w.cell? ⟨B, 3, none⟩ = some (.int .i64 d) ∧ w.cell? ⟨B, 4, none⟩ = some (.int .i64 n) ∧ w.cell? ⟨B, 5, none⟩ = some (.int .i64 m) := ⟨h.c 0 (by omega), h.c 1 (by omega), h.c 2 (by omega), h.c 3 (by omega), h.c 4 (by omega), h.c 5 (by omega)⟩
theorem Ow6.new' (w : World) (a b c d n m : Int) : Ow6 (w.alloc (.cells #[.int .i64 a, .int .i64 b, .int .i64 c, .int .i64 d, .int .i64 n, .int .i64 m] 26)) w.heap.size (a, b, c, d, n, m) := Ow6.new w (a, b, c, d, n, m)
/-- Another block is set. -/
theorem Ow6.set_ne {w : World} {B k i : Nat} {r : RtT} (h : Ow6 w B r) (hk : k ≠ B) (v : Value) : Ow6 (w.setCell ⟨k, i, none⟩ v) B r :=
  h.turn (F := fun j => j = k) (turn_set (F := fun j => j = k) (p := ⟨k, i, none⟩) (Turn.refl _ _) (Or.inl (show k = k from rfl)) v) (fun e => hk e.symm)
theorem Ow6.put_ne {w : World} {B k : Nat} {r : RtT} (h : Ow6 w B r) (hk : k ≠ B) (p q s t u v : Value) : Ow6 ((((((w.setCell ⟨k, 0, none⟩ p).setCell ⟨k, 1, none⟩ q).setCell ⟨k, 2, none⟩ s).setCell ⟨k, 3, none⟩ t).setCell ⟨k, 4, none⟩ u).setCell ⟨k, 5, none⟩ v) B r :=
  (((((h.set_ne hk p).set_ne hk q).set_ne hk s).set_ne hk t).set_ne hk u).set_ne hk v
/-- Its block, the cells in letters. -/
abbrev objL (a b c d n m : Int) : Obj := .cells #[.int .i64 a, .int .i64 b, .int .i64 c, .int .i64 d, .int .i64 n, .int .i64 m] 26
theorem Ow6.cells {w : World} {B : Nat} {r : RtT} (h : Ow6 w B r) : w.cell? ⟨B, 0, none⟩ = some (.int .i64 r.1) ∧ w.cell? ⟨B, 1, none⟩ = some (.int .i64 r.2.1) ∧ w.cell? ⟨B, 2, none⟩ = some (.int .i64 r.2.2.1) ∧ w.cell? ⟨B, 3, none⟩ = some (.int .i64 r.2.2.2.1) ∧ w.cell? ⟨B, 4, none⟩ = some (.int .i64 r.2.2.2.2.1) ∧ w.cell? ⟨B, 5, none⟩ = some (.int .i64 r.2.2.2.2.2) := ⟨h.c 0 (by omega), h.c 1 (by omega), h.c 2 (by omega), h.c 3 (by omega), h.c 4 (by omega), h.c 5 (by omega)⟩
theorem Ow6.free {w : World} {B : Nat} {r : RtT} (h : Ow6 w B r) : w.frozen? ⟨B, 0, none⟩ = false ∧ w.frozen? ⟨B, 1, none⟩ = false ∧ w.frozen? ⟨B, 2, none⟩ = false ∧ w.frozen? ⟨B, 3, none⟩ = false ∧ w.frozen? ⟨B, 4, none⟩ = false ∧ w.frozen? ⟨B, 5, none⟩ = false := ⟨h.z 0 (by omega), h.z 1 (by omega), h.z 2 (by omega), h.z 3 (by omega), h.z 4 (by omega), h.z 5 (by omega)⟩
/-- It is laid anew; its two numbers; its currencies; its period. -/
theorem Ow6.put {w : World} {B : Nat} {r : RtT} (h : Ow6 w B r) (s : RtT) : Ow6 ((((((w.setCell ⟨B, 0, none⟩ (.int .i64 s.1)).setCell ⟨B, 1, none⟩ (.int .i64 s.2.1)).setCell ⟨B, 2, none⟩ (.int .i64 s.2.2.1)).setCell ⟨B, 3, none⟩ (.int .i64 s.2.2.2.1)).setCell ⟨B, 4, none⟩ (.int .i64 s.2.2.2.2.1)).setCell ⟨B, 5, none⟩ (.int .i64 s.2.2.2.2.2)) B s :=
  OwF.eq ((((((OwF.set h (k := 0) (by omega) _).set (k := 1) (by omega) _).set (k := 2) (by omega) _).set (k := 3) (by omega) _).set (k := 4) (by omega) _).set (k := 5) (by omega) _) (six_case rfl rfl rfl rfl rfl rfl)
theorem Ow6.put2 {w : World} {B : Nat} {r : RtT} (h : Ow6 w B r) (n d : Int) : Ow6 ((w.setCell ⟨B, 4, none⟩ (.int .i64 n)).setCell ⟨B, 5, none⟩ (.int .i64 d)) B (r.1, r.2.1, r.2.2.1, r.2.2.2.1, n, d) :=
  OwF.eq ((OwF.set h (k := 4) (by omega) _).set (k := 5) (by omega) _) (six_case rfl rfl rfl rfl rfl rfl)
theorem Ow6.putC {w : World} {B : Nat} {r : RtT} (h : Ow6 w B r) (x y : Int) : Ow6 ((w.setCell ⟨B, 0, none⟩ (.int .i64 x)).setCell ⟨B, 1, none⟩ (.int .i64 y)) B (x, y, r.2.2) :=
  OwF.eq ((OwF.set h (k := 0) (by omega) _).set (k := 1) (by omega) _) (six_case rfl rfl rfl rfl rfl rfl)
theorem Ow6.putP {w : World} {B : Nat} {r : RtT} (h : Ow6 w B r) (p : Int) : Ow6 (w.setCell ⟨B, 3, none⟩ (.int .i64 p)) B (r.1, r.2.1, r.2.2.1, p, r.2.2.2.2) :=
  OwF.eq (OwF.set h (k := 3) (by omega) _) (six_case rfl rfl rfl rfl rfl rfl)
theorem Ow6.put' {w : World} {B : Nat} {r : RtT} (h : Ow6 w B r) (a b c d n m : Int) : Ow6 ((((((w.setCell ⟨B, 0, none⟩ (.int .i64 a)).setCell ⟨B, 1, none⟩ (.int .i64 b)).setCell ⟨B, 2, none⟩ (.int .i64 c)).setCell ⟨B, 3, none⟩ (.int .i64 d)).setCell ⟨B, 4, none⟩ (.int .i64 n)).setCell ⟨B, 5, none⟩ (.int .i64 m)) B (a, b, c, d, n, m) := Ow6.put h (a, b, c, d, n, m)
theorem turn_set6 {F : Nat → Prop} {w w1 : World} (h : Turn F w w1) {k : Nat} (hk : F k ∨ w.heap.size ≤ k) (a b c d e f : Value) : Turn F w ((((((w1.setCell ⟨k, 0, none⟩ a).setCell ⟨k, 1, none⟩ b).setCell ⟨k, 2, none⟩ c).setCell ⟨k, 3, none⟩ d).setCell ⟨k, 4, none⟩ e).setCell ⟨k, 5, none⟩ f) :=
  turn_set (turn_set (turn_set (turn_set (turn_set (turn_set h hk a) hk b) hk c) hk d) hk e) hk f
theorem below_set6 {m : Nat} {w w1 : World} (h : Below m w w1) {k : Nat} (hk : m ≤ k) (a b c d e f : Value) : Below m w ((((((w1.setCell ⟨k, 0, none⟩ a).setCell ⟨k, 1, none⟩ b).setCell ⟨k, 2, none⟩ c).setCell ⟨k, 3, none⟩ d).setCell ⟨k, 4, none⟩ e).setCell ⟨k, 5, none⟩ f) :=
  (((((h.setCell hk a).setCell hk b).setCell hk c).setCell hk d).setCell hk e).setCell hk f

/-- A slice reads as these rates. -/
def RdR (w : World) (a : Option Addr) (L : List RtT) : Prop := (∀ s ∈ L, okT s) ∧ ∀ i, i < L.length → ∃ b off, a = some ⟨b, off, none⟩ ∧ w.cell? ⟨b, off + i * 6, none⟩ = some (.int .i64 (L.getD i zR).1) ∧ w.cell? ⟨b, off + i * 6 + 1, none⟩ = some (.int .i64 (L.getD i zR).2.1) ∧ w.cell? ⟨b, off + i * 6 + 2, none⟩ = some (.int .i64 (L.getD i zR).2.2.1) ∧ w.cell? ⟨b, off + i * 6 + 3, none⟩ = some (.int .i64 (L.getD i zR).2.2.2.1) ∧ w.cell? ⟨b, off + i * 6 + 4, none⟩ = some (.int .i64 (L.getD i zR).2.2.2.2.1) ∧ w.cell? ⟨b, off + i * 6 + 5, none⟩ = some (.int .i64 (L.getD i zR).2.2.2.2.2)
theorem RdR.below {w w' : World} {a : Option Addr} {L : List RtT} (h : RdR w a L) (hb : Below w.heap.size w w') : RdR w' a L := by
  refine ⟨h.1, fun i hi => ?_⟩
  obtain ⟨b, off, ha, c0, c1, c2, c3, c4, c5⟩ := h.2 i hi
  have hl : b < w.heap.size := World.block_lt_of_cell? w _ c0
  exact ⟨b, off, ha, (hb.cell (p := ⟨b, off + i * 6, none⟩) hl).trans c0, (hb.cell (p := ⟨b, off + i * 6 + 1, none⟩) hl).trans c1, (hb.cell (p := ⟨b, off + i * 6 + 2, none⟩) hl).trans c2, (hb.cell (p := ⟨b, off + i * 6 + 3, none⟩) hl).trans c3, (hb.cell (p := ⟨b, off + i * 6 + 4, none⟩) hl).trans c4, (hb.cell (p := ⟨b, off + i * 6 + 5, none⟩) hl).trans c5⟩
theorem RdR.lo {w : World} {a : Option Addr} {L : List RtT} (h : RdR w a L) (hn : L ≠ []) : ∀ ad, a = some ad → ad.block < w.heap.size := by
  intro ad q
  obtain ⟨b, off, q2, hc, -⟩ := h.2 0 (List.length_pos_iff.2 hn)
  rw [q] at q2; cases q2
  exact World.block_lt_of_cell? w _ hc
theorem RdR.at {w : World} {a : Option Addr} {L : List RtT} (h : RdR w a L) {i : Nat} (hi : i < L.length) : okT (L.getD i zR) := by rw [getR hi]; exact h.1 _ (List.getElem_mem hi)
theorem RdR.nil (w : World) (a : Option Addr) : RdR w a [] := ⟨by simp, fun i hi => by cases hi⟩
theorem RdR.slc {w : World} {a : Option Addr} {c : Nat} {L : List RtT} (h : RdR w a L) (hl : L.length ≤ c) (ca : a = none → c = 0) : SlC w (.slice a L.length c) 6 L.length (rowR L) := by
  refine ⟨a, c, rfl, hl, ca, rowR_len L, fun j hj => ?_⟩
  rw [rowR_len] at hj
  obtain ⟨b, off, ha, c0, c1, c2, c3, c4, c5⟩ := h.2 (j / 6) (by omega)
  refine ⟨b, off, ha, ?_⟩
  have e := rowR_at L (j / 6) (j % 6) (by omega) (by omega)
  rw [show j / 6 * 6 + j % 6 = j by omega] at e
  rw [e]
  rcases (by omega : j % 6 = 0 ∨ j % 6 = 1 ∨ j % 6 = 2 ∨ j % 6 = 3 ∨ j % 6 = 4 ∨ j % 6 = 5) with q | q | q | q | q | q <;> rw [q]
  · rw [show off + j = off + j / 6 * 6 by omega, c0]; rfl
  · rw [show off + j = off + j / 6 * 6 + 1 by omega, c1]; rfl
  · rw [show off + j = off + j / 6 * 6 + 2 by omega, c2]; rfl
  · rw [show off + j = off + j / 6 * 6 + 3 by omega, c3]; rfl
  · rw [show off + j = off + j / 6 * 6 + 4 by omega, c4]; rfl
  · rw [show off + j = off + j / 6 * 6 + 5 by omega, c5]; rfl
theorem rdR_of {w : World} {a : Option Addr} {n c : Nat} {L : List RtT} (h : SlC w (.slice a n c) 6 n (rowR L)) (hL : ∀ s ∈ L, okT s) : RdR w a L := by
  obtain ⟨a', c', h1, h2, h3, h4, h5⟩ := h
  cases h1
  rw [rowR_len] at h4
  refine ⟨hL, fun i hi => ?_⟩
  have hj : ∀ j, j < 6 → i * 6 + j < (rowR L).length := fun j hj => by rw [rowR_len]; omega
  obtain ⟨b, off, ha, c0⟩ := h5 (i * 6 + 0) (hj 0 (by omega))
  subst ha
  have g : ∀ j, j < 6 → w.cell? ⟨b, off + (i * 6 + j), none⟩ = (cellsR (L.getD i zR))[j]? := fun j q => by
    obtain ⟨b', off', ha, c1⟩ := h5 (i * 6 + j) (hj j q)
    cases ha
    rw [c1, rowR_at L i j hi q]
  exact ⟨b, off, rfl, g 0 (by omega), by have := g 1 (by omega); rwa [← Nat.add_assoc] at this, by have := g 2 (by omega); rwa [← Nat.add_assoc] at this, by have := g 3 (by omega); rwa [← Nat.add_assoc] at this, by have := g 4 (by omega); rwa [← Nat.add_assoc] at this, by have := g 5 (by omega); rwa [← Nat.add_assoc] at this⟩
theorem oneR (w : World) (s : RtT) : SlC (w.alloc (objR s)) (.slice (some ⟨w.heap.size, 0, none⟩) 1 1) 6 1 (cellsR s) :=
  ownsRow_slc (World.ownsRow_lit (base := w.heap.size) (e := 26) (size := 6) w #[.int .i64 s.1, .int .i64 s.2.1, .int .i64 s.2.2.1, .int .i64 s.2.2.2.1, .int .i64 s.2.2.2.2.1, .int .i64 s.2.2.2.2.2] 1 (Nat.le_refl _) (by unfold maxLen; omega) rfl)
/-- Of its own. -/
def OwnR (w : World) (base : Nat) (v : Value) (L : List RtT) : Prop := w.ownsRow base 26 6 v L.length (rowR L)
theorem OwnR.nil (w : World) (base : Nat) : OwnR w base (.slice none 0 0) [] := World.ownsRow_nil _ _ _ _
theorem OwnR.below {w w' : World} {base : Nat} {v : Value} {L : List RtT} (h : OwnR w base v L) (hb : Below w.heap.size w w') : OwnR w' base v L := ownsRow_below h hb
theorem OwnR.lower {w : World} {base base' : Nat} {v : Value} {L : List RtT} (h : OwnR w base v L) (hb : base' ≤ base) : OwnR w base' v L := by
  refine ⟨h.1, ?_⟩
  rcases h.2 with q | ⟨g, cap, cur, rfl, h2, h3⟩
  · exact Or.inl q
  · exact Or.inr ⟨g, cap, cur, rfl, Nat.le_trans hb h2, h3⟩
theorem OwnR.reads {w : World} {base : Nat} {v : Value} {L : List RtT} (h : OwnR w base v L) (hL : ∀ s ∈ L, okT s) : ∃ a c, v = .slice a L.length c ∧ L.length ≤ c ∧ (a = none → c = 0) ∧ RdR w a L := by
  have hs := ownsRow_slc h
  have hs' := hs
  obtain ⟨a, c, rfl, h2, h3, _⟩ := hs
  exact ⟨a, c, rfl, h2, h3, rdR_of hs' hL⟩
end Go.Proofs.Ytogckefmmjbapaa
