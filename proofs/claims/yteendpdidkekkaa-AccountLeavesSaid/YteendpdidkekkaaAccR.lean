/-
  Rows of accounts: a struct of two numbers and two truths, as it lies in four cells; rows that are owned by a call, rows as they read. No Go function is walked here. No conditions.
-/
import Derived.Test.YteendpdidkekkaaTru
import Derived.Test.YteendpdidkekkaaOw4
import Derived.Test.YteendpdidkekkaaFlt
namespace Go.Proofs.Yteendpdidkekkaa
open Go.RowKit
set_option linter.unusedSimpArgs false
set_option linter.unusedVariables false

/-- An account: the one above it, its kind, whether it is split, whether it has partners. -/
abbrev AcT := Int × Int × Bool × Bool
abbrev zA : AcT := (0, 0, false, false)
def cellsA (s : AcT) : List Value := [.int .i64 s.1, .int .i64 s.2.1, .bool s.2.2.1, .bool s.2.2.2]
def encA (s : AcT) : Value := .agg #[.int .i64 s.1, .int .i64 s.2.1, .bool s.2.2.1, .bool s.2.2.2]
/-- A block of an account. -/
abbrev objA (s : AcT) : Obj := .cells #[.int .i64 s.1, .int .i64 s.2.1, .bool s.2.2.1, .bool s.2.2.2] 35
def okA (s : AcT) : Prop := InR s.1 ∧ InR s.2.1
def rowA (P : List AcT) : List Value := P.flatMap cellsA
theorem rowA_len (P : List AcT) : (rowA P).length = P.length * 4 := by
  induction P with
  | nil => rfl
  | cons a P ih => simp only [rowA, List.flatMap_cons, List.length_append, List.length_cons] at ih ⊢; rw [ih]; simp [cellsA]; omega
theorem rowA_app (P : List AcT) (s : AcT) : rowA P ++ cellsA s = rowA (P ++ [s]) := by simp [rowA]
theorem rowA_one (P : List AcT) : ∀ u ∈ rowA P, u.oneCell' = true := by
  intro u hu
  obtain ⟨s, _, h⟩ := List.mem_flatMap.1 hu
  simp [cellsA] at h
  rcases h with rfl | rfl | rfl | rfl <;> rfl
theorem cellsA_one (s : AcT) : ∀ u ∈ cellsA s, u.oneCell' = true := by
  intro u h
  simp [cellsA] at h
  rcases h with rfl | rfl | rfl | rfl <;> rfl
theorem rowA_at : ∀ (P : List AcT) (i j : Nat), i < P.length → j < 4 → (rowA P)[i * 4 + j]? = (cellsA (P.getD i zA))[j]?
  | [], i, j, h, _ => by cases h
  | a :: P, 0, j, _, hj => by
    show (cellsA a ++ rowA P)[0 * 4 + j]? = _
    rw [List.getElem?_append_left (by simp [cellsA]; omega)]; simp
  | a :: P, i + 1, j, h, hj => by
    show (cellsA a ++ rowA P)[(i + 1) * 4 + j]? = _
    rw [List.getElem?_append_right (by simp [cellsA]; omega)]
    have := rowA_at P i j (by simpa using h) hj
    simp only [List.getD_cons_succ]
    rw [← this]
    congr 1
    simp [cellsA]; omega
theorem eq_acc (s s' : AcT) (w : World) : (Op.equalIn 10000 35 (.agg #[.int .i64 s.1, .int .i64 s.2.1, .bool s.2.2.1, .bool s.2.2.2]) (.agg #[.int .i64 s'.1, .int .i64 s'.2.1, .bool s'.2.2.1, .bool s'.2.2.2])).run Try.prog w = .ok (decide (s = s')) w := by
  obtain ⟨a, b, c, d⟩ := s
  obtain ⟨a', b', c', d'⟩ := s'
  simp [go_sem]
  by_cases h1 : a = a' <;> by_cases h2 : b = b' <;> cases c <;> cases d <;> cases c' <;> cases d' <;> simp [h1, h2]
/-- A new block of an account, and what is laid behind it. -/
theorem newA (w : World) (s : AcT) : Ow4 (w.alloc (objA s)) w.heap.size (.int .i64 s.1) (.int .i64 s.2.1) (.bool s.2.2.1) (.bool s.2.2.2) := Ow4.new _ _ _ _ _ _
theorem acc_info : (Try.prog.info? 35).map (fun i => (i.zero, i.size, i.bytes)) = some (some (.agg #[.int .i64 0, .int .i64 0, .bool false, .bool false]), 4, 24) := by kernel_rfl
theorem oneA (w : World) (s : AcT) : SlC (w.alloc (objA s)) (.slice (some ⟨w.heap.size, 0, none⟩) 1 1) 4 1 (cellsA s) :=
  ownsRow_slc (World.ownsRow_lit (base := w.heap.size) (e := 35) (size := 4) w #[.int .i64 s.1, .int .i64 s.2.1, .bool s.2.2.1, .bool s.2.2.2] 1 (Nat.le_refl _) (by unfold maxLen; omega) rfl)
theorem getA {L : List AcT} {k : Nat} (h : k < L.length) : L.getD k zA = L[k] := by simp [List.getD, h]
theorem takeA {L : List AcT} {k : Nat} (h : k < L.length) : L.take (k + 1) = L.take k ++ [L.getD k zA] := by rw [List.take_succ_eq_append_getElem h, getA h]
/-- A slice reads as these stakes. -/
def RdA (w : World) (a : Option Addr) (L : List AcT) : Prop := (∀ s ∈ L, okA s) ∧ ∀ i, i < L.length → ∃ b off, a = some ⟨b, off, none⟩ ∧ w.cell? ⟨b, off + i * 4, none⟩ = some (.int .i64 (L.getD i zA).1) ∧ w.cell? ⟨b, off + i * 4 + 1, none⟩ = some (.int .i64 (L.getD i zA).2.1) ∧ w.cell? ⟨b, off + i * 4 + 2, none⟩ = some (.bool (L.getD i zA).2.2.1) ∧ w.cell? ⟨b, off + i * 4 + 3, none⟩ = some (.bool (L.getD i zA).2.2.2)
theorem RdA.below {w w' : World} {a : Option Addr} {L : List AcT} (h : RdA w a L) (hb : Below w.heap.size w w') : RdA w' a L := by
  refine ⟨h.1, fun i hi => ?_⟩
  obtain ⟨b, off, ha, c0, c1, c2, c3⟩ := h.2 i hi
  have hl : b < w.heap.size := World.block_lt_of_cell? w _ c0
  exact ⟨b, off, ha, (hb.cell (p := ⟨b, off + i * 4, none⟩) hl).trans c0, (hb.cell (p := ⟨b, off + i * 4 + 1, none⟩) hl).trans c1, (hb.cell (p := ⟨b, off + i * 4 + 2, none⟩) hl).trans c2, (hb.cell (p := ⟨b, off + i * 4 + 3, none⟩) hl).trans c3⟩
theorem RdA.at {w : World} {a : Option Addr} {L : List AcT} (h : RdA w a L) {i : Nat} (hi : i < L.length) : okA (L.getD i zA) := by rw [getA hi]; exact h.1 _ (List.getElem_mem hi)
theorem RdA.take {w : World} {a : Option Addr} {L : List AcT} (h : RdA w a L) (k : Nat) : RdA w a (L.take k) := by
  refine ⟨fun s hs => h.1 s (List.mem_of_mem_take hs), fun i hi => ?_⟩
  have hl : i < L.length := by rw [List.length_take] at hi; omega
  have e : (L.take k).getD i zA = L.getD i zA := by rw [getA hi, getA hl, List.getElem_take]
  rw [e]
  exact h.2 i hl
theorem RdA.nil (w : World) (a : Option Addr) : RdA w a [] := ⟨by simp, fun i hi => by cases hi⟩
theorem RdA.slc {w : World} {a : Option Addr} {c : Nat} {L : List AcT} (h : RdA w a L) (hl : L.length ≤ c) (ca : a = none → c = 0) : SlC w (.slice a L.length c) 4 L.length (rowA L) := by
  refine ⟨a, c, rfl, hl, ca, rowA_len L, fun j hj => ?_⟩
  rw [rowA_len] at hj
  obtain ⟨b, off, ha, c0, c1, c2, c3⟩ := h.2 (j / 4) (by omega)
  refine ⟨b, off, ha, ?_⟩
  have e := rowA_at L (j / 4) (j % 4) (by omega) (by omega)
  rw [show j / 4 * 4 + j % 4 = j by omega] at e
  rw [e]
  rcases (by omega : j % 4 = 0 ∨ j % 4 = 1 ∨ j % 4 = 2 ∨ j % 4 = 3) with q | q | q | q <;> rw [q]
  · rw [show off + j = off + j / 4 * 4 by omega, c0]; rfl
  · rw [show off + j = off + j / 4 * 4 + 1 by omega, c1]; rfl
  · rw [show off + j = off + j / 4 * 4 + 2 by omega, c2]; rfl
  · rw [show off + j = off + j / 4 * 4 + 3 by omega, c3]; rfl
theorem rdA_of {w : World} {a : Option Addr} {n c : Nat} {L : List AcT} (h : SlC w (.slice a n c) 4 n (rowA L)) (hL : ∀ s ∈ L, okA s) : RdA w a L := by
  obtain ⟨a', c', h1, h2, h3, h4, h5⟩ := h
  cases h1
  rw [rowA_len] at h4
  refine ⟨hL, fun i hi => ?_⟩
  have hj : ∀ j, j < 4 → i * 4 + j < (rowA L).length := fun j hj => by rw [rowA_len]; omega
  obtain ⟨b, off, ha, c0⟩ := h5 (i * 4 + 0) (hj 0 (by omega))
  subst ha
  have g : ∀ j, j < 4 → w.cell? ⟨b, off + (i * 4 + j), none⟩ = (cellsA (L.getD i zA))[j]? := fun j q => by
    obtain ⟨b', off', ha, c1⟩ := h5 (i * 4 + j) (hj j q)
    cases ha
    rw [c1, rowA_at L i j hi q]
  exact ⟨b, off, rfl, g 0 (by omega), by have := g 1 (by omega); rwa [← Nat.add_assoc] at this, by have := g 2 (by omega); rwa [← Nat.add_assoc] at this, by have := g 3 (by omega); rwa [← Nat.add_assoc] at this⟩
/-- Of its own. -/
def OwnA (w : World) (base : Nat) (v : Value) (L : List AcT) : Prop := w.ownsRow base 35 4 v L.length (rowA L)
theorem OwnA.nil (w : World) (base : Nat) : OwnA w base (.slice none 0 0) [] := World.ownsRow_nil _ _ _ _
theorem OwnA.below {w w' : World} {base : Nat} {v : Value} {L : List AcT} (h : OwnA w base v L) (hb : Below w.heap.size w w') : OwnA w' base v L := ownsRow_below h hb
theorem OwnA.lower {w : World} {base base' : Nat} {v : Value} {L : List AcT} (h : OwnA w base v L) (hb : base' ≤ base) : OwnA w base' v L := by
  refine ⟨h.1, ?_⟩
  rcases h.2 with q | ⟨g, cap, cur, rfl, h2, h3⟩
  · exact Or.inl q
  · exact Or.inr ⟨g, cap, cur, rfl, Nat.le_trans hb h2, h3⟩
theorem OwnA.reads {w : World} {base : Nat} {v : Value} {L : List AcT} (h : OwnA w base v L) (hL : ∀ s ∈ L, okA s) : ∃ a c, v = .slice a L.length c ∧ L.length ≤ c ∧ (a = none → c = 0) ∧ RdA w a L := by
  have hs := ownsRow_slc h
  have hs' := hs
  obtain ⟨a, c, rfl, h2, h3, _⟩ := hs
  exact ⟨a, c, rfl, h2, h3, rdA_of hs' hL⟩

end Go.Proofs.Yteendpdidkekkaa
