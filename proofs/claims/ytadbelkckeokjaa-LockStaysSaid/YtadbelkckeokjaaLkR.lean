/-
  Rows of locks: a struct of two numbers, as it lies in two cells; rows that are owned by a call, rows as they read. No Go function is walked here. No conditions.
-/
import Derived.Test.YtadbelkckeokjaaLkM
import Derived.Test.YtadbelkckeokjaaIntB0
import Derived.Test.YtadbelkckeokjaaTurnM
import Derived.Test.YtadbelkckeokjaaWideF0
namespace Go.Proofs.Ytadbelkckeokjaa
open Go.RowKit
set_option linter.unusedSimpArgs false
set_option linter.unusedVariables false

def cellsL (s : LkT) : List Value := [.int .i64 s.1, .int .i64 s.2]
def encL (s : LkT) : Value := .agg #[.int .i64 s.1, .int .i64 s.2]
/-- A block of a lock. -/
abbrev objK (s : LkT) : Obj := .cells #[.int .i64 s.1, .int .i64 s.2] 24
def rowL (P : List LkT) : List Value := P.flatMap cellsL
theorem rowL_len (P : List LkT) : (rowL P).length = P.length * 2 := by
  induction P with
  | nil => rfl
  | cons a P ih => simp only [rowL, List.flatMap_cons, List.length_append, List.length_cons] at ih ⊢; rw [ih]; simp [cellsL]; omega
theorem rowL_app (P : List LkT) (s : LkT) : rowL P ++ cellsL s = rowL (P ++ [s]) := by simp [rowL]
theorem cellsL_one (s : LkT) : ∀ u ∈ cellsL s, u.oneCell' = true := by
  intro u h
  simp [cellsL] at h
  rcases h with rfl | rfl <;> rfl
theorem rowL_one (P : List LkT) : ∀ u ∈ rowL P, u.oneCell' = true := by
  intro u hu
  obtain ⟨s, _, h⟩ := List.mem_flatMap.1 hu
  exact cellsL_one s u h
theorem rowL_at : ∀ (P : List LkT) (i j : Nat), i < P.length → j < 2 → (rowL P)[i * 2 + j]? = (cellsL (P.getD i zL))[j]?
  | [], i, j, h, _ => by cases h
  | a :: P, 0, j, _, hj => by
    show (cellsL a ++ rowL P)[0 * 2 + j]? = _
    rw [List.getElem?_append_left (by simp [cellsL]; omega)]; simp
  | a :: P, i + 1, j, h, hj => by
    show (cellsL a ++ rowL P)[(i + 1) * 2 + j]? = _
    rw [List.getElem?_append_right (by simp [cellsL]; omega)]
    have := rowL_at P i j (by simpa using h) hj
    simp only [List.getD_cons_succ]
    rw [← this]
    congr 1
    simp [cellsL]; omega
theorem lock_info : (Try.prog.info? 24).map (fun i => (i.zero, i.size, i.bytes)) = some (some (.agg #[.int .i64 0, .int .i64 0]), 2, 16) := by kernel_rfl
theorem oneL (w : World) (s : LkT) : SlC (w.alloc (objK s)) (.slice (some ⟨w.heap.size, 0, none⟩) 1 1) 2 1 (cellsL s) :=
  ownsRow_slc (World.ownsRow_lit (base := w.heap.size) (e := 24) (size := 2) w #[.int .i64 s.1, .int .i64 s.2] 1 (Nat.le_refl _) (by unfold maxLen; omega) rfl)
theorem getL {L : List LkT} {k : Nat} (h : k < L.length) : L.getD k zL = L[k] := by simp [List.getD, h]
theorem takeL {L : List LkT} {k : Nat} (h : k < L.length) : L.take (k + 1) = L.take k ++ [L.getD k zL] := by rw [List.take_succ_eq_append_getElem h, getL h]
/-- A slice reads as these locks. -/
def RdL (w : World) (a : Option Addr) (L : List LkT) : Prop := (∀ s ∈ L, okL s) ∧ ∀ i, i < L.length → ∃ b off, a = some ⟨b, off, none⟩ ∧ w.cell? ⟨b, off + i * 2, none⟩ = some (.int .i64 (L.getD i zL).1) ∧ w.cell? ⟨b, off + i * 2 + 1, none⟩ = some (.int .i64 (L.getD i zL).2)
theorem RdL.below {w w' : World} {a : Option Addr} {L : List LkT} (h : RdL w a L) (hb : Below w.heap.size w w') : RdL w' a L := by
  refine ⟨h.1, fun i hi => ?_⟩
  obtain ⟨b, off, ha, c0, c1⟩ := h.2 i hi
  have hl : b < w.heap.size := World.block_lt_of_cell? w _ c0
  exact ⟨b, off, ha, (hb.cell (p := ⟨b, off + i * 2, none⟩) hl).trans c0, (hb.cell (p := ⟨b, off + i * 2 + 1, none⟩) hl).trans c1⟩
theorem RdL.at {w : World} {a : Option Addr} {L : List LkT} (h : RdL w a L) {i : Nat} (hi : i < L.length) : okL (L.getD i zL) := by rw [getL hi]; exact h.1 _ (List.getElem_mem hi)
theorem RdL.take {w : World} {a : Option Addr} {L : List LkT} (h : RdL w a L) (k : Nat) : RdL w a (L.take k) := by
  refine ⟨fun s hs => h.1 s (List.mem_of_mem_take hs), fun i hi => ?_⟩
  have hl : i < L.length := by rw [List.length_take] at hi; omega
  have e : (L.take k).getD i zL = L.getD i zL := by rw [getL hi, getL hl, List.getElem_take]
  rw [e]
  exact h.2 i hl
theorem RdL.nil (w : World) (a : Option Addr) : RdL w a [] := ⟨by simp, fun i hi => by cases hi⟩
theorem RdL.slc {w : World} {a : Option Addr} {c : Nat} {L : List LkT} (h : RdL w a L) (hl : L.length ≤ c) (ca : a = none → c = 0) : SlC w (.slice a L.length c) 2 L.length (rowL L) := by
  refine ⟨a, c, rfl, hl, ca, rowL_len L, fun j hj => ?_⟩
  rw [rowL_len] at hj
  obtain ⟨b, off, ha, c0, c1⟩ := h.2 (j / 2) (by omega)
  refine ⟨b, off, ha, ?_⟩
  have e := rowL_at L (j / 2) (j % 2) (by omega) (by omega)
  rw [show j / 2 * 2 + j % 2 = j by omega] at e
  rw [e]
  rcases (by omega : j % 2 = 0 ∨ j % 2 = 1) with q | q <;> rw [q]
  · rw [show off + j = off + j / 2 * 2 by omega, c0]; rfl
  · rw [show off + j = off + j / 2 * 2 + 1 by omega, c1]; rfl
theorem rdL_of {w : World} {a : Option Addr} {n c : Nat} {L : List LkT} (h : SlC w (.slice a n c) 2 n (rowL L)) (hL : ∀ s ∈ L, okL s) : RdL w a L := by
  obtain ⟨a', c', h1, h2, h3, h4, h5⟩ := h
  cases h1
  rw [rowL_len] at h4
  refine ⟨hL, fun i hi => ?_⟩
  have hj : ∀ j, j < 2 → i * 2 + j < (rowL L).length := fun j hj => by rw [rowL_len]; omega
  obtain ⟨b, off, ha, c0⟩ := h5 (i * 2 + 0) (hj 0 (by omega))
  subst ha
  have g : ∀ j, j < 2 → w.cell? ⟨b, off + (i * 2 + j), none⟩ = (cellsL (L.getD i zL))[j]? := fun j q => by
    obtain ⟨b', off', ha, c1⟩ := h5 (i * 2 + j) (hj j q)
    cases ha
    rw [c1, rowL_at L i j hi q]
  exact ⟨b, off, rfl, g 0 (by omega), by have := g 1 (by omega); rwa [← Nat.add_assoc] at this⟩
/-- Of its own. -/
def OwnL (w : World) (base : Nat) (v : Value) (L : List LkT) : Prop := w.ownsRow base 24 2 v L.length (rowL L)
theorem OwnL.nil (w : World) (base : Nat) : OwnL w base (.slice none 0 0) [] := World.ownsRow_nil _ _ _ _
theorem OwnL.below {w w' : World} {base : Nat} {v : Value} {L : List LkT} (h : OwnL w base v L) (hb : Below w.heap.size w w') : OwnL w' base v L := ownsRow_below h hb
theorem OwnL.reads {w : World} {base : Nat} {v : Value} {L : List LkT} (h : OwnL w base v L) (hL : ∀ s ∈ L, okL s) : ∃ a c, v = .slice a L.length c ∧ L.length ≤ c ∧ (a = none → c = 0) ∧ RdL w a L := by
  have hs := ownsRow_slc h
  have hs' := hs
  obtain ⟨a, c, rfl, h2, h3, _⟩ := hs
  exact ⟨a, c, rfl, h2, h3, rdL_of hs' hL⟩
/-- A counter goes up by one. -/
theorem wrapL {k N : Nat} (h : k < N) (hN : N ≤ 1000000) : wrap64 ((k : Int) + 1) = (k : Int) + 1 := by unfold wrap64; omega
theorem measL {k N : Nat} (h : k < N) : N - (RowKit.intOf (.int .i64 ((k : Int) + 1))).toNat < N - (RowKit.intOf (.int .i64 (k : Int))).toNat := by simp [RowKit.intOf]; omega
end Go.Proofs.Ytadbelkckeokjaa
