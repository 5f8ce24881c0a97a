/-
  Rows of stakes as they lie; which stakes count (the landed closure); who holds an entity in a period: what the landed At and the document's answer. No conditions besides a row of at most 1000000.
-/
import Derived.Test.YtebjmnppeohdiaaStkM
import Derived.Test.YtebjmnppeohdiaaOw4
import Derived.Deep.QuietTactic
import Derived.BigQuiet
import Derived.WalkSmall
namespace Go.Proofs.Ytebjmnppeohdiaa
open Go.RowKit
set_option linter.unusedSimpArgs false
set_option linter.unusedVariables false

/-- A slice reads as these stakes. -/
def RdQ (w : World) (a : Option Addr) (L : List K4) : Prop := (∀ s ∈ L, ok4 s) ∧ ∀ i, i < L.length → ∃ b off, a = some ⟨b, off, none⟩ ∧ w.cell? ⟨b, off + i * 4, none⟩ = some (.int .i64 (L.getD i z4).1) ∧ w.cell? ⟨b, off + i * 4 + 1, none⟩ = some (.int .i64 (L.getD i z4).2.1) ∧ w.cell? ⟨b, off + i * 4 + 2, none⟩ = some (.int .i64 (L.getD i z4).2.2.1) ∧ w.cell? ⟨b, off + i * 4 + 3, none⟩ = some (.int .i64 (L.getD i z4).2.2.2)
theorem RdQ.below {w w' : World} {a : Option Addr} {L : List K4} (h : RdQ w a L) (hb : Below w.heap.size w w') : RdQ w' a L := by
  refine ⟨h.1, fun i hi => ?_⟩
  obtain ⟨b, off, ha, c0, c1, c2, c3⟩ := h.2 i hi
  have hl : b < w.heap.size := World.block_lt_of_cell? w _ c0
  exact ⟨b, off, ha, (hb.cell (p := ⟨b, off + i * 4, none⟩) hl).trans c0, (hb.cell (p := ⟨b, off + i * 4 + 1, none⟩) hl).trans c1, (hb.cell (p := ⟨b, off + i * 4 + 2, none⟩) hl).trans c2, (hb.cell (p := ⟨b, off + i * 4 + 3, none⟩) hl).trans c3⟩
theorem RdQ.at {w : World} {a : Option Addr} {L : List K4} (h : RdQ w a L) {i : Nat} (hi : i < L.length) : ok4 (L.getD i z4) := by rw [get4 hi]; exact h.1 _ (List.getElem_mem hi)
theorem RdQ.take {w : World} {a : Option Addr} {L : List K4} (h : RdQ w a L) (k : Nat) : RdQ w a (L.take k) := by
  refine ⟨fun s hs => h.1 s (List.mem_of_mem_take hs), fun i hi => ?_⟩
  have hl : i < L.length := by rw [List.length_take] at hi; omega
  have e : (L.take k).getD i z4 = L.getD i z4 := by rw [get4 hi, get4 hl, List.getElem_take]
  rw [e]
  exact h.2 i hl
theorem RdQ.nil (w : World) (a : Option Addr) : RdQ w a [] := ⟨by simp, fun i hi => by cases hi⟩
theorem RdQ.slc {w : World} {a : Option Addr} {c : Nat} {L : List K4} (h : RdQ w a L) (hl : L.length ≤ c) (ca : a = none → c = 0) : SlC w (.slice a L.length c) 4 L.length (row4 L) := by
  refine ⟨a, c, rfl, hl, ca, row4_len L, fun j hj => ?_⟩
  rw [row4_len] at hj
  obtain ⟨b, off, ha, c0, c1, c2, c3⟩ := h.2 (j / 4) (by omega)
  refine ⟨b, off, ha, ?_⟩
  have e := row4_at L (j / 4) (j % 4) (by omega) (by omega)
  rw [show j / 4 * 4 + j % 4 = j by omega] at e
  rw [e]
  rcases (by omega : j % 4 = 0 ∨ j % 4 = 1 ∨ j % 4 = 2 ∨ j % 4 = 3) with q | q | q | q <;> rw [q]
  · rw [show off + j = off + j / 4 * 4 by omega, c0]; rfl
  · rw [show off + j = off + j / 4 * 4 + 1 by omega, c1]; rfl
  · rw [show off + j = off + j / 4 * 4 + 2 by omega, c2]; rfl
  · rw [show off + j = off + j / 4 * 4 + 3 by omega, c3]; rfl
theorem rdq_of {w : World} {a : Option Addr} {n c : Nat} {L : List K4} (h : SlC w (.slice a n c) 4 n (row4 L)) (hL : ∀ s ∈ L, ok4 s) : RdQ w a L := by
  obtain ⟨a', c', h1, h2, h3, h4, h5⟩ := h
  cases h1
  rw [row4_len] at h4
  refine ⟨hL, fun i hi => ?_⟩
  have hj : ∀ j, j < 4 → i * 4 + j < (row4 L).length := fun j hj => by rw [row4_len]; omega
  obtain ⟨b, off, ha, c0⟩ := h5 (i * 4 + 0) (hj 0 (by omega))
  subst ha
  have g : ∀ j, j < 4 → w.cell? ⟨b, off + (i * 4 + j), none⟩ = (cells4 (L.getD i z4))[j]? := fun j q => by
    obtain ⟨b', off', ha, c1⟩ := h5 (i * 4 + j) (hj j q)
    cases ha
    rw [c1, row4_at L i j hi q]
  exact ⟨b, off, rfl, g 0 (by omega), by have := g 1 (by omega); rwa [← Nat.add_assoc] at this, by have := g 2 (by omega); rwa [← Nat.add_assoc] at this, by have := g 3 (by omega); rwa [← Nat.add_assoc] at this⟩
/-- Of its own. -/
def OwnS (w : World) (base : Nat) (v : Value) (L : List K4) : Prop := w.ownsRow base 75 4 v L.length (row4 L)
theorem OwnS.nil (w : World) (base : Nat) : OwnS w base (.slice none 0 0) [] := World.ownsRow_nil _ _ _ _
theorem OwnS.below {w w' : World} {base : Nat} {v : Value} {L : List K4} (h : OwnS w base v L) (hb : Below w.heap.size w w') : OwnS w' base v L := ownsRow_below h hb
theorem OwnS.lower {w : World} {base base' : Nat} {v : Value} {L : List K4} (h : OwnS w base v L) (hb : base' ≤ base) : OwnS w base' v L := by
  refine ⟨h.1, ?_⟩
  rcases h.2 with q | ⟨g, cap, cur, rfl, h2, h3⟩
  · exact Or.inl q
  · exact Or.inr ⟨g, cap, cur, rfl, Nat.le_trans hb h2, h3⟩
theorem OwnS.reads {w : World} {base : Nat} {v : Value} {L : List K4} (h : OwnS w base v L) (hL : ∀ s ∈ L, ok4 s) : ∃ a c, v = .slice a L.length c ∧ L.length ≤ c ∧ (a = none → c = 0) ∧ RdQ w a L := by
  have hs := ownsRow_slc h
  have hs' := hs
  obtain ⟨a, c, rfl, h2, h3, _⟩ := hs
  exact ⟨a, c, rfl, h2, h3, rdq_of hs' hL⟩

set_option maxRecDepth 100000 in
theorem among_c (x p : Int) (w : World) :
    Calls Try.prog 49 #[.int .i64 x, .int .i64 p] w fun e w' => e = .returned (.func (.func 63) #[] #[.pointer (some ⟨w.heap.size, 0, none⟩), .pointer (some ⟨w.heap.size + 1, 0, none⟩)]) ∧ w' = (w.alloc (.cells #[.int .i64 x] 3)).alloc (.cells #[.int .i64 p] 3) := by
  have hmf : ∀ (fn : Fn) (first cap : Array Value) (w : World), (Instr.makeFunc fn first cap).run Try.prog w = .ok (.func fn first cap) w := fun _ _ _ _ => rfl
  go_enter Try.func49, Try.ntmps49
  go_wp2_with fail
  go_ret
  exact ⟨by simp, rfl⟩
set_option maxRecDepth 100000 in
theorem among1 {w : World} {b0 b1 : Nat} {x p : Int} (h0 : w.cell? ⟨b0, 0, none⟩ = some (.int .i64 x)) (h1 : w.cell? ⟨b1, 0, none⟩ = some (.int .i64 p)) (s : K4) :
    Calls Try.prog 63 #[.agg #[.int .i64 s.1, .int .i64 s.2.1, .int .i64 s.2.2.1, .int .i64 s.2.2.2], .pointer (some ⟨b0, 0, none⟩), .pointer (some ⟨b1, 0, none⟩)] w fun e w' => e = .returned (.bool (cnt x p s)) ∧ Below w.heap.size w w' := by
  have hb := below1 w (.cells #[.int .i64 s.1, .int .i64 s.2.1, .int .i64 s.2.2.1, .int .i64 s.2.2.2] 75)
  obtain ⟨d0, d1, d2, d3⟩ := new4 (w := w) (s := s) (Below.refl _ _)
  have g0 := (hb.cell (p := ⟨b0, 0, none⟩) (World.block_lt_of_cell? w _ h0)).trans h0
  have g1 := (hb.cell (p := ⟨b1, 0, none⟩) (World.block_lt_of_cell? w _ h1)).trans h1
  have HB := Lib.hid hb
  clear h0 h1 hb
  by_cases h : s.1 = x
  · have e1 : (s.1 == x) = true := by simpa using h
    obtain ⟨r, hr⟩ : ∃ r, decide (s.2.2.2 ≤ p) = r := ⟨_, rfl⟩
    have hc : cnt x p s = r := by unfold cnt; rw [decide_eq_true h, hr]; rfl
    rw [hc]
    clear hc h
    go_enter Try.func63, Try.ntmps63
    go_wp2_with fail
    go_ret
    exact ⟨rfl, HB.out⟩
  · have e1 : (s.1 == x) = false := by simpa using h
    have hc : cnt x p s = false := cnt_no (fun q => h q.1)
    rw [hc]
    clear hc h
    go_enter Try.func63, Try.ntmps63
    go_wp2_with fail
    go_ret
    exact ⟨rfl, HB.out⟩
end Go.Proofs.Ytebjmnppeohdiaa
