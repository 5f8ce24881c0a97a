/-
  A heap of things with their turns, in plain words: what is ahead, what rising and sinking keep, which comes first. No Go function is walked here. No conditions. What the landed pile's calm less and isAhead answer, at numbers. The conditions: the cells of the pile's block. The landed pile's blocks: the pile's own (less, the heap, how many were pushed), the box of the less that it was given, the heap's row. What keeps them, what a store, a push and a take turn, step by step. No Go function is walked here. No conditions. What the landed pile's New, isMade and Len answer, at numbers. The conditions: the pile's blocks. What the landed pile's rise answers. The conditions: the pile's blocks, a heap but for its last one. What the landed pile's sink answers. The conditions: the pile's blocks, a heap but for what stands below its first one. What the landed pile's put answers. The conditions: the pile's blocks, a heap, how many were pushed. The landed pile of numbers: what its take, Push and Pop answer; a pile that holds some numbers, in whatever order. The conditions: the pile's blocks; no more than 20000 numbers.
-/
import Derived.Test.YtbaeanpdjdcheaaGreatRowG
import Derived.Test.YtbaeanpdjdcheaaGreatTurnM
import Derived.Laws.Cover3
import Derived.Defers
import Derived.Recover
import Derived.WalkSmall
import Derived.BigQuiet
import Derived.Deep.QuietTactic
import Derived.Deep.RegionHeld3
import Derived.Test.YtbaeanpdjdcheaaGreatIntB0
import Derived.Lib.SliceRun
import Derived.RegionTactic
import Derived.BigRegion
import Derived.Deep.RegionWith
namespace Go.Proofs.YtbaeanpdjdcheaaGreat
open Go.RowKit
set_option linter.unusedSimpArgs false
set_option linter.unusedVariables false

/- A heap of things with their turns, in plain words: what is ahead, what rising and sinking keep, which comes first. No Go function is walked here. No conditions. -/
/-- A number with its turn. -/
abbrev En := Int × Int
def zE : En := (0, 0)
def cellsE (e : En) : List Value := [.int .i64 e.1, .int .i64 e.2]
def encE (e : En) : Value := .agg #[.int .i64 e.1, .int .i64 e.2]
/-- Which is ahead. -/
def ahE (e f : En) : Prop := e.1 < f.1 ∨ (e.1 = f.1 ∧ e.2 < f.2)
instance (e f : En) : Decidable (ahE e f) := by unfold ahE; infer_instance
theorem ahE_asym {e f : En} (h : ahE e f) : ¬ ahE f e := by unfold ahE at *; omega
theorem ahE_irr (e : En) : ¬ ahE e e := by unfold ahE; omega
/-- Not ahead, one behind the other. -/
theorem nahE_trans {e f g : En} (h : ¬ ahE e f) (k : ¬ ahE f g) : ¬ ahE e g := by unfold ahE at *; omega

/-- The entry at a place. -/
def atE (H : List En) (i : Nat) : En := H.getD i zE
theorem atE_mem {H : List En} {i : Nat} (h : i < H.length) : atE H i ∈ H := by
  unfold atE; rw [show H.getD i zE = H[i] by simp [List.getD, h]]; exact List.getElem_mem h
theorem atE_get {H : List En} {i : Nat} (h : i < H.length) : atE H i = H[i] := by unfold atE; simp [List.getD, h]
/-- Two entries changed for each other. -/
def swE (H : List En) (i j : Nat) : List En := (H.set i (atE H j)).set j (atE H i)
theorem swE_len (H : List En) (i j : Nat) : (swE H i j).length = H.length := by simp [swE]
theorem swE_at {H : List En} {i j : Nat} (hi : i < H.length) (hj : j < H.length) (k : Nat) : atE (swE H i j) k = if k = j then atE H i else if k = i then atE H j else atE H k := by
  unfold swE
  conv => lhs; unfold atE
  rw [List.getD_eq_getElem?_getD, List.getElem?_set, List.getElem?_set]
  by_cases h1 : k = j
  · subst h1; simp [hj]; rfl
  · rw [if_neg (Ne.symm h1), if_neg h1]
    by_cases h2 : k = i
    · subst h2; simp [hi]; rfl
    · rw [if_neg (Ne.symm h2), if_neg h2]; rfl
theorem swE_perm {H : List En} {i j : Nat} (hi : i < H.length) (hj : j < H.length) : (swE H i j).Perm H := by
  have h := List.set_set_perm hi hj
  unfold swE
  rw [atE_get hi, atE_get hj]
  exact h

/-- None is ahead of the one above it. -/
def HeapE (H : List En) : Prop := ∀ i, 0 < i → i < H.length → ¬ ahE (atE H i) (atE H ((i - 1) / 2))
/-- .. but for the one at a. -/
def RisE (H : List En) (a : Nat) : Prop := (∀ i, 0 < i → i < H.length → i ≠ a → ¬ ahE (atE H i) (atE H ((i - 1) / 2))) ∧ (0 < a → ∀ i, 0 < i → i < H.length → (i - 1) / 2 = a → ¬ ahE (atE H i) (atE H ((a - 1) / 2)))
/-- .. but for those below a. -/
def SinE (H : List En) (a : Nat) : Prop := (∀ i, 0 < i → i < H.length → (i - 1) / 2 ≠ a → ¬ ahE (atE H i) (atE H ((i - 1) / 2))) ∧ (0 < a → ∀ i, 0 < i → i < H.length → (i - 1) / 2 = a → ¬ ahE (atE H i) (atE H ((a - 1) / 2)))
theorem heapE_nil : HeapE [] := fun i _ h => by cases h
theorem riseE_start {H : List En} (h : HeapE H) (e : En) : RisE (H ++ [e]) H.length := by
  have hx : ∀ i, i < H.length → atE (H ++ [e]) i = atE H i := fun i hi => by unfold atE; simp [List.getD, hi, List.getElem?_append_left hi]
  refine ⟨fun i h0 hi hn => ?_, fun h0 i h1 hi hp => ?_⟩
  · have hl : i < H.length := by rw [List.length_append] at hi; simp at hi; omega
    rw [hx i hl, hx _ (by omega)]
    exact h i h0 hl
  · rw [List.length_append] at hi; simp at hi; omega
theorem riseE_top {H : List En} (h : RisE H 0) : HeapE H := fun i h0 hi => h.1 i h0 hi (by omega)
theorem riseE_done {H : List En} {a : Nat} (h : RisE H a) (h2 : ¬ ahE (atE H a) (atE H ((a - 1) / 2))) : HeapE H := fun i h0 hi => by
  by_cases q : i = a
  · subst q; exact h2
  · exact h.1 i h0 hi q
theorem riseE_step {H : List En} {a : Nat} (h : RisE H a) (h0 : 0 < a) (ha : a < H.length) (h2 : ahE (atE H a) (atE H ((a - 1) / 2))) : RisE (swE H a ((a - 1) / 2)) ((a - 1) / 2) := by
  have hp : (a - 1) / 2 < a := by omega
  generalize hq : (a - 1) / 2 = p at *
  have hsw := fun k => swE_at (H := H) (i := a) (j := p) ha (by omega) k
  obtain ⟨r1, r2⟩ := h
  refine ⟨fun i hi0 hi hn => ?_, fun hp0 i hi0 hi hpi => ?_⟩
  · rw [swE_len] at hi
    rw [hsw i, hsw ((i - 1) / 2), if_neg hn]
    by_cases e1 : i = a
    · subst e1
      rw [if_pos rfl, hq, if_pos rfl]
      exact ahE_asym h2
    · rw [if_neg e1]
      by_cases e2 : (i - 1) / 2 = p
      · rw [if_pos e2]
        have := r1 i hi0 hi e1
        rw [e2] at this
        exact nahE_trans this (ahE_asym h2)
      · rw [if_neg e2]
        by_cases e3 : (i - 1) / 2 = a
        · rw [if_pos e3]
          have := r2 h0 i hi0 hi e3
          rwa [hq] at this
        · rw [if_neg e3]
          exact r1 i hi0 hi e1
  · rw [swE_len] at hi
    have e1 : i ≠ p := by omega
    rw [hsw i, hsw ((p - 1) / 2), if_neg e1, if_neg (show ¬ (p - 1) / 2 = p by omega), if_neg (show ¬ (p - 1) / 2 = a by omega)]
    have hpp := r1 p hp0 (by omega) (by omega)
    by_cases e2 : i = a
    · rw [if_pos e2]; exact hpp
    · rw [if_neg e2]
      have := r1 i hi0 hi e2
      rw [hpi] at this
      exact nahE_trans this hpp
theorem sinkE_done {H : List En} {a : Nat} (h : SinE H a) (h2 : ∀ i, 0 < i → i < H.length → (i - 1) / 2 = a → ¬ ahE (atE H i) (atE H a)) : HeapE H := fun i h0 hi => by
  by_cases q : (i - 1) / 2 = a
  · rw [q]; exact h2 i h0 hi q
  · exact h.1 i h0 hi q
theorem sinkE_step {H : List En} {a f : Nat} (h : SinE H a) (hf0 : 0 < f) (hf : f < H.length) (hfa : (f - 1) / 2 = a) (h1 : ahE (atE H f) (atE H a)) (h2 : ∀ i, 0 < i → i < H.length → (i - 1) / 2 = a → ¬ ahE (atE H i) (atE H f)) : SinE (swE H a f) f := by
  have hsw := fun k => swE_at (H := H) (i := a) (j := f) (by omega) hf k
  obtain ⟨r1, r2⟩ := h
  refine ⟨fun i hi0 hi hn => ?_, fun hp0 i hi0 hi hpi => ?_⟩
  · rw [swE_len] at hi
    rw [hsw i, hsw ((i - 1) / 2), if_neg hn]
    by_cases e1 : i = f
    · subst e1
      rw [if_pos rfl, if_pos hfa]
      exact ahE_asym h1
    · rw [if_neg e1]
      by_cases e2 : i = a
      · rw [if_pos e2, e2, if_neg (show ¬ (a - 1) / 2 = a by omega)]
        exact r2 (by omega) f hf0 hf hfa
      · rw [if_neg e2]
        by_cases e3 : (i - 1) / 2 = a
        · rw [if_pos e3]
          exact h2 i hi0 hi e3
        · rw [if_neg e3]
          exact r1 i hi0 hi e3
  · rw [swE_len] at hi
    rw [hsw i, hsw ((f - 1) / 2), if_neg (show ¬ i = f by omega), if_neg (show ¬ i = a by omega), if_neg (show ¬ (f - 1) / 2 = f by omega), if_pos hfa]
    have := r1 i hi0 hi (by omega)
    rw [hpi] at this
    exact this
/-- What is left, its last one at the top. -/
def tkE (H : List En) : List En := (H.set 0 (atE H (H.length - 1))).take (H.length - 1)
theorem tkE_len {H : List En} : (tkE H).length = H.length - 1 := by simp [tkE, List.length_take]
theorem sinkE_start {H : List En} (h : HeapE H) : SinE (tkE H) 0 := by
  refine ⟨fun i h0 hi hn => ?_, fun h0 => absurd h0 (by omega)⟩
  rw [tkE_len] at hi
  have hx : ∀ j, 0 < j → j < H.length - 1 → atE (tkE H) j = atE H j := fun j hj0 hj => by
    unfold atE tkE
    rw [List.getD_eq_getElem?_getD, List.getD_eq_getElem?_getD, List.getElem?_take, if_pos hj, List.getElem?_set, if_neg (by omega)]
  rw [hx i h0 hi, hx _ (by omega) (by omega)]
  exact h i h0 (by omega)
theorem tkE_perm {H : List En} (h : 0 < H.length) : (atE H 0 :: tkE H).Perm H := by
  cases H with
  | nil => cases h
  | cons a t =>
    rcases List.eq_nil_or_concat t with rfl | ⟨m, z, rfl⟩
    · exact List.Perm.refl _
    · have e1 : atE (a :: m.concat z) 0 = a := rfl
      have e2 : atE (a :: m.concat z) ((a :: m.concat z).length - 1) = z := by
        unfold atE; simp [List.getD]
      have e3 : tkE (a :: m.concat z) = z :: m := by
        unfold tkE
        rw [e2]
        simp
      rw [e1, e3, List.concat_eq_append]
      exact List.Perm.cons a (List.perm_append_comm (l₁ := [z]) (l₂ := m))
/-- The top one is ahead of all. -/
theorem heapE_top {H : List En} (h : HeapE H) : ∀ i, i < H.length → ¬ ahE (atE H i) (atE H 0) := by
  intro i
  induction i using Nat.strongRecOn with
  | _ i ih =>
    intro hi
    rcases Nat.eq_zero_or_pos i with rfl | h0
    · exact ahE_irr _
    · exact nahE_trans (h i h0 hi) (ih _ (by omega) (by omega))

/-- The cells of a row of entries. -/
theorem flatE_len : ∀ H : List En, (H.flatMap cellsE).length = H.length * 2
  | [] => rfl
  | e :: H => by rw [List.flatMap_cons, List.length_append, flatE_len H]; simp [cellsE]; omega
theorem flatE_at : ∀ (H : List En) (k j : Nat), k < H.length → j < 2 → (H.flatMap cellsE)[k * 2 + j]? = (cellsE (atE H k))[j]?
  | [], k, j, h, _ => by cases h
  | e :: H, 0, j, _, hj => by
    rw [List.flatMap_cons, List.getElem?_append_left (by simp [cellsE]; omega), Nat.zero_mul, Nat.zero_add]; rfl
  | e :: H, k + 1, j, h, hj => by
    rw [List.flatMap_cons, List.getElem?_append_right (by simp [cellsE]; omega), show (k + 1) * 2 + j - (cellsE e).length = k * 2 + j by simp [cellsE]; omega, flatE_at H k j (by simpa using h) hj]
    rfl
theorem flatE_set : ∀ (H : List En) (k : Nat) (e : En), k < H.length → ((H.flatMap cellsE).set (k * 2) (.int .i64 e.1)).set (k * 2 + 1) (.int .i64 e.2) = (H.set k e).flatMap cellsE
  | [], k, e, h => by cases h
  | f :: H, 0, e, _ => by simp [cellsE]
  | f :: H, k + 1, e, h => by
    have := flatE_set H k e (by simpa using h)
    rw [List.set_cons_succ, List.flatMap_cons, List.flatMap_cons, ← this, show (k + 1) * 2 = k * 2 + 2 by omega]
    simp [cellsE]
theorem flatE_take : ∀ (H : List En) (k : Nat), (H.flatMap cellsE).take (k * 2) = (H.take k).flatMap cellsE
  | [], k => by simp
  | e :: H, 0 => by simp
  | e :: H, k + 1 => by
    rw [List.take_succ_cons, List.flatMap_cons, List.flatMap_cons, ← flatE_take H k, show (k + 1) * 2 = k * 2 + 2 by omega]
    simp [cellsE]
/- What the landed pile's calm less and isAhead answer, at numbers. The conditions: the cells of the pile's block. -/
/-- The landed package's own less, as a value. -/
abbrev LessI : Value := .func (.func 56) #[] #[]
theorem l14_less (a c : Int) (w : World) :
    Calls Tryz.prog 56 #[.int .i64 a, .int .i64 c] w fun e w' => e = .returned (.bool (decide (a < c))) ∧ w' = w := by
  go_enter Tryz.func56, Tryz.ntmps56
  go_wp2_with fail
  go_ret
  exact ⟨rfl, rfl⟩
theorem idle_i (p : Addr) (w : World) :
    CallsD Tryz.prog 84 #[.pointer (some p)] .returning w fun e u' w' => e = .returned (.tuple #[]) ∧ u' = .returning ∧ w' = w := by
  refine callsD_of_wpS Tryz.func84 rfl fun c₀ cs hu => ?_
  apply wpS_seq
  apply wpS_region
  simp [wpOpsS, go_sem, recoverD, hu, Tryz.ntmps84, Exit.thenS]
  refine wpS_cond (t := false) (by simp [Act.eval, Array.replicate]) ?_
  simp only [Bool.false_eq_true, if_false]
  refine wpS_of_wp (wp_skip ?_)
  cases c₀
  simp_all [bodyPostS, results, Tryz.results84]
set_option maxHeartbeats 2000000 in
theorem calm_i {w : World} {b : Nat} (hl : w.cell? ⟨b, 0, none⟩ = some LessI) (x u : Int) :
    Calls Tryz.prog 83 #[.int .i64 x, .int .i64 u, .pointer (some ⟨b, 0, none⟩)] w fun e w' => e = .returned (.bool (decide (x < u))) ∧ Below w.heap.size w w' := by
  have hmf : ∀ (fn : Fn) (first cap : Array Value) (w : World), (Instr.makeFunc fn first cap).run Tryz.prog w = .ok (.func fn first cap) w := fun _ _ _ _ => rfl
  have hb : b < w.heap.size := World.block_lt_of_cell? w _ hl
  have hb3 : Below w.heap.size w (w.alloc (.cells #[.bool false] 4)) := below1 w _
  have hl3 := (hb3.cell (p := ⟨b, 0, none⟩) hb).trans hl
  go_enter_defers Tryz.func83, Tryz.ntmps83
  go_wp2_with fail
  refine (l14_less x u _).mono ?_; rintro e w1 ⟨rfl, rfl⟩
  have hr : (w.alloc (.cells #[.bool false] 4)).cell? ⟨w.heap.size, 0, none⟩ = some (.bool false) := by simp [go_sem]
  have hz : (w.alloc (.cells #[.bool false] 4)).frozen? ⟨w.heap.size, 0, none⟩ = false := by simp [go_sem]
  have hr2 : ((w.alloc (.cells #[.bool false] 4)).setCell ⟨w.heap.size, 0, none⟩ (.bool (decide (x < u)))).cell? ⟨w.heap.size, 0, none⟩ = some (.bool (decide (x < u))) := World.cell?_setCell_same _ _ _ hr
  have hend : Below w.heap.size w ((w.alloc (.cells #[.bool false] 4)).setCell ⟨w.heap.size, 0, none⟩ (.bool (decide (x < u)))) := hb3.setCell (by simp) _
  clear hl hl3 hb3
  go_wp2_with fail
  refine leaves_cons (f := 84) (args := #[.pointer (some ⟨w.heap.size, 0, none⟩)]) (by simp) (by simp [go_sem]) ?_
  refine (idle_i ⟨w.heap.size, 0, none⟩ _).mono ?_
  rintro e u' w'' ⟨rfl, rfl, rfl⟩
  simp [Leaves, settle, results, Tryz.results83, go_sem, hr2]
  first | exact hend | exact below1 w _

/-- The less of a pile that New made, as a value. -/
abbrev CalmI (b : Nat) : Value := .func (.func 83) #[] #[.pointer (some ⟨b, 0, none⟩)]
theorem new2I (w : World) (a b x y : Value) (t : TypeId) {W : World} (hb : Below (w.heap.size + 2) ((w.alloc (.cells #[a, b] t)).alloc (.cells #[x, y] t)) W) :
    W.cell? ⟨w.heap.size, 0, none⟩ = some a ∧ W.cell? ⟨w.heap.size, 1, none⟩ = some b ∧
    W.cell? ⟨w.heap.size + 1, 0, none⟩ = some x ∧ W.cell? ⟨w.heap.size + 1, 1, none⟩ = some y := by
  have h1 : ∀ i, W.cell? ⟨w.heap.size, i, none⟩ = _ := fun i => hb.cell (p := ⟨w.heap.size, i, none⟩) (by show w.heap.size < _; omega)
  have h2 : ∀ i, W.cell? ⟨w.heap.size + 1, i, none⟩ = _ := fun i => hb.cell (p := ⟨w.heap.size + 1, i, none⟩) (by show w.heap.size + 1 < _; omega)
  refine ⟨(h1 0).trans ?_, (h1 1).trans ?_, (h2 0).trans ?_, (h2 1).trans ?_⟩ <;> simp [go_sem]
set_option maxHeartbeats 2000000 in
theorem ahead_i {w : World} {B b : Nat} (hc : w.cell? ⟨B, 0, none⟩ = some (CalmI b)) (hl : w.cell? ⟨b, 0, none⟩ = some LessI) (e f : En) :
    Calls Tryz.prog 91 #[.pointer (some ⟨B, 0, none⟩), encE e, encE f] w fun r w' => r = .returned (.bool (decide (ahE e f))) ∧ Below w.heap.size w w' := by
  obtain ⟨x, t⟩ := e
  obtain ⟨u, s⟩ := f
  unfold encE ahE
  simp only
  have hb2 := below2 w (.cells #[.int .i64 x, .int .i64 t] 118) (.cells #[.int .i64 u, .int .i64 s] 118)
  have hB : B < w.heap.size := World.block_lt_of_cell? w _ hc
  have hb : b < w.heap.size := World.block_lt_of_cell? w _ hl
  have hsz : ((w.alloc (.cells #[.int .i64 x, .int .i64 t] 118)).alloc (.cells #[.int .i64 u, .int .i64 s] 118)).heap.size = w.heap.size + 2 := by simp
  have HK : Hid (∀ W, Below (w.heap.size + 2) ((w.alloc (.cells #[.int .i64 x, .int .i64 t] 118)).alloc (.cells #[.int .i64 u, .int .i64 s] 118)) W → W.cell? ⟨B, 0, none⟩ = some (CalmI b) ∧ W.cell? ⟨b, 0, none⟩ = some LessI ∧ W.cell? ⟨w.heap.size, 0, none⟩ = some (.int .i64 x) ∧ W.cell? ⟨w.heap.size, 1, none⟩ = some (.int .i64 t) ∧ W.cell? ⟨w.heap.size + 1, 0, none⟩ = some (.int .i64 u) ∧ W.cell? ⟨w.heap.size + 1, 1, none⟩ = some (.int .i64 s)) := fun W h =>
    ⟨(h.cell (p := ⟨B, 0, none⟩) (by show B < _; omega)).trans ((hb2.cell (p := ⟨B, 0, none⟩) hB).trans hc), (h.cell (p := ⟨b, 0, none⟩) (by show b < _; omega)).trans ((hb2.cell (p := ⟨b, 0, none⟩) hb).trans hl), new2I w _ _ _ _ _ h⟩
  obtain ⟨k0, k1, x0, x1, y0, y1⟩ := HK.out _ (Below.refl _ _)
  clear hc hl
  by_cases ht : t < s
  · have d1 : decide (t < s) = true := decide_eq_true ht
    rw [show decide (x < u ∨ x = u ∧ t < s) = !decide (u < x) by rw [← decide_not]; exact decide_eq_decide.mpr (by omega)]
    go_enter Tryz.func91, Tryz.ntmps91
    go_wp2_with fail
    clear x1 y1
    generalize hW : (w.alloc (.cells #[.int .i64 x, .int .i64 t] 118)).alloc (.cells #[.int .i64 u, .int .i64 s] 118) = W0 at *
    go_region_held3 (fun wz => wz.cell? ⟨B, 0, none⟩ = some (CalmI b) ∧ wz.cell? ⟨w.heap.size, 0, none⟩ = some (.int .i64 x) ∧ wz.cell? ⟨w.heap.size + 1, 0, none⟩ = some (.int .i64 u))
      (first | (exact ⟨k0, x0, y0⟩) | (exact ⟨z0, z2, z4⟩))
      (first
        | (go_at_call 83; refine (calm_i (w := W0.drew) k1 _ _).mono ?_; rintro e w1 ⟨rfl, hb1⟩
           have hb9 : Below (w.heap.size + 2) W0 w1 := (Below.refl (w.heap.size + 2) W0).drew.trans (hb1.mono (by show _ ≤ W0.heap.size; omega))
           obtain ⟨z0, z1, z2, z3, z4, z5⟩ := HK.out _ hb9))
    go_wp2_with fail
    go_ret
    exact ⟨rfl, hb2.trans (hb9.mono (by omega))⟩
  · have d1 : decide (t < s) = false := decide_eq_false ht
    rw [show decide (x < u ∨ x = u ∧ t < s) = decide (x < u) by exact decide_eq_decide.mpr (by omega)]
    go_enter Tryz.func91, Tryz.ntmps91
    go_wp2_with fail
    clear x1 y1
    generalize hW : (w.alloc (.cells #[.int .i64 x, .int .i64 t] 118)).alloc (.cells #[.int .i64 u, .int .i64 s] 118) = W0 at *
    go_region_held3 (fun wz => wz.cell? ⟨B, 0, none⟩ = some (CalmI b) ∧ wz.cell? ⟨w.heap.size, 0, none⟩ = some (.int .i64 x) ∧ wz.cell? ⟨w.heap.size + 1, 0, none⟩ = some (.int .i64 u))
      (first | (exact ⟨k0, x0, y0⟩) | (exact ⟨z0, z2, z4⟩))
      (first
        | (go_at_call 83; refine (calm_i (w := W0.drew) k1 _ _).mono ?_; rintro e w1 ⟨rfl, hb1⟩
           have hb9 : Below (w.heap.size + 2) W0 w1 := (Below.refl (w.heap.size + 2) W0).drew.trans (hb1.mono (by show _ ≤ W0.heap.size; omega))
           obtain ⟨z0, z1, z2, z3, z4, z5⟩ := HK.out _ hb9))
    go_wp2_with fail
    go_ret
    exact ⟨rfl, hb2.trans (hb9.mono (by omega))⟩
/- The landed pile's blocks: the pile's own (less, the heap, how many were pushed), the box of the less that it was given, the heap's row. What keeps them, what a store, a push and a take turn, step by step. No Go function is walked here. No conditions. -/
/-- A pile whose block is B: its heap H lies in the slice v, p were pushed, the box of its less is b. -/
structure PiH (w : World) (B : Nat) (H : List En) (p : Int) (b : Nat) (v : Value) : Prop where
  c0 : w.cell? ⟨B, 0, none⟩ = some (CalmI b)
  c1 : w.cell? ⟨B, 1, none⟩ = some v
  c2 : w.cell? ⟨B, 2, none⟩ = some (.int .i64 p)
  z1 : w.frozen? ⟨B, 1, none⟩ = false
  z2 : w.frozen? ⟨B, 2, none⟩ = false
  l0 : w.cell? ⟨b, 0, none⟩ = some LessI
  row : w.ownsRow 0 118 2 v H.length (H.flatMap cellsE)
  h1 : B ≠ b
  h2 : v.ownBlock ≠ some B
  h3 : v.ownBlock ≠ some b
def PiF (B b : Nat) (v : Value) (j : Nat) : Prop := j = B ∨ j = b ∨ v.ownBlock = some j
section
variable {w w' : World} {B b : Nat} {H : List En} {p : Int} {v : Value}
theorem PiH.lt (h : PiH w B H p b v) : B < w.heap.size := World.block_lt_of_cell? w _ h.c0
theorem PiH.ltb (h : PiH w B H p b v) : b < w.heap.size := World.block_lt_of_cell? w _ h.l0
theorem PiH.foot (h : PiH w B H p b v) : ∀ j, PiF B b v j → j < w.heap.size := by
  rintro j (rfl | rfl | q)
  · exact h.lt
  · exact h.ltb
  · exact (World.ownsRow.lt h.row j q).2
theorem PiH.keep (h : PiH w B H p b v) (hk : ∀ j, PiF B b v j → w'.heap[j]? = w.heap[j]?) : PiH w' B H p b v := by
  have hB := hk B (Or.inl rfl)
  have hb := hk b (Or.inr (Or.inl rfl))
  have hc : ∀ i, w'.cell? ⟨B, i, none⟩ = w.cell? ⟨B, i, none⟩ := fun i => by unfold World.cell?; rw [hB]
  have hz : ∀ i, w'.frozen? ⟨B, i, none⟩ = w.frozen? ⟨B, i, none⟩ := fun i => by unfold World.frozen?; rw [hB]
  have hl : w'.cell? ⟨b, 0, none⟩ = w.cell? ⟨b, 0, none⟩ := by unfold World.cell?; rw [hb]
  refine ⟨(hc 0).trans h.c0, (hc 1).trans h.c1, (hc 2).trans h.c2, (hz 1).trans h.z1, (hz 2).trans h.z2, hl.trans h.l0, ?_, h.h1, h.h2, h.h3⟩
  refine ⟨h.row.1, ?_⟩
  rcases h.row.2 with q | ⟨g, cap, cur, rfl, q2, q3, q4⟩
  · exact Or.inl q
  · exact Or.inr ⟨g, cap, cur, rfl, q2, (hk g (Or.inr (Or.inr rfl))).trans q3, q4⟩
theorem PiH.below (h : PiH w B H p b v) (hb : Below w.heap.size w w') : PiH w' B H p b v :=
  h.keep (fun j q => hb.block j (h.foot j q))
theorem PiH.drewN (h : PiH w B H p b v) (k : Nat) : PiH (w.drewN k) B H p b v := h.keep (fun j q => rfl)
theorem PiH.drew (h : PiH w B H p b v) : PiH w.drew B H p b v := h.keep (fun j q => rfl)
/-- A pile that is made: the box of the less, then the pile's block. -/
theorem PiH.made (w : World) (t u : TypeId) : PiH ((w.alloc (.cells #[LessI] t)).alloc (.cells #[CalmI w.heap.size, .slice none 0 0, .int .i64 0] u)) (w.heap.size + 1) [] 0 w.heap.size (.slice none 0 0) := by
  have hs : (w.alloc (.cells #[LessI] t)).heap.size = w.heap.size + 1 := by simp
  have hn := heap_alloc_new (w.alloc (.cells #[LessI] t)) (.cells #[CalmI w.heap.size, .slice none 0 0, .int .i64 0] u)
  rw [hs] at hn
  have ho := (heap_alloc_old (w.alloc (.cells #[LessI] t)) (.cells #[CalmI w.heap.size, .slice none 0 0, .int .i64 0] u) (show w.heap.size < _ by rw [hs]; omega)).trans (heap_alloc_new w (.cells #[LessI] t))
  refine ⟨?_, ?_, ?_, ?_, ?_, ?_, World.ownsRow_nil _ _ _ _, by omega, by simp [Value.ownBlock], by simp [Value.ownBlock]⟩
  · unfold World.cell?; rw [hn]; rfl
  · unfold World.cell?; rw [hn]; rfl
  · unfold World.cell?; rw [hn]; rfl
  · unfold World.frozen?; rw [hn]; rfl
  · unfold World.frozen?; rw [hn]; rfl
  · unfold World.cell?; rw [ho]; rfl
/-- One more was pushed. -/
theorem PiH.count (h : PiH w B H p b v) (q : Int) : PiH (w.setCell ⟨B, 2, none⟩ (.int .i64 q)) B H q b v ∧ Turn (PiF B b v) w (w.setCell ⟨B, 2, none⟩ (.int .i64 q)) := by
  have hne : ∀ i, i ≠ 2 → (⟨B, 2, none⟩ : Addr) ≠ ⟨B, i, none⟩ := fun i hi q => hi (by cases q; rfl)
  refine ⟨⟨(World.cell?_setCell_other _ _ _ _ (hne 0 (by decide))).trans h.c0, (World.cell?_setCell_other _ _ _ _ (hne 1 (by decide))).trans h.c1, World.cell?_setCell_same _ _ _ h.c2, (World.frozen?_setCell _ _ _ _).trans h.z1, (World.frozen?_setCell _ _ _ _).trans h.z2, (World.cell?_setCell_other _ _ _ _ (fun r => h.h1 (congrArg Addr.block r))).trans h.l0, ?_, h.h1, h.h2, h.h3⟩, turn_set (Turn.refl _ _) (p := ⟨B, 2, none⟩) (Or.inl (Or.inl rfl)) _⟩
  exact own_turn h.row (turn_set (Turn.refl (fun j => j = B) w) (p := ⟨B, 2, none⟩) (Or.inl rfl) _) (fun k q r => h.h2 (by rw [q, r]))
theorem PiH.own (h : PiH w B H p b v) : OwnO (fun j => j = B ∨ j = b) w 0 118 2 v H.length (H.flatMap cellsE) :=
  ⟨h.row, fun k q => ⟨(World.ownsRow.lt h.row k q).2, fun r => r.elim (fun r => h.h2 (r ▸ q)) (fun r => h.h3 (r ▸ q))⟩⟩
/-- The row's block has turned alone, and the slice is laid anew. -/
theorem PiH.relay {H' : List En} {v' : Value} (h : PiH w B H p b v)
    (O : OwnO (fun j => j = B ∨ j = b) w' 0 118 2 v' H'.length (H'.flatMap cellsE)) (t : Turn (fun j => v.ownBlock = some j) w w') (l : v'.ownBlock = v.ownBlock ∨ ∃ g, v'.ownBlock = some g ∧ w.heap.size ≤ g) :
    PiH (w'.setCell ⟨B, 1, none⟩ v') B H' p b v' ∧ Turn (PiF B b v) w (w'.setCell ⟨B, 1, none⟩ v') ∧ ∀ j, PiF B b v' j → PiF B b v j ∨ w.heap.size ≤ j := by
  have hB : w'.heap[B]? = w.heap[B]? := t.block B h.lt h.h2
  have hc : ∀ i, w'.cell? ⟨B, i, none⟩ = w.cell? ⟨B, i, none⟩ := fun i => by unfold World.cell?; rw [hB]
  have hz : ∀ i, w'.frozen? ⟨B, i, none⟩ = w.frozen? ⟨B, i, none⟩ := fun i => by unfold World.frozen?; rw [hB]
  have hl : w'.cell? ⟨b, 0, none⟩ = w.cell? ⟨b, 0, none⟩ := t.cell (a := ⟨b, 0, none⟩) h.ltb h.h3
  have ht : Turn (PiF B b v) w (w'.setCell ⟨B, 1, none⟩ v') :=
    turn_set (F := PiF B b v) (p := ⟨B, 1, none⟩) (t.mono (fun j q => Or.inr (Or.inr q))) (Or.inl (Or.inl rfl)) v'
  have hne : ∀ i, i ≠ 1 → (⟨B, 1, none⟩ : Addr) ≠ ⟨B, i, none⟩ := fun i hi q => hi (by cases q; rfl)
  refine ⟨⟨(World.cell?_setCell_other _ _ _ _ (hne 0 (by decide))).trans ((hc 0).trans h.c0), World.cell?_setCell_same _ _ _ ((hc 1).trans h.c1), (World.cell?_setCell_other _ _ _ _ (hne 2 (by decide))).trans ((hc 2).trans h.c2), (World.frozen?_setCell _ _ _ _).trans ((hz 1).trans h.z1), (World.frozen?_setCell _ _ _ _).trans ((hz 2).trans h.z2), (World.cell?_setCell_other _ _ _ _ (fun r => h.h1 (congrArg Addr.block r))).trans (hl.trans h.l0), ?_, h.h1, ?_, ?_⟩, ht, ?_⟩
  · exact own_turn O.1 (turn_set (Turn.refl (fun j => j = B) w') (p := ⟨B, 1, none⟩) (Or.inl rfl) v') (fun k q r => (O.2 k q).2 (Or.inl r))
  · intro q; exact (O.2 B q).2 (Or.inl rfl)
  · intro q; exact (O.2 b q).2 (Or.inr rfl)
  · rintro j (q | q | q)
    · exact Or.inl (Or.inl q)
    · exact Or.inl (Or.inr (Or.inl q))
    · rcases l with r | ⟨g, r, hg⟩
      · exact Or.inl (Or.inr (Or.inr (r ▸ q)))
      · rw [r] at q; cases q; exact Or.inr hg
/-- The row's block has turned alone, the slice as it was. -/
theorem PiH.rerow {H' : List En} (h : PiH w B H p b v) (hl : H'.length = H.length)
    (O : w'.ownsRow 0 118 2 v H'.length (H'.flatMap cellsE)) (t : Turn (fun j => v.ownBlock = some j) w w') : PiH w' B H' p b v := by
  have hB : w'.heap[B]? = w.heap[B]? := t.block B h.lt h.h2
  have hc : ∀ i, w'.cell? ⟨B, i, none⟩ = w.cell? ⟨B, i, none⟩ := fun i => by unfold World.cell?; rw [hB]
  have hz : ∀ i, w'.frozen? ⟨B, i, none⟩ = w.frozen? ⟨B, i, none⟩ := fun i => by unfold World.frozen?; rw [hB]
  have hll : w'.cell? ⟨b, 0, none⟩ = w.cell? ⟨b, 0, none⟩ := t.cell (a := ⟨b, 0, none⟩) h.ltb h.h3
  exact ⟨(hc 0).trans h.c0, (hc 1).trans h.c1, (hc 2).trans h.c2, (hz 1).trans h.z1, (hz 2).trans h.z2, hll.trans h.l0, O, h.h1, h.h2, h.h3⟩
end
/-- The row's slice, where there is something in it. -/
theorem PiH.slice {w : World} {B b : Nat} {H : List En} {p : Int} {v : Value} (h : PiH w B H p b v) (h0 : 0 < H.length) : ∃ g cap, v = .slice (some ⟨g, 0, none⟩) H.length cap := by
  rcases h.row.2 with ⟨_, q⟩ | ⟨g, cap, cur, q, _⟩
  · omega
  · exact ⟨g, cap, q⟩
theorem PiH.form {w : World} {B b : Nat} {H : List En} {p : Int} {v : Value} (h : PiH w B H p b v) : ∃ a cap, v = .slice a H.length cap := (ownsRow_slc h.row).form
section
variable {w : World} {g n cap : Nat} {H : List En}
abbrev RowI (w : World) (g cap : Nat) (H : List En) : Prop := w.ownsRow 0 118 2 (.slice (some ⟨g, 0, none⟩) H.length cap) H.length (H.flatMap cellsE)
/-- The cells of an entry. -/
theorem rowI_at (h : RowI w g cap H) {i : Nat} (hi : i < H.length) :
    w.cell? ⟨g, i * 2, none⟩ = some (.int .i64 (atE H i).1) ∧ w.cell? ⟨g, i * 2 + 1, none⟩ = some (.int .i64 (atE H i).2) :=
  ⟨(h.cellAt _ (by omega)).trans (flatE_at H i 0 hi (by omega)), (h.cellAt _ (by omega)).trans (flatE_at H i 1 hi (by omega))⟩
/-- An entry is laid. -/
theorem rowI_put (h : RowI w g cap H) {i : Nat} (hi : i < H.length) (e : En) :
    RowI ((w.setCell ⟨g, i * 2, none⟩ (.int .i64 e.1)).setCell ⟨g, i * 2 + 1, none⟩ (.int .i64 e.2)) g cap (H.set i e) ∧
      Turn (fun j => j = g) w ((w.setCell ⟨g, i * 2, none⟩ (.int .i64 e.1)).setCell ⟨g, i * 2 + 1, none⟩ (.int .i64 e.2)) := by
  have h3 := ((h.stored (i * 2) (.int .i64 e.1)).1.stored (i * 2 + 1) (.int .i64 e.2)).1
  rw [flatE_set H i e hi] at h3
  refine ⟨?_, turn_set (turn_set (Turn.refl (fun j => j = g) _) (p := ⟨g, i * 2, none⟩) (Or.inl rfl) _) (p := ⟨g, i * 2 + 1, none⟩) (Or.inl rfl) _⟩
  unfold RowI
  rw [List.length_set]
  exact h3
/-- Two are changed for each other. -/
theorem rowI_swap (h : RowI w g cap H) {i j : Nat} (hi : i < H.length) (hj : j < H.length) :
    RowI ((((w.setCell ⟨g, i * 2, none⟩ (.int .i64 (atE H j).1)).setCell ⟨g, i * 2 + 1, none⟩ (.int .i64 (atE H j).2)).setCell ⟨g, j * 2, none⟩ (.int .i64 (atE H i).1)).setCell ⟨g, j * 2 + 1, none⟩ (.int .i64 (atE H i).2)) g cap (swE H i j) ∧
      Turn (fun k => k = g) w ((((w.setCell ⟨g, i * 2, none⟩ (.int .i64 (atE H j).1)).setCell ⟨g, i * 2 + 1, none⟩ (.int .i64 (atE H j).2)).setCell ⟨g, j * 2, none⟩ (.int .i64 (atE H i).1)).setCell ⟨g, j * 2 + 1, none⟩ (.int .i64 (atE H i).2)) := by
  obtain ⟨r1, t1⟩ := rowI_put h hi (atE H j)
  obtain ⟨r2, t2⟩ := rowI_put r1 (i := j) (by rw [List.length_set]; exact hj) (atE H i)
  exact ⟨r2, t1.trans t2 (fun k q => Or.inl q)⟩
/-- The last one wiped, the row one shorter. -/
theorem rowI_less (h : RowI w g cap H) (h0 : 0 < H.length) (a b : Value) :
    RowI ((w.setCell ⟨g, (H.length - 1) * 2, none⟩ a).setCell ⟨g, (H.length - 1) * 2 + 1, none⟩ b) g cap (H.take (H.length - 1)) ∧
      Turn (fun j => j = g) w ((w.setCell ⟨g, (H.length - 1) * 2, none⟩ a).setCell ⟨g, (H.length - 1) * 2 + 1, none⟩ b) := by
  have h3 := ((h.stored ((H.length - 1) * 2) a).1.stored ((H.length - 1) * 2 + 1) b).1
  refine ⟨?_, turn_set (turn_set (Turn.refl (fun j => j = g) _) (p := ⟨g, (H.length - 1) * 2, none⟩) (Or.inl rfl) _) (p := ⟨g, (H.length - 1) * 2 + 1, none⟩) (Or.inl rfl) _⟩
  have hlen : (H.take (H.length - 1)).length = H.length - 1 := by rw [List.length_take]; omega
  unfold RowI
  rw [hlen]
  generalize (w.setCell ⟨g, (H.length - 1) * 2, none⟩ a).setCell ⟨g, (H.length - 1) * 2 + 1, none⟩ b = W at *
  refine ⟨by rw [flatE_len, hlen], ?_⟩
  rcases h3.2 with ⟨q, _⟩ | ⟨g', cap', cur, q, q1, q2, q3, q4, q5, q6⟩
  · cases q
  · cases q
    refine Or.inr ⟨g, cap, cur, rfl, q1, q2, by omega, q4, q5, ?_⟩
    have e : cur.toList.take ((H.length - 1) * 2) = (((H.flatMap cellsE).set ((H.length - 1) * 2) a).set ((H.length - 1) * 2 + 1) b).take ((H.length - 1) * 2) := by rw [← q6, List.take_take, Nat.min_eq_left (by omega)]
    rw [← flatE_take, e, List.take_set_of_le (by omega), List.take_set_of_le (by omega)]
end
/-- 'clear' of the last one. -/
theorem clearI_last (w : World) (g cap cap2 : Nat) (H : List En) (h : RowI w g cap H) (h0 : 0 < H.length) (ty : TypeId) :
    (Builtin.clear_ #[107] ty #[.slice (some ⟨g, (H.length - 1) * 2, none⟩) 1 cap2]).run Tryz.prog w = .ok (.tuple #[]) ((w.setCell ⟨g, (H.length - 1) * 2, none⟩ (.int .i64 0)).setCell ⟨g, (H.length - 1) * 2 + 1, none⟩ (.int .i64 0)) := by
  have ht : Tryz.prog.underlying 107 = some (.slice 118) := Tryz.underlying107
  have hv : ∀ w, (zeroValue 118).run Tryz.prog w = .ok (.agg #[.int .i64 0, .int .i64 0]) w := fun w => by kernel_rfl
  have hzc : (Builtin.zeroCells (Value.agg #[.int .i64 0, .int .i64 0]).cells 1).toList = [.int .i64 0, .int .i64 0] := by simp [Builtin.zeroCells, Value.cells]; rfl
  have hst := run_storeCells_cells (P := Tryz.prog) g ((H.length - 1) * 2) [.int .i64 0, .int .i64 0] 0 w (fun j hj => by
      have hj' : j < 2 := hj
      rw [Nat.add_zero, h.cellAt _ (by omega), flatE_at H (H.length - 1) j (by omega) hj']
      have : j = 0 ∨ j = 1 := by omega
      rcases this with rfl | rfl <;> rfl) (fun j hj => h.frozenAt _) (by intro u hu; simp at hu; subst hu; rfl)
  simp only [Nat.add_zero] at hst
  simp [Builtin.clear_, run_underlying ht, hv, hzc, hst]
  rfl
/- What the landed pile's New, isMade and Len answer, at numbers. The conditions: the pile's blocks. -/
theorem fnI_under : Tryz.prog.underlying 48 = some (.func #[3, 3] #[4] false) := by kernel_rfl
theorem inI_fn (d : Nat) (fn : Fn) (a c : Array Value) (w : World) : (Op.equalIn (d + 1) 48 (.func fn a c) .nilFunc).run Tryz.prog w = .ok false w := by
  simp [Op.equalIn, run_underlying fnI_under]
theorem eqlI_fn (fn : Fn) (a c : Array Value) (w : World) : (binOp .eql 48 (.func fn a c) .nilFunc).run Tryz.prog w = .ok (.bool false) w := by
  simp only [binOp]
  simp [Op.equal, Op.maxDepth, inI_fn 9999]
theorem neqI_fn (fn : Fn) (a c : Array Value) (w : World) : (binOp .neq 48 (.func fn a c) .nilFunc).run Tryz.prog w = .ok (.bool true) w := by
  simp only [binOp]
  simp [Op.equal, Op.maxDepth, inI_fn 9999]
theorem made_i {w : World} {B b : Nat} (c0 : w.cell? ⟨B, 0, none⟩ = some (CalmI b)) : Calls Tryz.prog 73 #[.pointer (some ⟨B, 0, none⟩)] w fun e w' => e = .returned (.bool true) ∧ w' = w := by
  have he := neqI_fn
  go_enter Tryz.func73, Tryz.ntmps73
  go_wp2_with fail
  go_ret
  exact ⟨rfl, rfl⟩
theorem len_i {w : World} {B b : Nat} {H : List En} {p : Int} {v : Value} (h : PiH w B H p b v) : Calls Tryz.prog 75 #[.pointer (some ⟨B, 0, none⟩)] w fun e w' => e = .returned (.int .i64 (H.length : Int)) ∧ w' = w := by
  obtain ⟨a, c, rfl⟩ := h.form
  have c0 := h.c0
  have c1 := h.c1
  clear h
  go_enter Tryz.func75, Tryz.ntmps75
  go_wp2_with fail
  refine (made_i c0).mono ?_; rintro e w1 ⟨rfl, rfl⟩
  go_wp2_with fail
  go_ret
  exact ⟨rfl, rfl⟩
theorem new_i (w : World) : Calls Tryz.prog 55 #[LessI] w fun e w' => ∃ B b, e = .returned (.pointer (some ⟨B, 0, none⟩)) ∧ PiH w' B [] 0 b (.slice none 0 0) ∧ Below w.heap.size w w' ∧ ∀ j, PiF B b (.slice none 0 0) j → w.heap.size ≤ j := by
  have hmf : ∀ (fn : Fn) (first cap : Array Value) (w : World), (Instr.makeFunc fn first cap).run Tryz.prog w = .ok (.func fn first cap) w := fun _ _ _ _ => rfl
  have hcm : Calls Tryz.prog 71 #[LessI] w fun e w' => e = .returned (CalmI w.heap.size) ∧ w' = w.alloc (.cells #[LessI] 48) := by
    go_enter Tryz.func71, Tryz.ntmps71
    go_wp2_with fail
    go_ret
    exact ⟨rfl, rfl⟩
  have he := eqlI_fn
  have hT := PiH.made w 48 109
  go_enter Tryz.func55, Tryz.ntmps55
  go_wp2_with fail
  refine hcm.mono ?_; rintro e w1 ⟨rfl, rfl⟩
  go_wp2_with fail
  go_ret
  refine ⟨w.heap.size + 1, w.heap.size, by simp, hT, (below1 w _).alloc (by simp) _, ?_⟩
  rintro j (rfl | rfl | q)
  · omega
  · exact Nat.le_refl _
  · cases q
/- What the landed pile's rise answers. The conditions: the pile's blocks, a heap but for its last one. -/
theorem turn_belowI {F : Nat → Prop} {w w1 w2 : World} (t : Turn F w w1) (hb : Below w1.heap.size w1 w2) : Turn F w w2 := t.trans (Turn.of_below hb (F := fun _ => False)) (fun j q => q.elim)
/-- Two have changed places: the pile is there. -/
theorem swappedI {w wr w1 w2 : World} {B b g cap : Nat} {H H' H2 : List En} {p : Int} (HT : PiH wr B H' p b (.slice (some ⟨g, 0, none⟩) H.length cap)) (hl : H'.length = H.length) (h2 : H2.length = H.length) (hb : Below wr.heap.size wr w1) (r : RowI w2 g cap H2 ∧ Turn (fun k => k = g) w1 w2) (ht : Turn (fun k => k = g) w wr) :
    PiH w2.drew B H2 p b (.slice (some ⟨g, 0, none⟩) H.length cap) ∧ Turn (fun k => k = g) w w2.drew := by
  obtain ⟨r1, t1⟩ := r
  have hT := HT.below hb
  refine ⟨(hT.rerow (by rw [h2, hl]) (by have := r1; unfold RowI at this; rw [h2] at this; rw [h2]; exact this) (t1.mono (fun j q => by subst q; rfl))).drew, ?_⟩
  have t2 := (turn_belowI ht hb).trans t1 (fun j q => Or.inl q)
  exact ⟨t2.os, t2.tape, t2.output, t2.size, t2.block⟩
/-- What holds at the head of rise's loop. -/
structure RiseP (w : World) (B b g cap : Nat) (H : List En) (p : Int) (i : Value) (wr : World) : Prop where
  out : ∃ (a : Nat) (H' : List En), i = .int .i64 (a : Int) ∧ a < H.length ∧ H'.length = H.length ∧ H'.Perm H ∧ RisE H' a ∧ PiH wr B H' p b (.slice (some ⟨g, 0, none⟩) H.length cap) ∧ Turn (fun j => j = g) w wr
theorem half_upI (a : Nat) (h0 : 0 < a) (h : a ≤ 1000000) : wrap64 ((a : Int) - 1) = (a : Int) - 1 ∧ ((a : Int) - 1) / 2 = (((a - 1) / 2 : Nat) : Int) := by
  unfold wrap64; omega

set_option maxHeartbeats 4000000 in
set_option maxRecDepth 100000 in
theorem rise_i {w : World} {B b g cap : Nat} {H : List En} {p : Int} (h : PiH w B H p b (.slice (some ⟨g, 0, none⟩) H.length cap)) (h0 : 0 < H.length) (hr : RisE H (H.length - 1)) (hl : H.length ≤ 1000000) :
    Calls Tryz.prog 85 #[.pointer (some ⟨B, 0, none⟩), .slice (some ⟨g, 0, none⟩) H.length cap] w fun e w' => e = .returned (.tuple #[]) ∧
      ∃ H', H'.Perm H ∧ HeapE H' ∧ PiH w' B H' p b (.slice (some ⟨g, 0, none⟩) H.length cap) ∧ Turn (fun j => j = g) w w' := by
  have HH := Lib.hid h; have HR := Lib.hid hr
  have e0 : wrap64 ((H.length : Int) - 1) = ((H.length - 1 : Nat) : Int) := by unfold wrap64; omega
  clear h hr
  go_enter Tryz.func85, Tryz.ntmps85
  go_wp2_with fail
  have H0 : Hid (RiseP w B b g cap H p (.int .i64 ((H.length : Int) - 1)) w) := ⟨⟨H.length - 1, H, congrArg (Value.int .i64) (by omega), by omega, rfl, List.Perm.refl _, HR.out, HH.out, Turn.refl _ _⟩⟩
  go_loopw [4] (fun i wr => RiseP w B b g cap H p i wr) (fun i _ => (intOf i).toNat)
  case atStart => exact H0.out
  case round =>
    clear H0 HH HR
    obtain ⟨a, H', rfl, ha, hlen, hpm, hri, hT, ht⟩ := hrel.out
    clear hrel
    rcases Nat.eq_zero_or_pos a with rfl | hpos
    · have d1 : decide (0 < ((0 : Nat) : Int)) = false := decide_eq_false (by omega)
      have HP := Lib.hid hpm; have HI := Lib.hid (riseE_top hri); have HT := Lib.hid hT; have HW := Lib.hid ht
      clear hpm hri hT ht hlen
      go_wp2_with fail
      go_end0
      exact ⟨rfl, H', HP.out, HI.out, HT.out, HW.out⟩
    · have d1 : decide (0 < (a : Int)) = true := decide_eq_true (by omega)
      obtain ⟨e1, e2⟩ := half_upI a hpos (by omega)
      have hq : (a - 1) / 2 < a := by omega
      have hrs := fun q => riseE_step hri hpos (by omega) q
      have hrd := fun q => riseE_done hri q
      generalize hqq : (a - 1) / 2 = q at *
      have hrow : RowI wr g cap H' := by have := hT.row; rw [hlen] at this; unfold RowI; rw [hlen]; exact this
      obtain ⟨x0, x1⟩ := rowI_at hrow (i := a) (by omega)
      obtain ⟨y0, y1⟩ := rowI_at hrow (i := q) (by omega)
      have i0 : (0 : Int) ≤ (a : Int) := by omega
      have i1 : (a : Int) < (H.length : Int) := by omega
      have j0 : (0 : Int) ≤ (q : Int) := by omega
      have j1 : (q : Int) < (H.length : Int) := by omega
      have hah := ahead_i (w := wr.drew) hT.c0 hT.l0 (atE H' a) (atE H' q)
      unfold encE at hah
      have hsw := fun W (hW : RowI W g cap H') => rowI_swap hW (i := a) (j := q) (by omega) (by omega)
      have hat := fun W (hW : RowI W g cap H') => And.intro (rowI_at hW (i := a) (by omega)) (rowI_at hW (i := q) (by omega))
      have hs2 : (swE H' a q).length = H.length := by rw [swE_len, hlen]
      have hs3 : (swE H' a q).Perm H := (swE_perm (by omega) (by omega)).trans hpm
      generalize atE H' a = s at *
      generalize atE H' q = t at *
      generalize swE H' a q = H2 at *
      have HRS := Lib.hid hrs; have HRD := Lib.hid hrd; have HP := Lib.hid hpm; have HT := Lib.hid hT; have HW := Lib.hid ht; have HL := Lib.hid hlen; have HROW := Lib.hid hrow; have HSW := Lib.hid hsw; have HAT := Lib.hid hat; have HS2 := Lib.hid hs2; have HS3 := Lib.hid hs3
      clear hri hrs hrd hpm hT ht hlen hrow hsw hat hs2 hs3
      go_wp2_with fail
      go_region_held3 (fun wz => wz.cell? ⟨g, a * 2, none⟩ = some (.int .i64 s.1) ∧ wz.cell? ⟨g, a * 2 + 1, none⟩ = some (.int .i64 s.2) ∧ wz.cell? ⟨g, q * 2, none⟩ = some (.int .i64 t.1) ∧ wz.cell? ⟨g, q * 2 + 1, none⟩ = some (.int .i64 t.2))
        (first | (exact ⟨x0, x1, y0, y1⟩) | (exact ⟨p0, p1, q0, q1⟩))
        (first
          | (go_at_call 91; refine hah.mono ?_; rintro e w1 ⟨rfl, hb1⟩
             have hb9 : Below wr.heap.size wr w1 := (Below.refl wr.heap.size wr).drew.trans hb1
             obtain ⟨⟨p0, p1⟩, ⟨q0, q1⟩⟩ := HAT.out w1 (ownsRow_below HROW.out hb9)))
      by_cases hs : ahE s t
      · have d2 : decide (ahE s t) = true := decide_eq_true hs
        rw [d2]
        have HT1 := Lib.hid (HT.out.below hb9)
        have HR1 := Lib.hid (ownsRow_below HROW.out hb9)
        have z0 : ∀ i, w1.frozen? ⟨g, i, none⟩ = false := fun i => HR1.out.frozenAt i
        clear x0 x1 y0 y1 hah hb1
        go_wp2_with fail
        go_region
        obtain ⟨hE, hE2⟩ := swappedI HT.out HL.out HS2.out hb9 (HSW.out w1 HR1.out) HW.out
        have HE := Lib.hid hE; have HE2 := Lib.hid hE2
        clear hE hE2
        go_wp2_with fail
        go_roundw
        · exact ⟨⟨q, H2, rfl, by omega, HS2.out, HS3.out, HRS.out hs, HE.out, HE2.out⟩⟩
        · simp [intOf]; omega
      · have d2 : decide (ahE s t) = false := decide_eq_false hs
        rw [d2]
        clear x0 x1 y0 y1 hah hb1
        go_wp2_with fail
        exact bodyPost_ret (v := .tuple #[]) (by simp [results, Tryz.results85, go_sem]) rfl ⟨rfl, H', HP.out, HRD.out hs, HT.out.below hb9, turn_belowI HW.out hb9⟩
/- What the landed pile's sink answers. The conditions: the pile's blocks, a heap but for what stands below its first one. -/
theorem ahE_trans {e f g : En} (h : ahE e f) (k : ahE f g) : ahE e g := by unfold ahE at *; omega
/-- What holds at the head of sink's loop. -/
structure SinkP (w : World) (B b g cap : Nat) (H : List En) (p : Int) (i : Value) (wr : World) : Prop where
  out : ∃ (a : Nat) (H' : List En), i = .int .i64 (a : Int) ∧ (a = 0 ∨ a < H.length) ∧ H'.length = H.length ∧ H'.Perm H ∧ SinE H' a ∧ PiH wr B H' p b (.slice (some ⟨g, 0, none⟩) H.length cap) ∧ Turn (fun j => j = g) w wr
/-- What holds at the head of the loop in it. -/
structure SinkJ (wr : World) (H' : List En) (a : Nat) (fv jv : Value) (wy : World) : Prop where
  out : ∃ f j : Nat, fv = .int .i64 (f : Int) ∧ jv = .int .i64 (j : Int) ∧ 2 * a + 1 ≤ j ∧ j ≤ 2 * a + 3 ∧ (f = a ∨ (2 * a + 1 ≤ f ∧ f ≤ 2 * a + 2 ∧ f < H'.length ∧ ahE (atE H' f) (atE H' a))) ∧ (∀ i, 2 * a + 1 ≤ i → i < j → i < H'.length → ¬ ahE (atE H' i) (atE H' f)) ∧ Below wr.heap.size wr wy
theorem twice_up (a : Nat) (h : a ≤ 1000000) : wrap64 (2 * (a : Int)) = 2 * (a : Int) ∧ wrap64 (2 * (a : Int) + 1) = 2 * (a : Int) + 1 ∧ wrap64 (2 * (a : Int) + 2) = 2 * (a : Int) + 2 := by unfold wrap64; omega
theorem one_upI (a : Nat) (h : a ≤ 10000000) : wrap64 ((a : Int) + 1) = (a : Int) + 1 := by unfold wrap64; omega

set_option maxHeartbeats 8000000 in
set_option maxRecDepth 100000 in
theorem sink_i {w : World} {B b g cap : Nat} {H : List En} {p : Int} (h : PiH w B H p b (.slice (some ⟨g, 0, none⟩) H.length cap)) (hr : SinE H 0) (hl : H.length ≤ 1000000) :
    Calls Tryz.prog 86 #[.pointer (some ⟨B, 0, none⟩), .slice (some ⟨g, 0, none⟩) H.length cap] w fun e w' => e = .returned (.tuple #[]) ∧
      ∃ H', H'.Perm H ∧ HeapE H' ∧ PiH w' B H' p b (.slice (some ⟨g, 0, none⟩) H.length cap) ∧ Turn (fun j => j = g) w w' := by
  have HH := Lib.hid h; have HR := Lib.hid hr
  clear h hr
  go_enter Tryz.func86, Tryz.ntmps86
  go_wp2_with fail
  have H0 : Hid (SinkP w B b g cap H p (.int .i64 0) w) := ⟨⟨0, H, rfl, Or.inl rfl, rfl, List.Perm.refl _, HR.out, HH.out, Turn.refl _ _⟩⟩
  go_loopw [4] (fun i wr => SinkP w B b g cap H p i wr) (fun i _ => H.length - (intOf i).toNat)
  case atStart => exact H0.out
  case round =>
    clear H0 HH HR
    obtain ⟨a, H', rfl, ha, hlen, hpm, hsi, hT, ht⟩ := hrel.out
    clear hrel
    obtain ⟨e1, e2, e3⟩ := twice_up a (by omega)
    have HP := Lib.hid hpm; have HI := Lib.hid hsi; have HT := Lib.hid hT; have HW := Lib.hid ht; have HL := Lib.hid hlen; have HA := Lib.hid ha
    have HROW := Lib.hid (show RowI wr g cap H' by have := hT.row; rw [hlen] at this; unfold RowI; rw [hlen]; exact this)
    clear hpm hsi hT ht hlen ha
    go_wp2_with fail
    simp only [e1, e2]
    generalize wr = wo at *
    have J0 : Hid (SinkJ wo H' a (.int .i64 (a : Int)) (.int .i64 (2 * (a : Int) + 1)) wo) := ⟨⟨a, 2 * a + 1, rfl, congrArg (Value.int .i64) (by omega), by omega, by omega, Or.inl rfl, fun i h1 h2 => absurd h2 (by omega), Below.refl _ _⟩⟩
    go_loopw [5, 6] (fun f j wy => SinkJ wo H' a f j wy) (fun f j _ => 2 * a + 3 - (intOf j).toNat)
    case atStart => exact J0.out
    case round =>
      clear J0
      obtain ⟨f, j, rfl, rfl, j1, j2, hf, hall, hb⟩ := hrel.out
      clear hrel
      by_cases hin : j ≤ 2 * a + 2 ∧ j < H.length
      · have d1 : decide ((j : Int) ≤ 2 * (a : Int) + 2) = true := decide_eq_true (by omega)
        have d2 : decide ((j : Int) < (H.length : Int)) = true := decide_eq_true (by omega)
        have hll := HL.out
        have hfl : f < H.length := by rcases hf with q | q <;> omega
        have e4 := one_upI j (by omega)
        have i0 : (0 : Int) ≤ (j : Int) := by omega
        have i1 : (j : Int) < (H.length : Int) := by omega
        have k0 : (0 : Int) ≤ (f : Int) := by omega
        have k1 : (f : Int) < (H.length : Int) := by omega
        have hat := fun W (hW : RowI W g cap H') => And.intro (rowI_at hW (i := j) (by omega)) (rowI_at hW (i := f) (by omega))
        obtain ⟨⟨x0, x1⟩, ⟨y0, y1⟩⟩ := hat wr (ownsRow_below HROW.out hb)
        have hT := HT.out.below hb
        have hah := ahead_i (w := wr.drew) hT.c0 hT.l0 (atE H' j) (atE H' f)
        unfold encE at hah
        have hyes : ahE (atE H' j) (atE H' f) → (j = a ∨ (2 * a + 1 ≤ j ∧ j ≤ 2 * a + 2 ∧ j < H'.length ∧ ahE (atE H' j) (atE H' a))) ∧ (∀ i, 2 * a + 1 ≤ i → i < j + 1 → i < H'.length → ¬ ahE (atE H' i) (atE H' j)) := fun hs => by
          refine ⟨Or.inr ⟨j1, hin.1, by omega, ?_⟩, fun i h1 h2 h3 => ?_⟩
          · rcases hf with q | q
            · rw [← q]; exact hs
            · exact ahE_trans hs q.2.2.2
          · rcases Nat.lt_or_ge i j with q | q
            · exact nahE_trans (hall i h1 q h3) (ahE_asym hs)
            · obtain rfl : i = j := by omega
              exact ahE_irr _
        have hno : ¬ ahE (atE H' j) (atE H' f) → ∀ i, 2 * a + 1 ≤ i → i < j + 1 → i < H'.length → ¬ ahE (atE H' i) (atE H' f) := fun hs i h1 h2 h3 => by
          rcases Nat.lt_or_ge i j with q | q
          · exact hall i h1 q h3
          · obtain rfl : i = j := by omega
            exact hs
        have HY := Lib.hid hyes; have HN := Lib.hid hno; have HF := Lib.hid hf; have HAT := Lib.hid hat; have HIN := Lib.hid hin; have HJ := Lib.hid (And.intro j1 j2)
        clear hyes hno hf hall hat hT hin j1 j2 hll hfl
        generalize hs : atE H' j = s at *
        generalize htt : atE H' f = t at *
        go_wp2_with fail
        go_region_held3 (fun wz => wz.cell? ⟨g, j * 2, none⟩ = some (.int .i64 s.1) ∧ wz.cell? ⟨g, j * 2 + 1, none⟩ = some (.int .i64 s.2) ∧ wz.cell? ⟨g, f * 2, none⟩ = some (.int .i64 t.1) ∧ wz.cell? ⟨g, f * 2 + 1, none⟩ = some (.int .i64 t.2))
          (first | (exact ⟨x0, x1, y0, y1⟩) | (exact ⟨p0, p1, q0, q1⟩))
          (first
            | (go_at_call 91; refine hah.mono ?_; rintro e w1 ⟨rfl, hb1⟩
               have hb9 : Below wo.heap.size wo w1 := hb.trans (((Below.refl wr.heap.size wr).drew.trans hb1).mono hb.size)
               obtain ⟨⟨p0, p1⟩, ⟨q0, q1⟩⟩ := HAT.out w1 (ownsRow_below HROW.out hb9)))
        clear x0 x1 y0 y1 hah hb1
        by_cases hst : ahE s t
        · have d3 : decide (ahE s t) = true := decide_eq_true hst
          rw [d3]
          go_wp2_with fail
          go_roundw
          · exact ⟨⟨j, j + 1, rfl, by go_num, by have := HJ.out; omega, by have := HIN.out; omega, by rw [hs]; exact (HY.out hst).1, by rw [hs]; exact (HY.out hst).2, hb9⟩⟩
          · have := HIN.out; simp [intOf]; omega
        · have d3 : decide (ahE s t) = false := decide_eq_false hst
          rw [d3]
          go_wp2_with fail
          go_roundw
          · exact ⟨⟨f, j + 1, rfl, by go_num, by have := HJ.out; omega, by have := HIN.out; omega, by rw [htt]; exact HF.out, by rw [htt]; exact HN.out hst, hb9⟩⟩
          · have := HIN.out; simp [intOf]; omega
      · have hdone : ∀ i, 2 * a + 1 ≤ i → i ≤ 2 * a + 2 → i < H'.length → ¬ ahE (atE H' i) (atE H' f) := fun i h1 h2 h3 => hall i h1 (by have := HL.out; omega) h3
        by_cases h2 : j ≤ 2 * a + 2
        · have d1 : decide ((j : Int) ≤ 2 * (a : Int) + 2) = true := decide_eq_true (by omega)
          have d2 : decide ((j : Int) < (H.length : Int)) = false := decide_eq_false (by omega)
          have hll := HL.out
          by_cases hfa : f = a
          · subst hfa
            have d3 : ((f : Int) == (f : Int)) = true := beq_self_eq_true _
            have HH := Lib.hid (sinkE_done HI.out (fun i h1 h2 h3 => hdone i (by omega) (by omega) h2))
            have HB := Lib.hid hb
            clear hf hall hb hdone
            go_wp2_with fail
            exact bodyPost_ret (v := .tuple #[]) (by simp [results, Tryz.results86, go_sem]) rfl ⟨rfl, H', HP.out, HH.out, HT.out.below HB.out, turn_belowI HW.out HB.out⟩
          · have d3 : ((f : Int) == (a : Int)) = false := beq_eq_false_iff_ne.mpr (by omega)
            obtain ⟨f1, f2, f3, f4⟩ := hf.resolve_left hfa
            have hal : a < H'.length := by have := HA.out; omega
            have hfp : (f - 1) / 2 = a := by omega
            have hss := sinkE_step HI.out (f := f) (by omega) f3 hfp f4 (fun i h1 h2 h3 => hdone i (by omega) (by omega) h2)
            have hat := fun W (hW : RowI W g cap H') => And.intro (rowI_at hW (i := a) (by omega)) (rowI_at hW (i := f) (by omega))
            have hsw := fun W (hW : RowI W g cap H') => rowI_swap hW (i := a) (j := f) (by omega) (by omega)
            have hs2 : (swE H' a f).length = H.length := by rw [swE_len, hll]
            have hs3 : (swE H' a f).Perm H := (swE_perm (by omega) (by omega)).trans HP.out
            have HR1 := Lib.hid (ownsRow_below HROW.out hb)
            obtain ⟨⟨x0, x1⟩, ⟨y0, y1⟩⟩ := hat wr HR1.out
            have z0 : ∀ i, wr.frozen? ⟨g, i, none⟩ = false := fun i => HR1.out.frozenAt i
            have i0 : (0 : Int) ≤ (a : Int) := by omega
            have i1 : (a : Int) < (H.length : Int) := by omega
            have k0 : (0 : Int) ≤ (f : Int) := by omega
            have k1 : (f : Int) < (H.length : Int) := by omega
            have HFL := Lib.hid (show f < H.length ∧ a < f from ⟨by omega, by omega⟩)
            generalize atE H' a = s at *
            generalize atE H' f = t at *
            generalize swE H' a f = H2 at *
            have HSS := Lib.hid hss; have HSW := Lib.hid hsw; have HB := Lib.hid hb; have HS2 := Lib.hid hs2; have HS3 := Lib.hid hs3
            clear hf hall hb hdone hss hat hsw hs2 hs3 f1 f2 f3 f4 hfp hal hll
            go_wp2_with fail
            go_region
            obtain ⟨hE, hE2⟩ := swappedI HT.out HL.out HS2.out HB.out (HSW.out wr HR1.out) HW.out
            have HE := Lib.hid hE; have HE2 := Lib.hid hE2
            clear hE hE2
            go_wp2_with fail
            go_roundw
            · exact ⟨⟨f, H2, rfl, Or.inr HFL.out.1, HS2.out, HS3.out, HSS.out, HE.out, HE2.out⟩⟩
            · have := HFL.out; simp [intOf]; omega
        · have d1 : decide ((j : Int) ≤ 2 * (a : Int) + 2) = false := decide_eq_false (by omega)
          have hll := HL.out
          by_cases hfa : f = a
          · subst hfa
            have d3 : ((f : Int) == (f : Int)) = true := beq_self_eq_true _
            have HH := Lib.hid (sinkE_done HI.out (fun i h1 h2 h3 => hdone i (by omega) (by omega) h2))
            have HB := Lib.hid hb
            clear hf hall hb hdone
            go_wp2_with fail
            exact bodyPost_ret (v := .tuple #[]) (by simp [results, Tryz.results86, go_sem]) rfl ⟨rfl, H', HP.out, HH.out, HT.out.below HB.out, turn_belowI HW.out HB.out⟩
          · have d3 : ((f : Int) == (a : Int)) = false := beq_eq_false_iff_ne.mpr (by omega)
            obtain ⟨f1, f2, f3, f4⟩ := hf.resolve_left hfa
            have hal : a < H'.length := by have := HA.out; omega
            have hfp : (f - 1) / 2 = a := by omega
            have hss := sinkE_step HI.out (f := f) (by omega) f3 hfp f4 (fun i h1 h2 h3 => hdone i (by omega) (by omega) h2)
            have hat := fun W (hW : RowI W g cap H') => And.intro (rowI_at hW (i := a) (by omega)) (rowI_at hW (i := f) (by omega))
            have hsw := fun W (hW : RowI W g cap H') => rowI_swap hW (i := a) (j := f) (by omega) (by omega)
            have hs2 : (swE H' a f).length = H.length := by rw [swE_len, hll]
            have hs3 : (swE H' a f).Perm H := (swE_perm (by omega) (by omega)).trans HP.out
            have HR1 := Lib.hid (ownsRow_below HROW.out hb)
            obtain ⟨⟨x0, x1⟩, ⟨y0, y1⟩⟩ := hat wr HR1.out
            have z0 : ∀ i, wr.frozen? ⟨g, i, none⟩ = false := fun i => HR1.out.frozenAt i
            have i0 : (0 : Int) ≤ (a : Int) := by omega
            have i1 : (a : Int) < (H.length : Int) := by omega
            have k0 : (0 : Int) ≤ (f : Int) := by omega
            have k1 : (f : Int) < (H.length : Int) := by omega
            have HFL := Lib.hid (show f < H.length ∧ a < f from ⟨by omega, by omega⟩)
            generalize atE H' a = s at *
            generalize atE H' f = t at *
            generalize swE H' a f = H2 at *
            have HSS := Lib.hid hss; have HSW := Lib.hid hsw; have HB := Lib.hid hb; have HS2 := Lib.hid hs2; have HS3 := Lib.hid hs3
            clear hf hall hb hdone hss hat hsw hs2 hs3 f1 f2 f3 f4 hfp hal hll
            go_wp2_with fail
            go_region
            obtain ⟨hE, hE2⟩ := swappedI HT.out HL.out HS2.out HB.out (HSW.out wr HR1.out) HW.out
            have HE := Lib.hid hE; have HE2 := Lib.hid hE2
            clear hE hE2
            go_wp2_with fail
            go_roundw
            · exact ⟨⟨f, H2, rfl, Or.inr HFL.out.1, HS2.out, HS3.out, HSS.out, HE.out, HE2.out⟩⟩
            · have := HFL.out; simp [intOf]; omega
/- What the landed pile's put answers. The conditions: the pile's blocks, a heap, how many were pushed. -/
theorem entI_info : (Tryz.prog.info? 118).map (fun i => (i.zero, i.size, i.bytes)) = some (some (.agg #[.int .i64 0, .int .i64 0]), 2, 16) := by kernel_rfl
theorem ownI_some {w : World} {base : Nat} {e : TypeId} {size n : Nat} {v : Value} {xs : List Value} (h : w.ownsRow base e size v n xs) (h0 : 0 < n) : ∃ g cap, v = .slice (some ⟨g, 0, none⟩) n cap := by
  rcases h.2 with ⟨_, q⟩ | ⟨g, cap, cur, q, _⟩
  · omega
  · exact ⟨g, cap, q⟩
set_option maxHeartbeats 4000000 in
set_option maxRecDepth 100000 in
theorem put_i {w : World} {B b : Nat} {H : List En} {p q : Int} {v : Value} (x : Int) (h : PiH w B H p b v) (hh : HeapE H) (hl : H.length < 1000000) (hq : wrap64 (p + 1) = q) :
    Calls Tryz.prog 74 #[.pointer (some ⟨B, 0, none⟩), .int .i64 x] w fun e w' => e = .returned (.tuple #[]) ∧
      ∃ H' v', H'.Perm (H ++ [(x, p)]) ∧ HeapE H' ∧ PiH w' B H' q b v' ∧ Turn (PiF B b v) w w' ∧ ∀ j, PiF B b v' j → PiF B b v j ∨ w.heap.size ≤ j := by
  obtain ⟨a, c, rfl⟩ := h.form
  have hfo := h.foot
  have hq2 : IntKind.i64.wrap (p + 1) = q := by rw [← hq]; unfold wrap64; exact IntKind.wrap_i64 _
  have c1 := h.c1
  have c2 := h.c2
  have z1 := h.z1
  have hrs := riseE_start hh (x, p)
  have HRS := Lib.hid hrs
  have H0 := Lib.hid h; have HFO := Lib.hid hfo
  have hfB : B < w.heap.size := hfo B (Or.inl rfl)
  have hfb : b < w.heap.size := hfo b (Or.inr (Or.inl rfl))
  clear h hfo hh hrs
  have S4 : Hid (∀ wz, Turn (fun j => (Value.slice a H.length c).ownBlock = some j) w wz → wz.cell? ⟨B, 2, none⟩ = some (.int .i64 p)) := by
    intro wz q
    exact (q.cell (a := ⟨B, 2, none⟩) H0.out.lt H0.out.h2).trans c2
  have S5 : Hid (∀ wz u, Turn (fun j => (Value.slice a H.length c).ownBlock = some j) w wz → (wz.setCell ⟨B, 1, none⟩ u).cell? ⟨B, 2, none⟩ = some (.int .i64 p)) := by
    intro wz u q
    exact (World.cell?_setCell_other _ _ _ _ (fun r => by cases r)).trans (S4.out wz q)
  have x1 : (w.alloc (.cells #[.int .i64 x, .int .i64 p] 118)).cell? ⟨B, 1, none⟩ = some (.slice a H.length c) := ((below1 w _).cell (p := ⟨B, 1, none⟩) H0.out.lt).trans c1
  go_enter Tryz.func74, Tryz.ntmps74
  go_wp2_with fail
  refine wp_region_held_drew (S := (fun wz => wz.cell? ⟨B, 2, none⟩ = some (.int .i64 p))) (by kernel_rfl) ((c2)) (fun hHeld => ?_)
  refine wpAnyH_take (i := 0) (v := ?_) rfl (by kernel_rfl) (by kernel_rfl) (by kernel_rfl) (fun _ _ _ h => h) (Or.inl ⟨by rfl, ?y0⟩) (by assumption) ?_
  case y0 => intro w hSw; (try dsimp only at hSw); go_simp; (try with_reducible rfl)
  (try simp only [Act.put, List.setIfInBounds_toArray, List.set_cons_zero, List.set_cons_succ, List.getElem_toArray, List.getElem_cons_zero, List.getElem_cons_succ])
  refine wpAnyH_take (i := 1) (v := ?_) rfl (by kernel_rfl) (by kernel_rfl) (by kernel_rfl) (fun _ _ _ h => h) (Or.inl ⟨by rfl, ?y1⟩) (by assumption) ?_
  case y1 => intro w hSw; (try dsimp only at hSw); go_simp; (try with_reducible rfl)
  (try simp only [Act.put, List.setIfInBounds_toArray, List.set_cons_zero, List.set_cons_succ, List.getElem_toArray, List.getElem_cons_zero, List.getElem_cons_succ])
  refine wpAnyH_take (i := 2) (v := ?_) rfl (by kernel_rfl) (by kernel_rfl) (by kernel_rfl) (fun _ _ _ h => h) (Or.inl ⟨by rfl, ?y2⟩) (by assumption) ?_
  case y2 => intro w hSw; (try dsimp only at hSw); go_simp; (try with_reducible rfl)
  (try simp only [Act.put, List.setIfInBounds_toArray, List.set_cons_zero, List.set_cons_succ, List.getElem_toArray, List.getElem_cons_zero, List.getElem_cons_succ])
  refine wpAnyH_take (i := 3) (v := ?_) rfl (by kernel_rfl) (by kernel_rfl) (by kernel_rfl) (fun _ _ _ h => h) (Or.inl ⟨by rfl, ?y3⟩) (by assumption) ?_
  case y3 => intro w hSw; (try dsimp only at hSw); go_simp; (try with_reducible rfl)
  (try simp only [Act.put, List.setIfInBounds_toArray, List.set_cons_zero, List.set_cons_succ, List.getElem_toArray, List.getElem_cons_zero, List.getElem_cons_succ])
  refine wpAnyH_take (i := 5) (v := ?_) rfl (by kernel_rfl) (by kernel_rfl) (by kernel_rfl) (fun _ _ _ h => h) (Or.inl ⟨by rfl, ?y5⟩) (by assumption) ?_
  case y5 => intro w hSw; (try dsimp only at hSw); go_simp; (try with_reducible rfl)
  (try simp only [Act.put, List.setIfInBounds_toArray, List.set_cons_zero, List.set_cons_succ, List.getElem_toArray, List.getElem_cons_zero, List.getElem_cons_succ])
  refine wpAnyH_take (i := 6) (v := ?_) rfl (by kernel_rfl) (by kernel_rfl) (by kernel_rfl) (fun _ _ _ h => h) (Or.inl ⟨by rfl, ?y6⟩) (by assumption) ?_
  case y6 => intro w hSw; (try dsimp only at hSw); go_simp; (try with_reducible rfl)
  (try simp only [Act.put, List.setIfInBounds_toArray, List.set_cons_zero, List.set_cons_succ, List.getElem_toArray, List.getElem_cons_zero, List.getElem_cons_succ])
  refine wpAnyH_take (i := 7) (v := ?_) rfl (by kernel_rfl) (by kernel_rfl) (by kernel_rfl) (fun _ _ _ h => h) (Or.inl ⟨by rfl, ?y7⟩) (by assumption) ?_
  case y7 => intro w hSw; (try dsimp only at hSw); go_simp; (try with_reducible rfl)
  (try simp only [Act.put, List.setIfInBounds_toArray, List.set_cons_zero, List.set_cons_succ, List.getElem_toArray, List.getElem_cons_zero, List.getElem_cons_succ])
  refine wpAnyH_take (i := 8) (v := ?_) rfl (by kernel_rfl) (by kernel_rfl) (by kernel_rfl) (fun _ _ _ h => h) (Or.inl ⟨by rfl, ?y8⟩) (by assumption) ?_
  case y8 => intro w hSw; (try dsimp only at hSw); go_simp; (try with_reducible rfl)
  (try simp only [Act.put, List.setIfInBounds_toArray, List.set_cons_zero, List.set_cons_succ, List.getElem_toArray, List.getElem_cons_zero, List.getElem_cons_succ])
  refine wpAnyH_take (i := 9) (v := ?_) rfl (by kernel_rfl) (by kernel_rfl) (by kernel_rfl) (fun _ _ _ h => h) (Or.inl ⟨by rfl, ?y9⟩) (by assumption) ?_
  case y9 => intro w hSw; (try dsimp only at hSw); go_simp; (try with_reducible rfl)
  (try simp only [Act.put, List.setIfInBounds_toArray, List.set_cons_zero, List.set_cons_succ, List.getElem_toArray, List.getElem_cons_zero, List.getElem_cons_succ])
  refine wpAnyH_take (i := 10) (v := ?_) rfl (by kernel_rfl) (by kernel_rfl) (by kernel_rfl) (fun _ _ _ h => h) (Or.inl ⟨by rfl, ?y10⟩) (by assumption) ?_
  case y10 => intro w hSw; (try dsimp only at hSw); go_simp; (try with_reducible rfl)
  (try simp only [Act.put, List.setIfInBounds_toArray, List.set_cons_zero, List.set_cons_succ, List.getElem_toArray, List.getElem_cons_zero, List.getElem_cons_succ])
  refine wpAnyH_ready (rs := [4, 11]) (by kernel_rfl) (by simp) ?_
  refine AllReadyH.cons rfl (fun KK hKK => ?_) (AllReadyH.cons rfl (fun KK hKK => ?_) AllReadyH.nil)
  · go_simp
    refine hKK.out _ _ ?_ (fun hHeld => ?_)
    · first | exact c2 | exact S4.out _ (Turn.of_below ((below1 w _).drew))
    clear hKK KK
    (try simp only [Act.put, List.setIfInBounds_toArray, List.set_cons_zero, List.set_cons_succ, List.getElem_toArray, List.getElem_cons_zero, List.getElem_cons_succ])
    refine wpAnyH_ready (rs := [11]) (by kernel_rfl) (by simp) ?_
    refine AllReadyH.cons rfl (fun KK hKK => ?_) AllReadyH.nil
    go_simp
    refine hKK.out _ _ (S4.out _ (Turn.of_below ((below1 w _).drew))) (fun hHeld => ?_)
    clear hKK KK
    (try simp only [Act.put, List.setIfInBounds_toArray, List.set_cons_zero, List.set_cons_succ, List.getElem_toArray, List.getElem_cons_zero, List.getElem_cons_succ])
    refine wpAnyH_ready (rs := [12]) (by kernel_rfl) (by simp) ?_
    refine AllReadyH.cons rfl (fun KK hKK => ?_) AllReadyH.nil
    refine step_push1 rfl (.tmp 8) (.tmp 15) 107 rfl (fun j => j = B ∨ j = b) 0 118 2 16 (.agg #[.int .i64 0, .int .i64 0]) Tryz.underlying107 entI_info rfl (by decide) (cellsE (x, p)) rfl (.slice a H.length c) H.length (H.flatMap cellsE) (by simp [Act.eval, Act.put]) (w := w.drew) ⟨H0.out.own.1.drew, H0.out.own.2⟩ (by simp [Act.eval, Act.put]) (by intro u hu; simp [cellsE] at hu; rcases hu with rfl | rfl <;> rfl) (by omega) (by decide) (Nat.zero_le _) (fun j q => q.elim (fun q => q ▸ H0.out.lt) (fun q => q ▸ H0.out.ltb)) ?_
    intro v3 w3 o3 t3 l3
    have t3' : Turn (fun j => (Value.slice a H.length c).ownBlock = some j) w w3 := ⟨t3.os, t3.tape, t3.output, t3.size, t3.block⟩
    obtain ⟨g3, q3, rfl⟩ := ownI_some o3.1 (by omega)
    have HP := Lib.hid (H0.out.relay (H' := H ++ [(x, p)]) (by rw [List.length_append, List.flatMap_append]; simpa using o3) t3' l3)
    have hB3 : w3.heap[B]? = w.heap[B]? := t3'.block B H0.out.lt H0.out.h2
    have T3 := Lib.hid t3'
    have y1 : w3.cell? ⟨B, 1, none⟩ = some (.slice a H.length c) := (World.cell?_of_block hB3).trans H0.out.c1
    have y2 : w3.frozen? ⟨B, 1, none⟩ = false := (World.frozen?_of_block hB3).trans H0.out.z1
    clear hB3 o3 t3 l3 t3'
    refine hKK.out _ _ (S4.out _ T3.out) (fun hHeld => ?_)
    clear hKK KK
    (try simp only [Act.put, List.setIfInBounds_toArray, List.set_cons_zero, List.set_cons_succ, List.getElem_toArray, List.getElem_cons_zero, List.getElem_cons_succ])
    refine wpAnyH_take (i := 13) (v := ?_) rfl (by kernel_rfl) (by kernel_rfl) (by kernel_rfl) (fun _ _ _ h => h) (Or.inl ⟨by rfl, ?y13⟩) (by assumption) ?_
    case y13 => intro w hSw; (try dsimp only at hSw); go_simp; (try with_reducible rfl)
    (try simp only [Act.put, List.setIfInBounds_toArray, List.set_cons_zero, List.set_cons_succ, List.getElem_toArray, List.getElem_cons_zero, List.getElem_cons_succ])
    refine wpAnyH_take (i := 14) (v := ?_) rfl (by kernel_rfl) (by kernel_rfl) (by kernel_rfl) (fun _ _ _ h => h) (Or.inl ⟨by rfl, ?y14⟩) (by assumption) ?_
    case y14 => intro w hSw; (try dsimp only at hSw); go_simp; (try with_reducible rfl)
    (try simp only [Act.put, List.setIfInBounds_toArray, List.set_cons_zero, List.set_cons_succ, List.getElem_toArray, List.getElem_cons_zero, List.getElem_cons_succ])
    refine wpAnyH_ready (rs := [15]) (by kernel_rfl) (by simp) ?_
    refine AllReadyH.cons rfl (fun KK hKK => ?_) AllReadyH.nil
    go_simp
    refine hKK.out _ _ (S5.out _ _ T3.out) (fun hHeld => ?_)
    clear hKK KK
    (try simp only [Act.put, List.setIfInBounds_toArray, List.set_cons_zero, List.set_cons_succ, List.getElem_toArray, List.getElem_cons_zero, List.getElem_cons_succ])
    refine wpAnyH_done (by kernel_rfl) ?_ _
    generalize hW4 : w3.setCell ⟨B, 1, none⟩ (.slice (some ⟨g3, 0, none⟩) (H.length + 1) q3) = W4 at *
    obtain ⟨hP1, hP2, hP3⟩ := HP.out
    have d1 := hP1.c1
    have d2 := hP1.c2
    have d3 := hP1.z2
    have hc := hP1.count q
    have hlen : (H ++ [(x, p)]).length = H.length + 1 := by simp
    have hrr : RisE (H ++ [(x, p)]) ((H ++ [(x, p)]).length - 1) := by rw [hlen, Nat.add_sub_cancel]; exact HRS.out
    generalize hH1 : H ++ [(x, p)] = H1 at *
    have d4 := hc.1.c1
    rw [← hlen] at hc
    have hri := rise_i hc.1 (by omega) hrr (by omega)
    rw [hlen] at hri
    have T5 := Lib.hid (hP2.trans hc.2 (fun j q => (hP3 j (by rw [hlen] at q; exact q)).imp id (fun q => q)))
    have HC := Lib.hid hc; have HP3 := Lib.hid hP3; have HP1 := Lib.hid hP1
    clear hc hP1 hP2 hP3 hrr x1 y1 y2
    go_wp2_with fail
    refine hri.mono ?_; rintro e w5 ⟨rfl, H', hpm, hhp, hT, ht⟩
    go_wp2_with fail
    go_end0
    refine ⟨rfl, H', .slice (some ⟨g3, 0, none⟩) (H.length + 1) q3, by rw [hH1]; exact hpm, hhp, hT, ?_, ?_⟩
    · exact T5.out.trans (ht.mono (fun j q => (Or.inr (Or.inr (show _ = some j by rw [q]; rfl)) : PiF B b (.slice (some ⟨g3, 0, none⟩) (H.length + 1) q3) j))) (fun j q => HP3.out j q)
    · exact fun j q => HP3.out j q
  · go_simp
    refine hKK.out _ _ (S4.out _ (Turn.of_below ((below1 w _).drew))) (fun hHeld => ?_)
    clear hKK KK
    (try simp only [Act.put, List.setIfInBounds_toArray, List.set_cons_zero, List.set_cons_succ, List.getElem_toArray, List.getElem_cons_zero, List.getElem_cons_succ])
    refine wpAnyH_ready (rs := [4]) (by kernel_rfl) (by simp) ?_
    refine AllReadyH.cons rfl (fun KK hKK => ?_) AllReadyH.nil
    go_simp
    refine hKK.out _ _ ?_ (fun hHeld => ?_)
    · first | exact c2 | exact S4.out _ (Turn.of_below ((below1 w _).drew))
    clear hKK KK
    (try simp only [Act.put, List.setIfInBounds_toArray, List.set_cons_zero, List.set_cons_succ, List.getElem_toArray, List.getElem_cons_zero, List.getElem_cons_succ])
    refine wpAnyH_ready (rs := [12]) (by kernel_rfl) (by simp) ?_
    refine AllReadyH.cons rfl (fun KK hKK => ?_) AllReadyH.nil
    refine step_push1 rfl (.tmp 8) (.tmp 15) 107 rfl (fun j => j = B ∨ j = b) 0 118 2 16 (.agg #[.int .i64 0, .int .i64 0]) Tryz.underlying107 entI_info rfl (by decide) (cellsE (x, p)) rfl (.slice a H.length c) H.length (H.flatMap cellsE) (by simp [Act.eval, Act.put]) (w := w.drew) ⟨H0.out.own.1.drew, H0.out.own.2⟩ (by simp [Act.eval, Act.put]) (by intro u hu; simp [cellsE] at hu; rcases hu with rfl | rfl <;> rfl) (by omega) (by decide) (Nat.zero_le _) (fun j q => q.elim (fun q => q ▸ H0.out.lt) (fun q => q ▸ H0.out.ltb)) ?_
    intro v3 w3 o3 t3 l3
    have t3' : Turn (fun j => (Value.slice a H.length c).ownBlock = some j) w w3 := ⟨t3.os, t3.tape, t3.output, t3.size, t3.block⟩
    obtain ⟨g3, q3, rfl⟩ := ownI_some o3.1 (by omega)
    have HP := Lib.hid (H0.out.relay (H' := H ++ [(x, p)]) (by rw [List.length_append, List.flatMap_append]; simpa using o3) t3' l3)
    have hB3 : w3.heap[B]? = w.heap[B]? := t3'.block B H0.out.lt H0.out.h2
    have T3 := Lib.hid t3'
    have y1 : w3.cell? ⟨B, 1, none⟩ = some (.slice a H.length c) := (World.cell?_of_block hB3).trans H0.out.c1
    have y2 : w3.frozen? ⟨B, 1, none⟩ = false := (World.frozen?_of_block hB3).trans H0.out.z1
    clear hB3 o3 t3 l3 t3'
    refine hKK.out _ _ (S4.out _ T3.out) (fun hHeld => ?_)
    clear hKK KK
    (try simp only [Act.put, List.setIfInBounds_toArray, List.set_cons_zero, List.set_cons_succ, List.getElem_toArray, List.getElem_cons_zero, List.getElem_cons_succ])
    refine wpAnyH_take (i := 13) (v := ?_) rfl (by kernel_rfl) (by kernel_rfl) (by kernel_rfl) (fun _ _ _ h => h) (Or.inl ⟨by rfl, ?y13⟩) (by assumption) ?_
    case y13 => intro w hSw; (try dsimp only at hSw); go_simp; (try with_reducible rfl)
    (try simp only [Act.put, List.setIfInBounds_toArray, List.set_cons_zero, List.set_cons_succ, List.getElem_toArray, List.getElem_cons_zero, List.getElem_cons_succ])
    refine wpAnyH_take (i := 14) (v := ?_) rfl (by kernel_rfl) (by kernel_rfl) (by kernel_rfl) (fun _ _ _ h => h) (Or.inl ⟨by rfl, ?y14⟩) (by assumption) ?_
    case y14 => intro w hSw; (try dsimp only at hSw); go_simp; (try with_reducible rfl)
    (try simp only [Act.put, List.setIfInBounds_toArray, List.set_cons_zero, List.set_cons_succ, List.getElem_toArray, List.getElem_cons_zero, List.getElem_cons_succ])
    refine wpAnyH_ready (rs := [15]) (by kernel_rfl) (by simp) ?_
    refine AllReadyH.cons rfl (fun KK hKK => ?_) AllReadyH.nil
    go_simp
    refine hKK.out _ _ (S5.out _ _ T3.out) (fun hHeld => ?_)
    clear hKK KK
    (try simp only [Act.put, List.setIfInBounds_toArray, List.set_cons_zero, List.set_cons_succ, List.getElem_toArray, List.getElem_cons_zero, List.getElem_cons_succ])
    refine wpAnyH_done (by kernel_rfl) ?_ _
    generalize hW4 : w3.setCell ⟨B, 1, none⟩ (.slice (some ⟨g3, 0, none⟩) (H.length + 1) q3) = W4 at *
    obtain ⟨hP1, hP2, hP3⟩ := HP.out
    have d1 := hP1.c1
    have d2 := hP1.c2
    have d3 := hP1.z2
    have hc := hP1.count q
    have hlen : (H ++ [(x, p)]).length = H.length + 1 := by simp
    have hrr : RisE (H ++ [(x, p)]) ((H ++ [(x, p)]).length - 1) := by rw [hlen, Nat.add_sub_cancel]; exact HRS.out
    generalize hH1 : H ++ [(x, p)] = H1 at *
    have d4 := hc.1.c1
    rw [← hlen] at hc
    have hri := rise_i hc.1 (by omega) hrr (by omega)
    rw [hlen] at hri
    have T5 := Lib.hid (hP2.trans hc.2 (fun j q => (hP3 j (by rw [hlen] at q; exact q)).imp id (fun q => q)))
    have HC := Lib.hid hc; have HP3 := Lib.hid hP3; have HP1 := Lib.hid hP1
    clear hc hP1 hP2 hP3 hrr x1 y1 y2
    go_wp2_with fail
    refine hri.mono ?_; rintro e w5 ⟨rfl, H', hpm, hhp, hT, ht⟩
    go_wp2_with fail
    go_end0
    refine ⟨rfl, H', .slice (some ⟨g3, 0, none⟩) (H.length + 1) q3, by rw [hH1]; exact hpm, hhp, hT, ?_, ?_⟩
    · exact T5.out.trans (ht.mono (fun j q => (Or.inr (Or.inr (show _ = some j by rw [q]; rfl)) : PiF B b (.slice (some ⟨g3, 0, none⟩) (H.length + 1) q3) j))) (fun j q => HP3.out j q)
    · exact fun j q => HP3.out j q
/- The landed pile of numbers: what its take, Push and Pop answer; a pile that holds some numbers, in whatever order. The conditions: the pile's blocks; no more than 20000 numbers. -/
theorem rowI_put0 {w : World} {g cap : Nat} {H : List En} (h : RowI w g cap H) (h0 : 0 < H.length) (e : En) :
    RowI ((w.setCell ⟨g, 0, none⟩ (.int .i64 e.1)).setCell ⟨g, 1, none⟩ (.int .i64 e.2)) g cap (H.set 0 e) ∧
      Turn (fun j => j = g) w ((w.setCell ⟨g, 0, none⟩ (.int .i64 e.1)).setCell ⟨g, 1, none⟩ (.int .i64 e.2)) := rowI_put h h0 e
theorem lessI_m {w : World} {g cap m : Nat} {H : List En} (h : RowI w g cap H) (hm : H.length = m + 1) (a b : Value) :
    RowI ((w.setCell ⟨g, m * 2, none⟩ a).setCell ⟨g, m * 2 + 1, none⟩ b) g cap (H.take m) ∧
      Turn (fun j => j = g) w ((w.setCell ⟨g, m * 2, none⟩ a).setCell ⟨g, m * 2 + 1, none⟩ b) := by
  have := rowI_less h (by omega) a b
  rwa [show H.length - 1 = m by omega] at this
theorem clearI_m (w : World) (g cap cap2 m : Nat) (H : List En) (h : RowI w g cap H) (hm : H.length = m + 1) (ty : TypeId) :
    (Builtin.clear_ #[107] ty #[.slice (some ⟨g, m * 2, none⟩) 1 cap2]).run Tryz.prog w = .ok (.tuple #[]) ((w.setCell ⟨g, m * 2, none⟩ (.int .i64 0)).setCell ⟨g, m * 2 + 1, none⟩ (.int .i64 0)) := by
  have := clearI_last w g cap cap2 H h (by omega) ty
  rwa [show H.length - 1 = m by omega] at this
set_option maxHeartbeats 4000000 in
set_option maxRecDepth 100000 in
theorem take_i {w : World} {B b : Nat} {H : List En} {p : Int} {v : Value} (h : PiH w B H p b v) (hh : HeapE H) (h0 : 0 < H.length) (hl : H.length ≤ 1000000) :
    Calls Tryz.prog 76 #[.pointer (some ⟨B, 0, none⟩)] w fun e w' => e = .returned (.int .i64 (atE H 0).1) ∧
      ∃ H' v', H'.Perm (tkE H) ∧ HeapE H' ∧ PiH w' B H' p b v' ∧ Turn (PiF B b v) w w' ∧ ∀ j, PiF B b v' j → PiF B b v j := by
  obtain ⟨g, cap, rfl⟩ := h.slice h0
  obtain ⟨m, hm⟩ : ∃ m, H.length = m + 1 := ⟨H.length - 1, by omega⟩
  have hcap : H.length ≤ cap := by
    rcases h.row.2 with ⟨q, _⟩ | ⟨g', cap', cur, q, _, _, q3, _⟩
    · cases q
    · cases q; exact q3
  have c1 := h.c1
  obtain ⟨x0, x1⟩ := rowI_at h.row h0
  rw [Nat.zero_mul] at x0 x1
  have e1 : (H.length : Int) - 1 = (m : Int) := by omega
  have i0 : (0 : Int) < (H.length : Int) := by omega
  have i1 : (0 : Int) ≤ (m : Int) := by omega
  have i2 : (m : Int) < (H.length : Int) := by omega
  have i3 : (m : Int) ≤ (H.length : Int) := by omega
  have i4 : (H.length : Int) ≤ (cap : Int) := by omega
  have i5 : (m : Int) ≤ (cap : Int) := by omega
  have H1 := Lib.hid h.drew
  have hgB : B ≠ g := fun r => h.h2 (by rw [r]; rfl)
  have hgB' : g ≠ B := fun r => hgB r.symm
  have HH := Lib.hid hh; have HM := Lib.hid hm
  obtain ⟨s, hs⟩ : ∃ s, s = atE H 0 := ⟨_, rfl⟩
  rw [← hs] at x0 x1 ⊢
  have HS := Lib.hid hs
  clear h hh hm hs
  go_enter Tryz.func76, Tryz.ntmps76
  go_wp2_with fail
  go_region
  clear c1 x0 x1
  obtain ⟨W1, hW1⟩ : ∃ W1, W1 = w.drew := ⟨_, rfl⟩
  have HB1 := Lib.hid (show Below w.heap.size w W1 by rw [hW1]; exact (Below.refl _ _).drew)
  rw [← hW1] at H1 ⊢
  clear hW1
  have hlm : m < H.length := by have := HM.out; omega
  have hc1 := H1.out.c1
  obtain ⟨x0, x1⟩ := rowI_at H1.out.row (i := 0) (by omega)
  rw [Nat.zero_mul] at x0 x1
  rw [Nat.zero_add] at x1
  obtain ⟨y0, y1⟩ := rowI_at H1.out.row hlm
  have z0 : ∀ i, W1.frozen? ⟨g, i, none⟩ = false := fun i => H1.out.row.frozenAt i
  obtain ⟨r2, t2⟩ := rowI_put0 H1.out.row (by omega) (atE H m)
  have hl2 : (H.set 0 (atE H m)).length = H.length := by simp
  have hk : (H.set 0 (atE H m)).take m = tkE H := by unfold tkE; rw [show H.length - 1 = m by have := HM.out; omega]
  generalize atE H m = q at *
  generalize atE H 0 = q0 at *
  have HR2 := Lib.hid r2; have HT2 := Lib.hid t2
  clear r2 t2
  go_wp2_with fail
  go_region
  obtain ⟨hE, tE⟩ := swappedI H1.out rfl hl2 (Below.refl _ _) ⟨HR2.out, HT2.out⟩ (Turn.refl _ W1)
  clear hc1 x0 x1 y0 y1 z0
  obtain ⟨W2, hW2⟩ : ∃ W2, W2 = (((W1.setCell ⟨g, 0, none⟩ (.int .i64 q.1)).setCell ⟨g, 1, none⟩ (.int .i64 q.2)).drew) := ⟨_, rfl⟩
  rw [← hW2] at hE tE ⊢
  generalize H.set 0 q = H2 at *
  have hm2 : H2.length = m + 1 := by rw [hl2]; exact HM.out
  have hrow : RowI W2 g cap H2 := by have := hE.row; unfold RowI; rw [hl2] at this ⊢; exact this
  have hcl := clearI_m W2 g cap (cap - m) m H2 hrow hm2
  obtain ⟨r3, t3⟩ := lessI_m hrow hm2 (.int .i64 0) (.int .i64 0)
  have hl3 : (tkE H).length = m := by rw [tkE_len]; have := HM.out; omega
  rw [hk] at r3
  have r3' : ((W2.setCell ⟨g, m * 2, none⟩ (.int .i64 0)).setCell ⟨g, m * 2 + 1, none⟩ (.int .i64 0)).ownsRow 0 118 2 (.slice (some ⟨g, 0, none⟩) m cap) (tkE H).length ((tkE H).flatMap cellsE) := by have := r3; unfold RowI at this; rw [hl3] at this ⊢; exact this
  have hre := hE.relay (H' := tkE H) (v' := .slice (some ⟨g, 0, none⟩) m cap) ⟨r3', fun k q => ⟨(World.ownsRow.lt r3' k q).2, fun r => r.elim (fun r => hE.h2 (r ▸ q)) (fun r => hE.h3 (r ▸ q))⟩⟩ (t3.mono (fun j q => by subst q; rfl)) (Or.inl rfl)
  obtain ⟨hR, tR, fR⟩ := hre
  have hR' := hR
  rw [← hl3] at hR'
  have hsk := sink_i (by rw [hl3] at hR' ⊢; exact hR) (sinkE_start HH.out) (by rw [hl3]; have := HM.out; omega)
  rw [hl3] at hsk
  have c2 := hE.c1
  have z2 := hE.z1
  have c4 := hR.c1
  have e5 : H.length - m = 1 := by have := HM.out; omega
  have k1 : ∀ i, W2.frozen? ⟨g, i, none⟩ = false := fun i => hrow.frozenAt i
  have TR := Lib.hid ((tE.mono (fun j q => (Or.inr (Or.inr (show _ = some j by rw [q]; rfl)) : PiF B b (.slice (some ⟨g, 0, none⟩) H.length cap) j))).trans tR (fun j q => Or.inl q))
  clear hE tE hR hR' tR fR r3 r3' t3 hrow hW2 hl2
  go_wp2_with (simp only [hcl])
  refine hsk.mono ?_; rintro e w5 ⟨rfl, H', hpm, hhp, hT, ht⟩
  clear hsk hcl c2 z2 c4 k1
  have TT : Turn (PiF B b (.slice (some ⟨g, 0, none⟩) H.length cap)) W1 w5 := TR.out.trans (ht.mono (fun j q => (Or.inr (Or.inr (show _ = some j by rw [q]; rfl)) : PiF B b (.slice (some ⟨g, 0, none⟩) H.length cap) j))) (fun j q => Or.inl q)
  have hF := Lib.hid ((Turn.of_below HB1.out).trans TT (fun j q => Or.inl q))
  have HE := Lib.hid (And.intro hpm (And.intro hhp hT))
  clear TT hT ht hpm hhp
  go_wp2_with fail
  go_ret
  exact ⟨rfl, H', _, HE.out.1, HE.out.2.1, HE.out.2.2, hF.out, fun j q => q.imp id (fun q => q.imp id (fun q => q))⟩

/-- A pile at block B holds the numbers of P, in whatever order, in the blocks of F. -/
def RepI (w : World) (B : Nat) (P : List Int) (F : Nat → Prop) : Prop :=
  ∃ (H : List En) (p : Int) (b : Nat) (v : Value), PiH w B H p b v ∧ HeapE H ∧ (H.map fun e => e.1).Perm P ∧ F = PiF B b v
section
variable {w w' : World} {B : Nat} {P : List Int} {F : Nat → Prop}
theorem RepI.foot (h : RepI w B P F) : ∀ j, F j → j < w.heap.size := by
  obtain ⟨H, p, b, v, h, _, _, rfl⟩ := h
  exact h.foot
theorem RepI.root (h : RepI w B P F) : F B := by
  obtain ⟨H, p, b, v, h, _, _, rfl⟩ := h
  exact Or.inl rfl
theorem RepI.keep (h : RepI w B P F) (hk : ∀ j, F j → w'.heap[j]? = w.heap[j]?) : RepI w' B P F := by
  obtain ⟨H, p, b, v, h, h2, h3, rfl⟩ := h
  exact ⟨H, p, b, v, h.keep hk, h2, h3, rfl⟩
set_option maxHeartbeats 2000000 in
set_option maxRecDepth 100000 in
theorem push_i (x : Int) (h : RepI w B P F) (hn : P.length < 20000) : Calls Tryz.prog 58 #[.pointer (some ⟨B, 0, none⟩), .int .i64 x] w fun e w' =>
    e = .returned (.int .i64 0) ∧ ∃ F', RepI w' B (P ++ [x]) F' ∧ Turn F w w' ∧ ∀ j, F' j → F j ∨ w.heap.size ≤ j := by
  obtain ⟨H, p, b, v, h, h2, h3, rfl⟩ := h
  have hlen : H.length = P.length := by rw [← h3.length_eq]; simp
  have hmd := made_i h.c0
  have hpu := put_i x h h2 (by omega) rfl
  obtain ⟨a, c, rfl⟩ := h.form
  have c1 := h.c1
  have d0 : decide ((20000 : Int) ≤ (H.length : Int)) = false := decide_eq_false (by omega)
  have H3 := Lib.hid h3
  generalize wrap64 (p + 1) = q at *
  clear h h2 h3 hlen
  go_enter Tryz.func58, Tryz.ntmps58
  go_wp2_with fail
  refine hmd.mono ?_; rintro e w1 ⟨rfl, rfl⟩
  go_wp2_with fail
  refine hpu.mono ?_; rintro e w2 ⟨rfl, H', v', hpm, hhp, hT, ht, hF⟩
  go_wp2_with fail
  go_ret
  refine ⟨rfl, _, ⟨H', q, b, v', hT, hhp, ?_, rfl⟩, ht, hF⟩
  have := hpm.map (fun e => e.1)
  rw [List.map_append] at this
  exact this.trans (H3.out.append_right _)
theorem pop_no (h : RepI w B [] F) : Calls Tryz.prog 59 #[.pointer (some ⟨B, 0, none⟩)] w fun e w' =>
    e = .returned (.tuple #[.int .i64 0, .bool false]) ∧ w' = w := by
  obtain ⟨H, p, b, v, h, h2, h3, rfl⟩ := h
  have hlen : H.length = 0 := by have := h3.length_eq; simpa using this
  have hln := len_i h
  rw [hlen] at hln
  clear h h2 h3
  go_enter Tryz.func59, Tryz.ntmps59
  go_wp2_with fail
  refine hln.mono ?_; rintro e w1 ⟨rfl, rfl⟩
  go_wp2_with fail
  go_ret2
  exact ⟨rfl, rfl⟩
set_option maxHeartbeats 2000000 in
set_option maxRecDepth 100000 in
theorem pop_i (h : RepI w B P F) (h0 : P ≠ []) (hn : P.length ≤ 20000) : Calls Tryz.prog 59 #[.pointer (some ⟨B, 0, none⟩)] w fun e w' => ∃ x,
    e = .returned (.tuple #[.int .i64 x, .bool true]) ∧ x ∈ P ∧ (∀ y ∈ P, x ≤ y) ∧ ∃ F', RepI w' B (P.erase x) F' ∧ Turn F w w' ∧ ∀ j, F' j → F j := by
  obtain ⟨H, p, b, v, h, h2, h3, rfl⟩ := h
  have hlen : H.length = P.length := by rw [← h3.length_eq]; simp
  have hpos : 0 < H.length := by rw [hlen]; exact List.length_pos_iff.2 h0
  have hln := len_i h
  have htk := take_i h h2 hpos (by omega)
  have d0 : ((H.length : Int) == 0) = false := beq_eq_false_iff_ne.mpr (by omega)
  have hmem : (atE H 0).1 ∈ P := h3.mem_iff.1 (List.mem_map.2 ⟨_, atE_mem hpos, rfl⟩)
  have hmin : ∀ y ∈ P, (atE H 0).1 ≤ y := fun y hy => by
    obtain ⟨e, he, rfl⟩ := List.mem_map.1 (h3.mem_iff.2 hy)
    obtain ⟨i, hi, e2⟩ := List.getElem_of_mem he
    have := heapE_top h2 i hi
    rw [atE_get hi, e2] at this
    unfold ahE at this; omega
  have hper : ((tkE H).map fun e => e.1).Perm (P.erase (atE H 0).1) := by
    have q := ((tkE_perm hpos).map fun e => e.1).trans h3
    rw [List.map_cons] at q
    have := q.erase (atE H 0).1
    rwa [List.erase_cons_head] at this
  have HM := Lib.hid hmem; have HI := Lib.hid hmin; have HP := Lib.hid hper
  generalize (atE H 0).1 = x at *
  clear h h2 h3 hmem hmin hper hpos hlen
  go_enter Tryz.func59, Tryz.ntmps59
  go_wp2_with fail
  refine hln.mono ?_; rintro e w1 ⟨rfl, rfl⟩
  go_wp2_with fail
  refine htk.mono ?_; rintro e w5 ⟨rfl, H', v', hpm, hhp, hT, ht, hF⟩
  go_wp2_with fail
  go_ret2
  exact ⟨x, rfl, HM.out, HI.out, _, ⟨H', p, b, v', hT, hhp, (hpm.map _).trans HP.out, rfl⟩, ht, hF⟩
theorem new_p (w : World) : Calls Tryz.prog 55 #[LessI] w fun e w' => ∃ B F, e = .returned (.pointer (some ⟨B, 0, none⟩)) ∧ RepI w' B [] F ∧ Below w.heap.size w w' ∧ ∀ j, F j → w.heap.size ≤ j :=
  (new_i w).mono fun e w' ⟨B, b, he, hT, hb, hF⟩ => ⟨B, _, he, ⟨[], 0, b, _, hT, heapE_nil, List.Perm.refl _, rfl⟩, hb, hF⟩
end
end Go.Proofs.YtbaeanpdjdcheaaGreat
