/-
  The landed graph's New, Nodes, isNode, Has. The conditions: the graph's blocks.
-/
import Derived.Test.YtbaeanpdjdcheaaGreatGrP
import Derived.WalkSmall
import Derived.BigQuiet
import Derived.Deep.QuietTactic
import Derived.Deep.RegionWith
import Derived.Deep.RegionHeld3
import Derived.Deep.DeepCutAuto
namespace Go.Proofs.YtbaeanpdjdcheaaGreat
open Go.RowKit MapSets
set_option linter.unusedSimpArgs false
set_option linter.unusedVariables false

theorem nodes_n (w : World) : Calls Tryz.prog 46 #[.pointer none] w fun e w' => e = .returned (.int .i64 0) ∧ w' = w := by
  go_enter Tryz.func46, Tryz.ntmps46
  go_wp2_with fail
  go_ret
  exact ⟨rfl, rfl⟩
theorem nodes_g {w : World} {B A n : Nat} (c0 : w.cell? ⟨B, 0, none⟩ = some (.slice (some ⟨A, 0, none⟩) n n)) : Calls Tryz.prog 46 #[.pointer (some ⟨B, 0, none⟩)] w fun e w' => e = .returned (.int .i64 n) ∧ w' = w := by
  go_enter Tryz.func46, Tryz.ntmps46
  go_wp2_with fail
  go_ret
  exact ⟨rfl, rfl⟩
theorem isnode_g {w : World} {B A n : Nat} (c0 : w.cell? ⟨B, 0, none⟩ = some (.slice (some ⟨A, 0, none⟩) n n)) (v : Int) : Calls Tryz.prog 30 #[.pointer (some ⟨B, 0, none⟩), .int .i64 v] w fun e w' => e = .returned (.bool (decide (gnd n v))) ∧ w' = w := by
  have hn := nodes_g c0
  unfold gnd
  clear c0
  by_cases h0 : 0 ≤ v
  · have d0 : decide (0 ≤ v) = true := decide_eq_true h0
    rw [show decide (0 ≤ v ∧ v < (n : Int)) = decide (v < (n : Int)) from decide_eq_decide.2 ⟨fun q => q.2, fun q => ⟨h0, q⟩⟩]
    clear h0
    go_enter Tryz.func30, Tryz.ntmps30
    go_wp2_with fail
    refine hn.mono ?_; rintro e w1 ⟨rfl, rfl⟩
    go_wp2_with fail
    go_ret
    exact ⟨rfl, rfl⟩
  · have d0 : decide (0 ≤ v) = false := decide_eq_false h0
    rw [show decide (0 ≤ v ∧ v < (n : Int)) = false from decide_eq_false fun q => h0 q.1]
    clear h0 hn
    go_enter Tryz.func30, Tryz.ntmps30
    go_wp2_with fail
    go_ret
    exact ⟨rfl, rfl⟩
theorem new_no_g (m : Int) (w : World) (h : ¬ (1 ≤ m ∧ m ≤ 20000)) : Calls Tryz.prog 19 #[.int .i64 m] w fun e w' => e = .returned (.tuple #[.pointer none, .int .i64 2]) ∧ w' = w := by
  by_cases h1 : m < 1
  · go_enter Tryz.func19, Tryz.ntmps19
    go_wp2_with fail
    go_ret2
    exact ⟨rfl, rfl⟩
  · have d1 : decide (m < 1) = false := decide_eq_false h1
    have d2 : decide (20000 < m) = true := decide_eq_true (by omega)
    go_enter Tryz.func19, Tryz.ntmps19
    go_wp2_with fail
    go_ret2
    exact ⟨rfl, rfl⟩
theorem rows_info : (Tryz.prog.info? 23).map (fun i => (i.zero, i.size, i.bytes)) = some (some (.slice none 0 0), 1, 24) := by kernel_rfl
theorem maps_info : (Tryz.prog.info? 69).map (fun i => (i.zero, i.size, i.bytes)) = some (some (.map none), 1, 8) := by kernel_rfl
theorem GrP.made {w : World} {B A S n : Nat} {tA tS tB : TypeId} (h1 : 1 ≤ n) (h2 : n ≤ 20000) (hA : w.heap[A]? = some (.cells (madeCells #[.slice none 0 0] n) tA)) (hS : w.heap[S]? = some (.cells (madeCells #[.map none] n) tS))
    (hB : w.heap[B]? = some (.cells #[.slice (some ⟨A, 0, none⟩) n n, .slice (some ⟨S, 0, none⟩) n n, .int .i64 0] tB)) (n1 : A ≠ B) (n2 : S ≠ B) (n3 : A ≠ S) :
    GrP w B A S n (fun _ => .slice none 0 0) (fun _ => none) (List.replicate n []) (gq (List.replicate n [])) ((gedges (List.replicate n []) : Nat) : Int) := by
  have hm : ∀ (v : Value) j, j < n → (madeCells #[v] n)[j]? = some v := fun v j hj => by
    rw [← Array.getElem?_toList, toList_madeCells_one, List.getElem?_replicate, if_pos hj]
  have hq : ∀ v u, gq (List.replicate n []) v u = false := fun v u => decide_eq_false fun q => by have := q.2; rw [gR_rep] at this; cases this
  have hE : gedges (List.replicate n []) = 0 := by simp [gedges]
  have z : ∀ (b : Nat) (cs : Array Value) (t : TypeId) i, w.heap[b]? = some (.cells cs t) → w.frozen? ⟨b, i, none⟩ = false := fun b cs t i h => by simp [World.frozen?, h]
  have c : ∀ (b : Nat) (cs : Array Value) (t : TypeId) i, w.heap[b]? = some (.cells cs t) → w.cell? ⟨b, i, none⟩ = cs[i]? := fun b cs t i h => by simp [World.cell?, h]
  rw [hE]
  refine ⟨(c B _ _ 0 hB).trans rfl, (c B _ _ 1 hB).trans rfl, (c B _ _ 2 hB).trans rfl, z B _ _ 2 hB, h1, h2, ⟨fun v hv => (c A _ _ v hA).trans (hm _ v hv), fun v hv => z A _ _ v hA, fun v hv => ?_, fun v b hv hb => (by cases hb)⟩,
    ⟨fun v hv => (c S _ _ v hS).trans (hm _ v hv), fun v hv => z S _ _ v hS, fun v hv _ u => hq v u, fun v b hv hb => (by cases hb), fun v b hv hb => (by cases hb), fun v u b hv hu hb => (by cases hb), fun v u hv hu => (by rw [hq] at hu; cases hu)⟩, n1, n2, n3, fun v b hv hb => (by cases hb), fun v b hv hb => (by cases hb)⟩
  rw [gR_rep]
  exact ⟨none, 0, rfl, Nat.le_refl _, fun _ => rfl, fun z hz => by (cases hz), fun i hi => by (cases hi)⟩
theorem three_made (w : World) (a b c : Obj) : (((w.alloc a).alloc b).alloc c).drew.heap[w.heap.size]? = some a ∧ (((w.alloc a).alloc b).alloc c).drew.heap[w.heap.size + 1]? = some b ∧ (((w.alloc a).alloc b).alloc c).drew.heap[w.heap.size + 1 + 1]? = some c ∧ Below w.heap.size w (((w.alloc a).alloc b).alloc c).drew := by
  have s1 : (w.alloc a).heap.size = w.heap.size + 1 := by simp
  have s2 : ((w.alloc a).alloc b).heap.size = w.heap.size + 1 + 1 := by simp
  refine ⟨(heap_alloc_old _ _ (by omega)).trans ((heap_alloc_old _ _ (by omega)).trans (heap_alloc_new _ _)), (heap_alloc_old _ _ (by omega)).trans ?_, ?_, (((below1 w _).alloc (by simp) _).alloc (by simp; omega) _).drew⟩
  · rw [← s1]; exact heap_alloc_new _ _
  · rw [← s2]; exact heap_alloc_new _ _
set_option maxHeartbeats 4000000 in
set_option maxRecDepth 100000 in
theorem new_g (n : Nat) (w : World) (h1 : 1 ≤ n) (h2 : n ≤ 20000) : Calls Tryz.prog 19 #[.int .i64 n] w fun e w' => ∃ B F, e = .returned (.tuple #[.pointer (some ⟨B, 0, none⟩), .int .i64 0]) ∧ GrR w' B (List.replicate n []) F ∧ Below w.heap.size w w' ∧ ∀ j, F j → w.heap.size ≤ j := by
  obtain ⟨ii, hi, hz0, hz1, hz2⟩ := info_parts rows_info
  obtain ⟨jj, hj, hy0, hy1, hy2⟩ := info_parts maps_info
  have hmk : ∀ w, (Instr.makeSlice 30 (.int .i64 n) (.int .i64 n)).run Tryz.prog w = .ok (.slice (some ⟨w.heap.size, 0, none⟩) n n) (w.alloc (.cells (madeCells #[.slice none 0 0] n) 23)) := fun w => by
    have := run_makeSlice (P := Tryz.prog) (w := w) 30 23 ii (.slice none 0 0) Tryz.underlying30 hi hz0 .i64 .i64 n n (by omega) (by omega) (by rw [hz1]; omega) (by rw [hz2]; omega) (by omega)
    rw [hz1] at this; simpa [Value.cells] using this
  have hmm : ∀ w, (Instr.makeSlice 70 (.int .i64 n) (.int .i64 n)).run Tryz.prog w = .ok (.slice (some ⟨w.heap.size, 0, none⟩) n n) (w.alloc (.cells (madeCells #[.map none] n) 69)) := fun w => by
    have := run_makeSlice (P := Tryz.prog) (w := w) 70 69 jj (.map none) Tryz.underlying70 hj hy0 .i64 .i64 n n (by omega) (by omega) (by rw [hy1]; omega) (by rw [hy2]; omega) (by omega)
    rw [hy1] at this; simpa [Value.cells] using this
  have d1 : decide ((n : Int) < 1) = false := decide_eq_false (by omega)
  have d2 : decide (20000 < (n : Int)) = false := decide_eq_false (by omega)
  go_enter Tryz.func19, Tryz.ntmps19
  go_wp2_with fail
  go_region
  all_goals go_wp2_with fail
  · go_ret2
    have hM := three_made w (.cells (madeCells #[.slice none 0 0] n) 23) (.cells (madeCells #[.map none] n) 69) (.cells #[.slice (some ⟨w.heap.size, 0, none⟩) n n, .slice (some ⟨w.heap.size + 1, 0, none⟩) n n, .int .i64 0] 72)
    refine ⟨_, _, rfl, ⟨GrI.new h1 h2, _, _, _, _, by rw [List.length_replicate]; exact GrP.made h1 h2 hM.1 hM.2.1 hM.2.2.1 (by omega) (by omega) (by omega), rfl⟩, hM.2.2.2, ?_⟩
    rintro j (r | r | r | ⟨v, hv, r⟩ | ⟨v, hv, r⟩)
    · omega
    · omega
    · omega
    · cases r
    · cases r
  · go_ret2
    have hM := three_made w (.cells (madeCells #[.map none] n) 69) (.cells (madeCells #[.slice none 0 0] n) 23) (.cells #[.slice (some ⟨w.heap.size + 1, 0, none⟩) n n, .slice (some ⟨w.heap.size, 0, none⟩) n n, .int .i64 0] 72)
    refine ⟨_, _, rfl, ⟨GrI.new h1 h2, _, _, _, _, by rw [List.length_replicate]; exact GrP.made h1 h2 hM.2.1 hM.1 hM.2.2.1 (by omega) (by omega) (by omega), rfl⟩, hM.2.2.2, ?_⟩
    rintro j (r | r | r | ⟨v, hv, r⟩ | ⟨v, hv, r⟩)
    · omega
    · omega
    · omega
    · cases r
    · cases r
end Go.Proofs.YtbaeanpdjdcheaaGreat
