/-
  What the landed pile's calm less and isAhead answer. The conditions: the cells of the pile's block.
-/
import Derived.Test.YtjkldjgeagociaaHepM
import Derived.Test.YtjkldjgeagociaaPilG
import Derived.Laws.Cover3
import Derived.Defers
import Derived.Recover
import Derived.WalkSmall
import Derived.BigQuiet
import Derived.Deep.QuietTactic
import Derived.Deep.RegionHeld3
namespace Go.Proofs.Ytjkldjgeagociaa
open Go.RowKit
set_option linter.unusedSimpArgs false
set_option linter.unusedVariables false

theorem idle_9 (p : Addr) (w : World) :
    CallsD Try.prog 27 #[.pointer (some p)] .returning w fun e u' w' => e = .returned (.tuple #[]) ∧ u' = .returning ∧ w' = w := by
  refine callsD_of_wpS Try.func27 rfl fun c₀ cs hu => ?_
  apply wpS_seq
  apply wpS_region
  simp [wpOpsS, go_sem, recoverD, hu, Try.ntmps27, Exit.thenS]
  refine wpS_cond (t := false) (by simp [Act.eval, Array.replicate]) ?_
  simp only [Bool.false_eq_true, if_false]
  refine wpS_of_wp (wp_skip ?_)
  cases c₀
  simp_all [bodyPostS, results, Try.results27]
set_option maxHeartbeats 2000000 in
theorem calm_9 {w : World} {b : Nat} (hl : w.cell? ⟨b, 0, none⟩ = some LessV) (x y u v : Int) :
    Calls Try.prog 26 #[.agg #[.int .i64 x, .int .i64 y], .agg #[.int .i64 u, .int .i64 v], .pointer (some ⟨b, 0, none⟩)] w fun e w' => e = .returned (.bool (decide (x < u))) ∧ Below w.heap.size w w' := by
  have hmf : ∀ (fn : Fn) (first cap : Array Value) (w : World), (Instr.makeFunc fn first cap).run Try.prog w = .ok (.func fn first cap) w := fun _ _ _ _ => rfl
  have hb : b < w.heap.size := World.block_lt_of_cell? w _ hl
  have hb3 : Below w.heap.size w (((w.alloc (.cells #[.int .i64 x, .int .i64 y] 25)).alloc (.cells #[.int .i64 u, .int .i64 v] 25)).alloc (.cells #[.bool false] 4)) := ((below1 w _).alloc (by simp) _).alloc (by simp; omega) _
  have hl3 := (hb3.cell (p := ⟨b, 0, none⟩) hb).trans hl
  go_enter_defers Try.func26, Try.ntmps26
  go_wp2_with fail
  refine (l9_less x y u v _).mono ?_; rintro e w1 ⟨rfl, hb1⟩
  have hb4 := hb3.trans (hb1.mono hb3.size)
  have hN : w.heap.size + 1 + 1 < (((w.alloc (.cells #[.int .i64 x, .int .i64 y] 25)).alloc (.cells #[.int .i64 u, .int .i64 v] 25)).alloc (.cells #[.bool false] 4)).heap.size := by simp
  have hr : w1.cell? ⟨w.heap.size + 1 + 1, 0, none⟩ = some (.bool false) := (hb1.cell (p := ⟨w.heap.size + 1 + 1, 0, none⟩) hN).trans (by simp [go_sem])
  have hz : w1.frozen? ⟨w.heap.size + 1 + 1, 0, none⟩ = false := (hb1.frozen (p := ⟨w.heap.size + 1 + 1, 0, none⟩) hN).trans (by simp [go_sem])
  have hr2 : (w1.setCell ⟨w.heap.size + 1 + 1, 0, none⟩ (.bool (decide (x < u)))).cell? ⟨w.heap.size + 1 + 1, 0, none⟩ = some (.bool (decide (x < u))) := World.cell?_setCell_same _ _ _ hr
  have hend : Below w.heap.size w (w1.setCell ⟨w.heap.size + 1 + 1, 0, none⟩ (.bool (decide (x < u)))) := hb4.setCell (by simp; omega) _
  clear hl hl3 hb3 hN
  go_wp2_with fail
  refine leaves_cons (f := 27) (args := #[.pointer (some ⟨w.heap.size + 1 + 1, 0, none⟩)]) (by simp) (by simp [go_sem]) ?_
  refine (idle_9 ⟨w.heap.size + 1 + 1, 0, none⟩ _).mono ?_
  rintro e u' w'' ⟨rfl, rfl, rfl⟩
  simp [Leaves, settle, results, Try.results26, go_sem, hr2]
  exact hend

/-- The less of a pile that New made, as a value. -/
abbrev CalmV (b : Nat) : Value := .func (.func 26) #[] #[.pointer (some ⟨b, 0, none⟩)]
theorem new3 (w : World) (a b c x y z : Value) (t : TypeId) {W : World} (hb : Below (w.heap.size + 2) ((w.alloc (.cells #[a, b, c] t)).alloc (.cells #[x, y, z] t)) W) :
    W.cell? ⟨w.heap.size, 0, none⟩ = some a ∧ W.cell? ⟨w.heap.size, 1, none⟩ = some b ∧ W.cell? ⟨w.heap.size, 2, none⟩ = some c ∧
    W.cell? ⟨w.heap.size + 1, 0, none⟩ = some x ∧ W.cell? ⟨w.heap.size + 1, 1, none⟩ = some y ∧ W.cell? ⟨w.heap.size + 1, 2, none⟩ = some z := by
  have h1 : ∀ i, W.cell? ⟨w.heap.size, i, none⟩ = _ := fun i => hb.cell (p := ⟨w.heap.size, i, none⟩) (by show w.heap.size < _; omega)
  have h2 : ∀ i, W.cell? ⟨w.heap.size + 1, i, none⟩ = _ := fun i => hb.cell (p := ⟨w.heap.size + 1, i, none⟩) (by show w.heap.size + 1 < _; omega)
  refine ⟨(h1 0).trans ?_, (h1 1).trans ?_, (h1 2).trans ?_, (h2 0).trans ?_, (h2 1).trans ?_, (h2 2).trans ?_⟩ <;> simp [go_sem]
set_option maxHeartbeats 2000000 in
theorem ahead_9 {w : World} {B b : Nat} (hc : w.cell? ⟨B, 0, none⟩ = some (CalmV b)) (hl : w.cell? ⟨b, 0, none⟩ = some LessV) (e f : Ent) :
    Calls Try.prog 37 #[.pointer (some ⟨B, 0, none⟩), enc3 e, enc3 f] w fun r w' => r = .returned (.bool (decide (ahd e f))) ∧ Below w.heap.size w w' := by
  obtain ⟨x, y, t⟩ := e
  obtain ⟨u, v, s⟩ := f
  unfold enc3 ahd
  simp only
  have hb2 := below2 w (.cells #[.int .i64 x, .int .i64 y, .int .i64 t] 60) (.cells #[.int .i64 u, .int .i64 v, .int .i64 s] 60)
  have hB : B < w.heap.size := World.block_lt_of_cell? w _ hc
  have hb : b < w.heap.size := World.block_lt_of_cell? w _ hl
  have hsz : ((w.alloc (.cells #[.int .i64 x, .int .i64 y, .int .i64 t] 60)).alloc (.cells #[.int .i64 u, .int .i64 v, .int .i64 s] 60)).heap.size = w.heap.size + 2 := by simp
  have HK : Hid (∀ W, Below (w.heap.size + 2) ((w.alloc (.cells #[.int .i64 x, .int .i64 y, .int .i64 t] 60)).alloc (.cells #[.int .i64 u, .int .i64 v, .int .i64 s] 60)) W → W.cell? ⟨B, 0, none⟩ = some (CalmV b) ∧ W.cell? ⟨b, 0, none⟩ = some LessV ∧ W.cell? ⟨w.heap.size, 0, none⟩ = some (.int .i64 x) ∧ W.cell? ⟨w.heap.size, 1, none⟩ = some (.int .i64 y) ∧ W.cell? ⟨w.heap.size, 2, none⟩ = some (.int .i64 t) ∧ W.cell? ⟨w.heap.size + 1, 0, none⟩ = some (.int .i64 u) ∧ W.cell? ⟨w.heap.size + 1, 1, none⟩ = some (.int .i64 v) ∧ W.cell? ⟨w.heap.size + 1, 2, none⟩ = some (.int .i64 s)) := fun W h =>
    ⟨(h.cell (p := ⟨B, 0, none⟩) (by show B < _; omega)).trans ((hb2.cell (p := ⟨B, 0, none⟩) hB).trans hc), (h.cell (p := ⟨b, 0, none⟩) (by show b < _; omega)).trans ((hb2.cell (p := ⟨b, 0, none⟩) hb).trans hl), new3 w _ _ _ _ _ _ _ h⟩
  obtain ⟨k0, k1, x0, x1, x2, y0, y1, y2⟩ := HK.out _ (Below.refl _ _)
  clear hc hl
  by_cases ht : t < s
  · have d1 : decide (t < s) = true := decide_eq_true ht
    rw [show decide (x < u ∨ x = u ∧ t < s) = !decide (u < x) by rw [← decide_not]; exact decide_eq_decide.mpr (by omega)]
    go_enter Try.func37, Try.ntmps37
    go_wp2_with fail
    generalize hW : (w.alloc (.cells #[.int .i64 x, .int .i64 y, .int .i64 t] 60)).alloc (.cells #[.int .i64 u, .int .i64 v, .int .i64 s] 60) = W0 at *
    go_region_held3 (fun wz => wz.cell? ⟨B, 0, none⟩ = some (CalmV b) ∧ wz.cell? ⟨w.heap.size, 0, none⟩ = some (.int .i64 x) ∧ wz.cell? ⟨w.heap.size, 1, none⟩ = some (.int .i64 y) ∧ wz.cell? ⟨w.heap.size + 1, 0, none⟩ = some (.int .i64 u) ∧ wz.cell? ⟨w.heap.size + 1, 1, none⟩ = some (.int .i64 v))
      (first | (exact ⟨k0, x0, x1, y0, y1⟩) | (exact ⟨z0, z2, z3, z5, z6⟩))
      (first
        | (go_at_call 26; refine (calm_9 (w := W0.drew) k1 _ _ _ _).mono ?_; rintro e w1 ⟨rfl, hb1⟩
           have hb9 : Below (w.heap.size + 2) W0 w1 := (Below.refl (w.heap.size + 2) W0).drew.trans (hb1.mono (by show _ ≤ W0.heap.size; omega))
           obtain ⟨z0, z1, z2, z3, z4, z5, z6, z7⟩ := HK.out _ hb9))
    go_wp2_with fail
    go_ret
    exact ⟨rfl, hb2.trans (hb9.mono (by omega))⟩
  · have d1 : decide (t < s) = false := decide_eq_false ht
    rw [show decide (x < u ∨ x = u ∧ t < s) = decide (x < u) from decide_eq_decide.mpr (by omega)]
    go_enter Try.func37, Try.ntmps37
    go_wp2_with fail
    generalize hW : (w.alloc (.cells #[.int .i64 x, .int .i64 y, .int .i64 t] 60)).alloc (.cells #[.int .i64 u, .int .i64 v, .int .i64 s] 60) = W0 at *
    go_region_held3 (fun wz => wz.cell? ⟨B, 0, none⟩ = some (CalmV b) ∧ wz.cell? ⟨w.heap.size, 0, none⟩ = some (.int .i64 x) ∧ wz.cell? ⟨w.heap.size, 1, none⟩ = some (.int .i64 y) ∧ wz.cell? ⟨w.heap.size + 1, 0, none⟩ = some (.int .i64 u) ∧ wz.cell? ⟨w.heap.size + 1, 1, none⟩ = some (.int .i64 v))
      (first | (exact ⟨k0, x0, x1, y0, y1⟩) | (exact ⟨z0, z2, z3, z5, z6⟩))
      (first
        | (go_at_call 26; refine (calm_9 (w := W0.drew) k1 _ _ _ _).mono ?_; rintro e w1 ⟨rfl, hb1⟩
           have hb9 : Below (w.heap.size + 2) W0 w1 := (Below.refl (w.heap.size + 2) W0).drew.trans (hb1.mono (by show _ ≤ W0.heap.size; omega))
           obtain ⟨z0, z1, z2, z3, z4, z5, z6, z7⟩ := HK.out _ hb9))
    go_wp2_with fail
    go_ret
    exact ⟨rfl, hb2.trans (hb9.mono (by omega))⟩
end Go.Proofs.Ytjkldjgeagociaa
