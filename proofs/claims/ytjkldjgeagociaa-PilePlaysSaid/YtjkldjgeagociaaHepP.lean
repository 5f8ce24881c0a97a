/-
  What the landed pile's New, isMade, Len and Peek answer, and the calls of a pile that is none. The conditions: the pile's blocks.
-/
import Derived.Test.YtjkldjgeagociaaHepT
import Derived.WalkSmall
import Derived.BigQuiet
import Derived.Deep.QuietTactic
namespace Go.Proofs.Ytjkldjgeagociaa
open Go.RowKit
set_option linter.unusedSimpArgs false
set_option linter.unusedVariables false

theorem fn_under : Try.prog.underlying 26 = some (.func #[25, 25] #[4] false) := by kernel_rfl
theorem in_fn (d : Nat) (fn : Fn) (a c : Array Value) (w : World) : (Op.equalIn (d + 1) 26 (.func fn a c) .nilFunc).run Try.prog w = .ok false w := by
  simp [Op.equalIn, run_underlying fn_under]
theorem eql_fn (fn : Fn) (a c : Array Value) (w : World) : (binOp .eql 26 (.func fn a c) .nilFunc).run Try.prog w = .ok (.bool false) w := by
  simp only [binOp]
  simp [Op.equal, Op.maxDepth, in_fn 9999]
theorem neq_fn (fn : Fn) (a c : Array Value) (w : World) : (binOp .neq 26 (.func fn a c) .nilFunc).run Try.prog w = .ok (.bool true) w := by
  simp only [binOp]
  simp [Op.equal, Op.maxDepth, in_fn 9999]
theorem made_9 {w : World} {B b : Nat} (c0 : w.cell? ⟨B, 0, none⟩ = some (CalmV b)) : Calls Try.prog 23 #[.pointer (some ⟨B, 0, none⟩)] w fun e w' => e = .returned (.bool true) ∧ w' = w := by
  have he := neq_fn
  go_enter Try.func23, Try.ntmps23
  go_wp2_with fail
  go_ret
  exact ⟨rfl, rfl⟩
theorem len_9 {w : World} {B b : Nat} {H : List Ent} {p : Int} {v : Value} (h : HepH w B H p b v) : Calls Try.prog 11 #[.pointer (some ⟨B, 0, none⟩)] w fun e w' => e = .returned (.int .i64 (H.length : Int)) ∧ w' = w := by
  obtain ⟨a, c, rfl⟩ := h.form
  have c0 := h.c0
  have c1 := h.c1
  clear h
  go_enter Try.func11, Try.ntmps11
  go_wp2_with fail
  refine (made_9 c0).mono ?_; rintro e w1 ⟨rfl, rfl⟩
  go_wp2_with fail
  go_ret
  exact ⟨rfl, rfl⟩
set_option maxHeartbeats 1000000 in
theorem peek_9 {w : World} {B b : Nat} {H : List Ent} {p : Int} {v : Value} (h : HepH w B H p b v) : Calls Try.prog 18 #[.pointer (some ⟨B, 0, none⟩)] w fun e w' =>
    e = .returned (.tuple #[.agg #[.int .i64 (at3 H 0).1, .int .i64 (at3 H 0).2.1], .bool (decide (0 < H.length))]) ∧ Below w.heap.size w w' := by
  have hb := below1 w (.cells #[.int .i64 0, .int .i64 0] 25)
  have hln := len_9 (h.below hb)
  have hT := h.below hb
  rcases Nat.eq_zero_or_pos H.length with h0 | h0
  · obtain rfl : H = [] := List.length_eq_zero_iff.mp h0
    rw [show at3 [] 0 = (0, 0, 0) from rfl, show decide (0 < ([] : List Ent).length) = false from rfl]
    have e0 : (([] : List Ent).length : Int) = 0 := rfl
    rw [e0] at hln
    clear h hT h0
    go_enter Try.func18, Try.ntmps18
    go_wp2_with fail
    refine hln.mono ?_; rintro e w1 ⟨rfl, rfl⟩
    go_wp2_with fail
    exact bodyPost_ret (v := .tuple #[.agg #[.int .i64 0, .int .i64 0], .bool false]) (by simp [results, Try.results18, go_sem]) rfl ⟨rfl, (below1 w _).alloc (by simp) _⟩
  · rw [decide_eq_true h0]
    obtain ⟨g, cap, rfl⟩ := hT.slice h0
    have c1 := hT.c1
    obtain ⟨x0, x1, _⟩ := row_at hT.row h0
    have d0 : ((H.length : Int) == 0) = false := beq_eq_false_iff_ne.mpr (by omega)
    have i0 : (0 : Int) < (H.length : Int) := by omega
    generalize at3 H 0 = s at *
    rw [Nat.zero_mul] at x0 x1
    clear h hT
    go_enter Try.func18, Try.ntmps18
    go_wp2_with fail
    refine hln.mono ?_; rintro e w1 ⟨rfl, rfl⟩
    go_wp2_with fail
    exact bodyPost_ret (v := .tuple #[.agg #[.int .i64 s.1, .int .i64 s.2.1], .bool true]) (by simp [results, Try.results18, go_sem]) rfl ⟨rfl, below1 w _⟩
theorem new_9 (w : World) : Calls Try.prog 6 #[LessV] w fun e w' => ∃ B b, e = .returned (.pointer (some ⟨B, 0, none⟩)) ∧ HepH w' B [] 0 b (.slice none 0 0) ∧ Below w.heap.size w w' ∧ ∀ j, HepF B b (.slice none 0 0) j → w.heap.size ≤ j := by
  have hmf : ∀ (fn : Fn) (first cap : Array Value) (w : World), (Instr.makeFunc fn first cap).run Try.prog w = .ok (.func fn first cap) w := fun _ _ _ _ => rfl
  have hcm : Calls Try.prog 17 #[LessV] w fun e w' => e = .returned (CalmV w.heap.size) ∧ w' = w.alloc (.cells #[LessV] 26) := by
    go_enter Try.func17, Try.ntmps17
    go_wp2_with fail
    go_ret
    exact ⟨rfl, rfl⟩
  have he := eql_fn
  have hT := HepH.made w 26 50
  go_enter Try.func6, Try.ntmps6
  go_wp2_with fail
  refine hcm.mono ?_; rintro e w1 ⟨rfl, rfl⟩
  go_wp2_with fail
  go_ret
  refine ⟨w.heap.size + 1, w.heap.size, by simp, hT, (below1 w _).alloc (by simp) _, ?_⟩
  rintro j (rfl | rfl | q)
  · omega
  · exact Nat.le_refl _
  · cases q
theorem nil_pop : NilPop := by
  intro w
  have hmd : Calls Try.prog 30 #[.pointer none] w fun e w' => e = .returned (.bool false) ∧ w' = w := by
    go_enter Try.func30, Try.ntmps30
    go_wp2_with fail
    go_ret
    exact ⟨rfl, rfl⟩
  have hln : Calls Try.prog 28 #[.pointer none] w fun e w' => e = .returned (.int .i64 0) ∧ w' = w := by
    go_enter Try.func28, Try.ntmps28
    go_wp2_with fail
    refine hmd.mono ?_; rintro e w1 ⟨rfl, rfl⟩
    go_wp2_with fail
    go_ret
    exact ⟨rfl, rfl⟩
  go_enter Try.func19, Try.ntmps19
  go_wp2_with fail
  refine hln.mono ?_; rintro e w1 ⟨rfl, rfl⟩
  go_wp2_with fail
  go_ret2
  exact ⟨rfl, Below.refl _ _⟩
theorem nil_push : NilPush := by
  intro z w
  have hmd : Calls Try.prog 30 #[.pointer none] w fun e w' => e = .returned (.bool false) ∧ w' = w := by
    go_enter Try.func30, Try.ntmps30
    go_wp2_with fail
    go_ret
    exact ⟨rfl, rfl⟩
  go_enter Try.func20, Try.ntmps20
  go_wp2_with fail
  refine hmd.mono ?_; rintro e w1 ⟨rfl, rfl⟩
  go_wp2_with fail
  go_ret
  exact ⟨rfl, Below.refl _ _⟩
end Go.Proofs.Ytjkldjgeagociaa
