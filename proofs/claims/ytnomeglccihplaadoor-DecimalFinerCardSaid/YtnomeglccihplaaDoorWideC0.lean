/-
  What wide's Add answers: the whole number, or nought with the error, for whatever wide numbers. No conditions besides.
-/
import Derived.Test.YtnomeglccihplaaDoorWideB
namespace Go.Proofs.YtnomeglccihplaaDoor
open Go.RowKit
set_option linter.unusedSimpArgs false
set_option linter.unusedVariables false

set_option maxHeartbeats 400000 in
theorem add_np (ah al bh bl sh sl : Int) (hah : ah < 0) (hbh : 0 ≤ bh)
    (hp : ∀ w, Calls Tryd.prog 84 #[.agg #[.int .i64 ah, .int .u64 al], .agg #[.int .i64 bh, .int .u64 bl]] w fun e w' => e = .returned (.agg #[.int .i64 sh, .int .u64 sl]) ∧ Below w.heap.size w w') (w : World) :
    Calls Tryd.prog 69 #[.agg #[.int .i64 ah, .int .u64 al], .agg #[.int .i64 bh, .int .u64 bl]] w fun e w' =>
      e = .returned (.tuple #[.agg #[.int .i64 sh, .int .u64 sl], .int .i64 0]) ∧ Below w.heap.size w w' := by
  have dbh : decide (bh < 0) = false := decide_eq_false (by omega)
  go_enter Tryd.func69, Tryd.ntmps69
  go_wp2_with fail
  refine (hp _).mono ?_; rintro e w1 ⟨rfl, hb1⟩
  obtain ⟨⟨x0, x1, x2, x3, x4, x5⟩, ⟨f0, f1⟩, l0, l1, l2⟩ := threebox hb1
  go_wp2_with fail
  refine bodyPost_ret (v := .tuple #[.agg #[.int .i64 sh, .int .u64 sl], .int .i64 0]) (by simp [results, Tryd.results69, go_sem, (set2alloc l2 x4 x5).1, (set2alloc l2 x4 x5).2]) rfl ⟨rfl, ?_⟩
  have hb := (below3 w _ _ _).trans (hb1.mono (by simp; omega))
  exact ((hb.setCell (by show _ ≤ w.heap.size + 1 + 1; omega) _).setCell (by show _ ≤ w.heap.size + 1 + 1; omega) _).alloc (by simp; omega) _

set_option maxHeartbeats 400000 in
theorem add_pn (ah al bh bl sh sl : Int) (hah : 0 ≤ ah) (hbh : bh < 0)
    (hp : ∀ w, Calls Tryd.prog 84 #[.agg #[.int .i64 ah, .int .u64 al], .agg #[.int .i64 bh, .int .u64 bl]] w fun e w' => e = .returned (.agg #[.int .i64 sh, .int .u64 sl]) ∧ Below w.heap.size w w') (w : World) :
    Calls Tryd.prog 69 #[.agg #[.int .i64 ah, .int .u64 al], .agg #[.int .i64 bh, .int .u64 bl]] w fun e w' =>
      e = .returned (.tuple #[.agg #[.int .i64 sh, .int .u64 sl], .int .i64 0]) ∧ Below w.heap.size w w' := by
  have dah : decide (ah < 0) = false := decide_eq_false (by omega)
  go_enter Tryd.func69, Tryd.ntmps69
  go_wp2_with fail
  refine (hp _).mono ?_; rintro e w1 ⟨rfl, hb1⟩
  obtain ⟨⟨x0, x1, x2, x3, x4, x5⟩, ⟨f0, f1⟩, l0, l1, l2⟩ := threebox hb1
  go_wp2_with fail
  refine bodyPost_ret (v := .tuple #[.agg #[.int .i64 sh, .int .u64 sl], .int .i64 0]) (by simp [results, Tryd.results69, go_sem, (set2alloc l2 x4 x5).1, (set2alloc l2 x4 x5).2]) rfl ⟨rfl, ?_⟩
  have hb := (below3 w _ _ _).trans (hb1.mono (by simp; omega))
  exact ((hb.setCell (by show _ ≤ w.heap.size + 1 + 1; omega) _).setCell (by show _ ≤ w.heap.size + 1 + 1; omega) _).alloc (by simp; omega) _

set_option maxHeartbeats 400000 in
theorem add_nnn (ah al bh bl sh sl : Int) (hah : ah < 0) (hbh : bh < 0) (hsh : sh < 0)
    (hp : ∀ w, Calls Tryd.prog 84 #[.agg #[.int .i64 ah, .int .u64 al], .agg #[.int .i64 bh, .int .u64 bl]] w fun e w' => e = .returned (.agg #[.int .i64 sh, .int .u64 sl]) ∧ Below w.heap.size w w') (w : World) :
    Calls Tryd.prog 69 #[.agg #[.int .i64 ah, .int .u64 al], .agg #[.int .i64 bh, .int .u64 bl]] w fun e w' =>
      e = .returned (.tuple #[.agg #[.int .i64 sh, .int .u64 sl], .int .i64 0]) ∧ Below w.heap.size w w' := by
  go_enter Tryd.func69, Tryd.ntmps69
  go_wp2_with fail
  refine (hp _).mono ?_; rintro e w1 ⟨rfl, hb1⟩
  obtain ⟨⟨x0, x1, x2, x3, x4, x5⟩, ⟨f0, f1⟩, l0, l1, l2⟩ := threebox hb1
  go_wp2_with fail
  refine bodyPost_ret (v := .tuple #[.agg #[.int .i64 sh, .int .u64 sl], .int .i64 0]) (by simp [results, Tryd.results69, go_sem, (set2alloc l2 x4 x5).1, (set2alloc l2 x4 x5).2]) rfl ⟨rfl, ?_⟩
  have hb := (below3 w _ _ _).trans (hb1.mono (by simp; omega))
  exact ((hb.setCell (by show _ ≤ w.heap.size + 1 + 1; omega) _).setCell (by show _ ≤ w.heap.size + 1 + 1; omega) _).alloc (by simp; omega) _

set_option maxHeartbeats 400000 in
theorem add_ppp (ah al bh bl sh sl : Int) (hah : 0 ≤ ah) (hbh : 0 ≤ bh) (hsh : 0 ≤ sh)
    (hp : ∀ w, Calls Tryd.prog 84 #[.agg #[.int .i64 ah, .int .u64 al], .agg #[.int .i64 bh, .int .u64 bl]] w fun e w' => e = .returned (.agg #[.int .i64 sh, .int .u64 sl]) ∧ Below w.heap.size w w') (w : World) :
    Calls Tryd.prog 69 #[.agg #[.int .i64 ah, .int .u64 al], .agg #[.int .i64 bh, .int .u64 bl]] w fun e w' =>
      e = .returned (.tuple #[.agg #[.int .i64 sh, .int .u64 sl], .int .i64 0]) ∧ Below w.heap.size w w' := by
  have dah : decide (ah < 0) = false := decide_eq_false (by omega)
  have dbh : decide (bh < 0) = false := decide_eq_false (by omega)
  have dsh : decide (sh < 0) = false := decide_eq_false (by omega)
  go_enter Tryd.func69, Tryd.ntmps69
  go_wp2_with fail
  refine (hp _).mono ?_; rintro e w1 ⟨rfl, hb1⟩
  obtain ⟨⟨x0, x1, x2, x3, x4, x5⟩, ⟨f0, f1⟩, l0, l1, l2⟩ := threebox hb1
  go_wp2_with fail
  refine bodyPost_ret (v := .tuple #[.agg #[.int .i64 sh, .int .u64 sl], .int .i64 0]) (by simp [results, Tryd.results69, go_sem, (set2alloc l2 x4 x5).1, (set2alloc l2 x4 x5).2]) rfl ⟨rfl, ?_⟩
  have hb := (below3 w _ _ _).trans (hb1.mono (by simp; omega))
  exact ((hb.setCell (by show _ ≤ w.heap.size + 1 + 1; omega) _).setCell (by show _ ≤ w.heap.size + 1 + 1; omega) _).alloc (by simp; omega) _

set_option maxHeartbeats 400000 in
theorem add_nnp (ah al bh bl sh sl : Int) (hah : ah < 0) (hbh : bh < 0) (hsh : 0 ≤ sh)
    (hp : ∀ w, Calls Tryd.prog 84 #[.agg #[.int .i64 ah, .int .u64 al], .agg #[.int .i64 bh, .int .u64 bl]] w fun e w' => e = .returned (.agg #[.int .i64 sh, .int .u64 sl]) ∧ Below w.heap.size w w') (w : World) :
    Calls Tryd.prog 69 #[.agg #[.int .i64 ah, .int .u64 al], .agg #[.int .i64 bh, .int .u64 bl]] w fun e w' =>
      e = .returned (.tuple #[.agg #[.int .i64 0, .int .u64 0], .int .i64 10]) ∧ Below w.heap.size w w' := by
  have dsh : decide (sh < 0) = false := decide_eq_false (by omega)
  go_enter Tryd.func69, Tryd.ntmps69
  go_wp2_with fail
  refine (hp _).mono ?_; rintro e w1 ⟨rfl, hb1⟩
  obtain ⟨⟨x0, x1, x2, x3, x4, x5⟩, ⟨f0, f1⟩, l0, l1, l2⟩ := threebox hb1
  go_wp2_with fail
  refine bodyPost_ret (v := .tuple #[.agg #[.int .i64 0, .int .u64 0], .int .i64 10]) (by simp [results, Tryd.results69, go_sem, (set2alloc l2 x4 x5).1, (set2alloc l2 x4 x5).2]) rfl ⟨rfl, ?_⟩
  have hb := (below3 w _ _ _).trans (hb1.mono (by simp; omega))
  exact ((hb.setCell (by show _ ≤ w.heap.size + 1 + 1; omega) _).setCell (by show _ ≤ w.heap.size + 1 + 1; omega) _).alloc (by simp; omega) _

set_option maxHeartbeats 400000 in
theorem add_ppn (ah al bh bl sh sl : Int) (hah : 0 ≤ ah) (hbh : 0 ≤ bh) (hsh : sh < 0)
    (hp : ∀ w, Calls Tryd.prog 84 #[.agg #[.int .i64 ah, .int .u64 al], .agg #[.int .i64 bh, .int .u64 bl]] w fun e w' => e = .returned (.agg #[.int .i64 sh, .int .u64 sl]) ∧ Below w.heap.size w w') (w : World) :
    Calls Tryd.prog 69 #[.agg #[.int .i64 ah, .int .u64 al], .agg #[.int .i64 bh, .int .u64 bl]] w fun e w' =>
      e = .returned (.tuple #[.agg #[.int .i64 0, .int .u64 0], .int .i64 10]) ∧ Below w.heap.size w w' := by
  have dah : decide (ah < 0) = false := decide_eq_false (by omega)
  have dbh : decide (bh < 0) = false := decide_eq_false (by omega)
  go_enter Tryd.func69, Tryd.ntmps69
  go_wp2_with fail
  refine (hp _).mono ?_; rintro e w1 ⟨rfl, hb1⟩
  obtain ⟨⟨x0, x1, x2, x3, x4, x5⟩, ⟨f0, f1⟩, l0, l1, l2⟩ := threebox hb1
  go_wp2_with fail
  refine bodyPost_ret (v := .tuple #[.agg #[.int .i64 0, .int .u64 0], .int .i64 10]) (by simp [results, Tryd.results69, go_sem, (set2alloc l2 x4 x5).1, (set2alloc l2 x4 x5).2]) rfl ⟨rfl, ?_⟩
  have hb := (below3 w _ _ _).trans (hb1.mono (by simp; omega))
  exact ((hb.setCell (by show _ ≤ w.heap.size + 1 + 1; omega) _).setCell (by show _ ≤ w.heap.size + 1 + 1; omega) _).alloc (by simp; omega) _

theorem vhi_pos {x : Int} (h : InV x) (h0 : 0 ≤ x) : 0 ≤ vhi x := by rw [vhi_v h]; omega
theorem vhi_min {x : Int} (h : InV x) (h0 : x < 0) : vhi x < 0 := by rw [vhi_v h]; omega
theorem add_up {x y : Int} (hx : InV x) (hy : InV y) (h : ¬ InV (x + y)) (h0 : 0 ≤ x) : 0 ≤ y ∧ vhi (x + y) < 0 := by
  unfold InV at hx hy h; unfold vhi wrap64; omega
theorem add_down {x y : Int} (hx : InV x) (hy : InV y) (h : ¬ InV (x + y)) (h0 : x < 0) : y < 0 ∧ 0 ≤ vhi (x + y) := by
  unfold InV at hx hy h; unfold vhi wrap64; omega
theorem w_add (x y : Int) (hx : InV x) (hy : InV y) (w : World) :
    Calls Tryd.prog 69 #[.agg #[.int .i64 (vhi x), .int .u64 (vlo x)], .agg #[.int .i64 (vhi y), .int .u64 (vlo y)]] w fun e w' =>
      e = .returned (.tuple #[.agg #[.int .i64 (vhi (vt (x + y))), .int .u64 (vlo (vt (x + y)))], .int .i64 (ve (x + y))]) ∧ Below w.heap.size w w' := by
  by_cases h : InV (x + y)
  · rw [vt_in h, ve_in h]
    rcases Int.lt_or_le x 0 with a | a <;> rcases Int.lt_or_le y 0 with b | b
    · exact add_nnn _ _ _ _ _ _ (vhi_min hx a) (vhi_min hy b) (vhi_min h (by omega)) (w_plus x y) w
    · exact add_np _ _ _ _ _ _ (vhi_min hx a) (vhi_pos hy b) (w_plus x y) w
    · exact add_pn _ _ _ _ _ _ (vhi_pos hx a) (vhi_min hy b) (w_plus x y) w
    · exact add_ppp _ _ _ _ _ _ (vhi_pos hx a) (vhi_pos hy b) (vhi_pos h (by omega)) (w_plus x y) w
  · rw [vt_out h, ve_out h, vhi_zero, vlo_zero]
    rcases Int.lt_or_le x 0 with a | a
    · obtain ⟨b, c⟩ := add_down hx hy h a
      exact add_nnp _ _ _ _ _ _ (vhi_min hx a) (vhi_min hy b) c (w_plus x y) w
    · obtain ⟨b, c⟩ := add_up hx hy h a
      exact add_ppn _ _ _ _ _ _ (vhi_pos hx a) (vhi_pos hy b) c (w_plus x y) w

end Go.Proofs.YtnomeglccihplaaDoor
