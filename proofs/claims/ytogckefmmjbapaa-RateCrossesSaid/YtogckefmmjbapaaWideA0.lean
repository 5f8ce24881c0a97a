/-
  What wide's own numbers do (Of, plus, less, itself, opposite), over whole numbers. No conditions besides.
-/
import Derived.Test.YtogckefmmjbapaaChecked
import Derived.Test.YtogckefmmjbapaaWideM
import Derived.WalkKit
import Derived.WalkSpells
import Derived.StillTactics
import Derived.Laws.Pointers
import Derived.Deep.RegionHeld3
import Derived.Laws.Externs
import Derived.ChangeKeysEq
import Derived.Shelf.Spec.BitsCarry
namespace Go.Proofs.Ytogckefmmjbapaa
open Go.RowKit
set_option linter.unusedSimpArgs false

theorem sub64_any (x y c : Int) (hx : InU x) (hy : InU y) (hc0 : 0 ≤ c) (hc : c ≤ 1) (w : World) : (callFunc 76 #[.int .u64 x, .int .u64 y, .int .u64 c]).run Try.prog w =
    .ok (.value (.tuple #[.int .u64 ((x - y - c) % 18446744073709551616), .int .u64 (if x < y + c then 1 else 0)])) w := by
  unfold InU at hx hy
  obtain ⟨X, rfl⟩ := Int.eq_ofNat_of_zero_le hx.1
  obtain ⟨Y, rfl⟩ := Int.eq_ofNat_of_zero_le hy.1
  obtain ⟨K, rfl⟩ := Int.eq_ofNat_of_zero_le hc0
  rw [run_callFunc_extern Try.func76 (by kernel_rfl) (by kernel_rfl) (by kernel_rfl) (e := sub64Entry) (by kernel_rfl), run_sub64 X Y K (by omega)]
  simp only [Result.andThen]
  have e1 : (((X + 18446744073709551616 - Y - K) % 18446744073709551616 : Nat) : Int) = ((X : Int) - Y - K) % 18446744073709551616 := by omega
  have e2 : ((if X < Y + K then 1 else 0 : Nat) : Int) = (if (X : Int) < Y + K then 1 else 0) := by
    by_cases h : X < Y + K
    · rw [if_pos h, if_pos (by omega)]; rfl
    · rw [if_neg h, if_neg (by omega)]; rfl
  rw [e1, e2]
theorem sub64_0 (x y : Int) (hx : InU x) (hy : InU y) (w : World) : (callFunc 76 #[.int .u64 x, .int .u64 y, .int .u64 0]).run Try.prog w =
    .ok (.value (.tuple #[.int .u64 ((x - y) % 18446744073709551616), .int .u64 (if x < y then 1 else 0)])) w := by
  simpa using sub64_any x y 0 hx hy (Int.le_refl 0) (by decide) w

set_option maxHeartbeats 400000 in
theorem w_of (n : Int) (hn : InR n) (w : World) :
    Calls Try.prog 71 #[.int .i64 n] w fun e w' => e = .returned (.agg #[.int .i64 (vhi n), .int .u64 (vlo n)]) ∧ Below w.heap.size w w' := by
  have e1 := vhi_n hn
  unfold InR at hn
  go_enter Try.func71, Try.ntmps71
  go_wp2
  refine bodyPost_ret (v := .agg #[.int .i64 (vhi n), .int .u64 (vlo n)]) (by simp [results, Try.results71, go_sem, u64_v, e1]) rfl ⟨rfl, ?_⟩
  exact below1 _ _

set_option maxHeartbeats 400000 in
theorem w_less (x y : Int) (w : World) :
    Calls Try.prog 75 #[.agg #[.int .i64 (vhi x), .int .u64 (vlo x)], .agg #[.int .i64 (vhi y), .int .u64 (vlo y)]] w fun e w' =>
      e = .returned (.agg #[.int .i64 (vhi (x - y)), .int .u64 (vlo (x - y))]) ∧ Below w.heap.size w w' := by
  have e1 := vlo_sub x y
  have e2 := vhi_sub x y
  have a1 := vlo_U x; have a2 := vlo_U y
  rw [← e1, ← e2]; clear e1 e2
  generalize vlo x = al at *; generalize vlo y = bl at *; generalize vhi x = ah at *; generalize vhi y = bh at *
  have k0 : 0 ≤ (if al < bl then 1 else 0 : Int) := by split <;> omega
  have k1 : (if al < bl then 1 else 0 : Int) ≤ 1 := by split <;> omega
  have hlo := sub64_0 al bl a1 a2
  generalize (if al < bl then 1 else 0 : Int) = c at *
  have a3 : InU (IntKind.u64.wrap ah) := by rw [IntKind.wrap_u64]; unfold InU; omega
  have a4 : InU (IntKind.u64.wrap bh) := by rw [IntKind.wrap_u64]; unfold InU; omega
  have hhi := sub64_any _ _ c a3 a4 k0 k1
  clear a1 a2 k0 k1 a3 a4
  generalize (if IntKind.u64.wrap ah < IntKind.u64.wrap bh + c then 1 else 0 : Int) = d at *
  go_enter Try.func75, Try.ntmps75
  go_wp2_with (first | simp only [hlo] | simp only [hhi])
  refine bodyPost_ret (v := .agg #[.int .i64 (wrap64 ((IntKind.u64.wrap ah - IntKind.u64.wrap bh - c) % 18446744073709551616)), .int .u64 ((al - bl) % 18446744073709551616)]) (by simp [results, Try.results75, go_sem]) rfl ⟨rfl, ?_⟩
  exact below3 _ _ _ _

set_option maxHeartbeats 400000 in
theorem w_itself (x : Int) (w : World) :
    Calls Try.prog 73 #[.agg #[.int .i64 (vhi x), .int .u64 (vlo x)]] w fun e w' =>
      e = .returned (.agg #[.int .i64 (vhi x), .int .u64 (vlo x)]) ∧ Below w.heap.size w w' := by
  generalize vlo x = al at *; generalize vhi x = ah at *
  go_enter Try.func73, Try.ntmps73
  go_wp2
  refine bodyPost_ret (v := .agg #[.int .i64 ah, .int .u64 al]) (by simp [results, Try.results73, go_sem]) rfl ⟨rfl, ?_⟩
  exact below2 _ _ _

set_option maxHeartbeats 400000 in
theorem w_opposite (x : Int) (w : World) :
    Calls Try.prog 72 #[.agg #[.int .i64 (vhi x), .int .u64 (vlo x)]] w fun e w' =>
      e = .returned (.agg #[.int .i64 (vhi (-x)), .int .u64 (vlo (-x))]) ∧ Below w.heap.size w w' := by
  have H := w_less 0 x
  rw [show (0 : Int) - x = -x by omega, vhi_zero, vlo_zero] at H
  generalize vlo x = al at *; generalize vhi x = ah at *
  generalize vlo (-x) = bl at *; generalize vhi (-x) = bh at *
  go_enter Try.func72, Try.ntmps72
  go_wp2_with fail
  refine (H _).mono ?_; rintro e w1 ⟨rfl, hb1⟩
  obtain ⟨x0, x1, x2, x3⟩ := twobox hb1
  obtain ⟨f0, f1, f2, f3⟩ := twofree hb1
  have hs := (twolt hb1).2
  go_wp2_with fail
  refine bodyPost_ret (v := .agg #[.int .i64 bh, .int .u64 bl]) (by simp [results, Try.results72, go_sem, x2, x3]) rfl ⟨rfl, ?_⟩
  exact ((((below2 w _ _).trans (hb1.mono (by simp; omega))).setCell (by show _ ≤ w.heap.size + 1; omega) _).setCell (by show _ ≤ w.heap.size + 1; omega) _)
end Go.Proofs.Ytogckefmmjbapaa
