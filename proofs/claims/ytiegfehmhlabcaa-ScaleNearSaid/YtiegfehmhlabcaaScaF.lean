/-
  What scale's Floor answers, for whatever numbers in range. No conditions besides.
-/
import Derived.Test.YtiegfehmhlabcaaScaC2
namespace Go.Proofs.Ytiegfehmhlabcaa
open Go.RowKit
set_option linter.unusedSimpArgs false
set_option linter.unusedVariables false

theorem rounded_floor (x d : Int) (w : World) (hx : InV x) (hd : InR d) :
    Calls Try.prog 25 #[.agg #[.int .i64 (vhi x), .int .u64 (vlo x)], .int .i64 d, .func (.func 36) #[] #[]] w fun e w' => e = .returned (.tuple #[.int .i64 (sv (x / d) d), .int .i64 (se (x / d) d)]) ∧ Below w.heap.size w w' := by
  by_cases h : d < 1
  · rw [sv_no h, se_no h]; exact floor_no x d w h
  · have h1 : 1 ≤ d := by omega
    rw [sv_yes h1, se_yes h1]
    exact floor_stay x d w hx hd h1 (div_inV hx h1) (fun w' hb => above_none _ _ _ w')

set_option maxHeartbeats 400000 in
theorem s_floor (x n d : Int) (hx : InR x) (hn : InR n) (hd : InR d) (w : World) :
    Calls Try.prog 17 #[.int .i64 x, .int .i64 n, .int .i64 d] w fun e w' => e = .returned (.tuple #[.int .i64 (sv (x * n / d) d), .int .i64 (se (x * n / d) d)]) ∧ Below w.heap.size w w' := by
  have hM := w_mul x n hx hn
  have hE := fun w => rounded_floor (x * n) d w (mul_inV hx hn) hd
  generalize sv (x * n / d) d = a at *; generalize se (x * n / d) d = b at *
  generalize vhi (x * n) = xh at *; generalize vlo (x * n) = xl at *
  clear hx hn hd
  go_enter Try.func17, Try.ntmps17
  go_wp2_with fail
  refine (hM _).mono ?_; rintro e w1 ⟨rfl, hb1⟩
  go_wp2_with fail
  refine (hE _).mono ?_; rintro e w2 ⟨rfl, hb2⟩
  go_wp2_with fail
  go_ret2
  exact ⟨rfl, hb1.trans (hb2.mono hb1.size)⟩
end Go.Proofs.Ytiegfehmhlabcaa
