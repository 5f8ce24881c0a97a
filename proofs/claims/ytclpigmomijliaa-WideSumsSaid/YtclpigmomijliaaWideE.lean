/-
  awake of layer 2: its calls at the numbers that it names. No conditions.
-/
import Derived.Test.YtclpigmomijliaaWideD
namespace Go.Proofs.Ytclpigmomijliaa
open Go.RowKit
set_option linter.unusedSimpArgs false
set_option linter.unusedVariables false

theorem k_of {n h l : Int} (hn : InR n) (e1 : vhi n = h) (e2 : vlo n = l) (w : World) :
    Calls Try.prog 14 #[.int .i64 n] w fun e w' => e = .returned (.agg #[.int .i64 h, .int .u64 l]) ∧ Below w.heap.size w w' := by
  subst e1 e2; exact w_of n hn w
theorem k_add {xh xl yh yl rh rl re : Int} (x y : Int) (hx : InV x) (hy : InV y) (e1 : vhi x = xh) (e2 : vlo x = xl) (e3 : vhi y = yh) (e4 : vlo y = yl) (e5 : vhi (vt (x + y)) = rh) (e6 : vlo (vt (x + y)) = rl) (e7 : ve (x + y) = re) (w : World) :
    Calls Try.prog 16 #[.agg #[.int .i64 xh, .int .u64 xl], .agg #[.int .i64 yh, .int .u64 yl]] w fun e w' =>
      e = .returned (.tuple #[.agg #[.int .i64 rh, .int .u64 rl], .int .i64 re]) ∧ Below w.heap.size w w' := by
  subst e1 e2 e3 e4 e5 e6 e7; exact w_add x y hx hy w
theorem k_sub {xh xl yh yl rh rl re : Int} (x y : Int) (hx : InV x) (hy : InV y) (e1 : vhi x = xh) (e2 : vlo x = xl) (e3 : vhi y = yh) (e4 : vlo y = yl) (e5 : vhi (vt (x - y)) = rh) (e6 : vlo (vt (x - y)) = rl) (e7 : ve (x - y) = re) (w : World) :
    Calls Try.prog 17 #[.agg #[.int .i64 xh, .int .u64 xl], .agg #[.int .i64 yh, .int .u64 yl]] w fun e w' =>
      e = .returned (.tuple #[.agg #[.int .i64 rh, .int .u64 rl], .int .i64 re]) ∧ Below w.heap.size w w' := by
  subst e1 e2 e3 e4 e5 e6 e7; exact w_sub x y hx hy w
theorem k_neg {xh xl rh rl re : Int} (x : Int) (hx : InV x) (e1 : vhi x = xh) (e2 : vlo x = xl) (e5 : vhi (vt (-x)) = rh) (e6 : vlo (vt (-x)) = rl) (e7 : ve (-x) = re) (w : World) :
    Calls Try.prog 18 #[.agg #[.int .i64 xh, .int .u64 xl]] w fun e w' =>
      e = .returned (.tuple #[.agg #[.int .i64 rh, .int .u64 rl], .int .i64 re]) ∧ Below w.heap.size w w' := by
  subst e1 e2 e5 e6 e7; exact w_neg x hx w
theorem k_int {xh xl r re : Int} (x : Int) (hx : InV x) (e1 : vhi x = xh) (e2 : vlo x = xl) (e5 : tv x = r) (e7 : te x = re) (w : World) :
    Calls Try.prog 9 #[.agg #[.int .i64 xh, .int .u64 xl]] w fun e w' =>
      e = .returned (.tuple #[.int .i64 r, .int .i64 re]) ∧ Below w.heap.size w w' := by
  subst e1 e2 e5 e7; exact w_int x hx w
theorem k_cmp {xh xl yh yl r : Int} (x y : Int) (hx : InV x) (hy : InV y) (e1 : vhi x = xh) (e2 : vlo x = xl) (e3 : vhi y = yh) (e4 : vlo y = yl) (e5 : cmpv x y = r) (w : World) :
    Calls Try.prog 23 #[.agg #[.int .i64 xh, .int .u64 xl], .agg #[.int .i64 yh, .int .u64 yl]] w fun e w' => e = .returned (.int .i64 r) ∧ Below w.heap.size w w' := by
  subst e1 e2 e3 e4 e5; exact w_cmp x y hx hy w
theorem k_sign {xh xl r : Int} (x : Int) (hx : InV x) (e1 : vhi x = xh) (e2 : vlo x = xl) (e5 : cmpv x 0 = r) (w : World) :
    Calls Try.prog 24 #[.agg #[.int .i64 xh, .int .u64 xl]] w fun e w' => e = .returned (.int .i64 r) ∧ Below w.heap.size w w' := by
  subst e1 e2 e5; exact w_sign x hx w
theorem k_mul {a b rh rl : Int} (ha : InR a) (hb : InR b) (e1 : vhi (a * b) = rh) (e2 : vlo (a * b) = rl) (w : World) :
    Calls Try.prog 8 #[.int .i64 a, .int .i64 b] w fun e w' => e = .returned (.agg #[.int .i64 rh, .int .u64 rl]) ∧ Below w.heap.size w w' := by
  subst e1 e2; exact w_mul a b ha hb w

theorem a_5 (w : World) : Calls Try.prog 14 #[.int .i64 5] w fun e w' => e = .returned (.agg #[.int .i64 0, .int .u64 5]) ∧ Below w.heap.size w w' :=
  k_of (by first | unfold InR; omega | unfold InV; omega) (by simp [vhi, vlo, wrap64, vt, ve, tv, te, InV, InR, cmpv]) (by simp [vhi, vlo, wrap64, vt, ve, tv, te, InV, InR, cmpv]) w
theorem a_m7 (w : World) : Calls Try.prog 14 #[.int .i64 (-7)] w fun e w' => e = .returned (.agg #[.int .i64 (-1), .int .u64 18446744073709551609]) ∧ Below w.heap.size w w' :=
  k_of (by first | unfold InR; omega | unfold InV; omega) (by simp [vhi, vlo, wrap64, vt, ve, tv, te, InV, InR, cmpv]) (by simp [vhi, vlo, wrap64, vt, ve, tv, te, InV, InR, cmpv]) w
theorem a_add1 (w : World) : Calls Try.prog 16 #[.agg #[.int .i64 0, .int .u64 5], .agg #[.int .i64 (-1), .int .u64 18446744073709551609]] w fun e w' => e = .returned (.tuple #[.agg #[.int .i64 (-1), .int .u64 18446744073709551614], .int .i64 0]) ∧ Below w.heap.size w w' :=
  k_add 5 (-7) (by first | unfold InR; omega | unfold InV; omega) (by first | unfold InR; omega | unfold InV; omega) (by simp [vhi, vlo, wrap64, vt, ve, tv, te, InV, InR, cmpv]) (by simp [vhi, vlo, wrap64, vt, ve, tv, te, InV, InR, cmpv]) (by simp [vhi, vlo, wrap64, vt, ve, tv, te, InV, InR, cmpv]) (by simp [vhi, vlo, wrap64, vt, ve, tv, te, InV, InR, cmpv]) (by simp [vhi, vlo, wrap64, vt, ve, tv, te, InV, InR, cmpv]) (by simp [vhi, vlo, wrap64, vt, ve, tv, te, InV, InR, cmpv]) (by simp [vhi, vlo, wrap64, vt, ve, tv, te, InV, InR, cmpv]) w
theorem a_1 (w : World) : Calls Try.prog 14 #[.int .i64 1] w fun e w' => e = .returned (.agg #[.int .i64 0, .int .u64 1]) ∧ Below w.heap.size w w' :=
  k_of (by first | unfold InR; omega | unfold InV; omega) (by simp [vhi, vlo, wrap64, vt, ve, tv, te, InV, InR, cmpv]) (by simp [vhi, vlo, wrap64, vt, ve, tv, te, InV, InR, cmpv]) w
theorem a_add2 (w : World) : Calls Try.prog 16 #[.agg #[.int .i64 9223372036854775807, .int .u64 18446744073709551615], .agg #[.int .i64 0, .int .u64 1]] w fun e w' => e = .returned (.tuple #[.agg #[.int .i64 0, .int .u64 0], .int .i64 10]) ∧ Below w.heap.size w w' :=
  k_add 170141183460469231731687303715884105727 1 (by first | unfold InR; omega | unfold InV; omega) (by first | unfold InR; omega | unfold InV; omega) (by simp [vhi, vlo, wrap64, vt, ve, tv, te, InV, InR, cmpv]) (by simp [vhi, vlo, wrap64, vt, ve, tv, te, InV, InR, cmpv]) (by simp [vhi, vlo, wrap64, vt, ve, tv, te, InV, InR, cmpv]) (by simp [vhi, vlo, wrap64, vt, ve, tv, te, InV, InR, cmpv]) (by simp [vhi, vlo, wrap64, vt, ve, tv, te, InV, InR, cmpv]) (by simp [vhi, vlo, wrap64, vt, ve, tv, te, InV, InR, cmpv]) (by simp [vhi, vlo, wrap64, vt, ve, tv, te, InV, InR, cmpv]) w
theorem a_7 (w : World) : Calls Try.prog 14 #[.int .i64 7] w fun e w' => e = .returned (.agg #[.int .i64 0, .int .u64 7]) ∧ Below w.heap.size w w' :=
  k_of (by first | unfold InR; omega | unfold InV; omega) (by simp [vhi, vlo, wrap64, vt, ve, tv, te, InV, InR, cmpv]) (by simp [vhi, vlo, wrap64, vt, ve, tv, te, InV, InR, cmpv]) w
theorem a_sub (w : World) : Calls Try.prog 17 #[.agg #[.int .i64 0, .int .u64 5], .agg #[.int .i64 0, .int .u64 7]] w fun e w' => e = .returned (.tuple #[.agg #[.int .i64 (-1), .int .u64 18446744073709551614], .int .i64 0]) ∧ Below w.heap.size w w' :=
  k_sub 5 7 (by first | unfold InR; omega | unfold InV; omega) (by first | unfold InR; omega | unfold InV; omega) (by simp [vhi, vlo, wrap64, vt, ve, tv, te, InV, InR, cmpv]) (by simp [vhi, vlo, wrap64, vt, ve, tv, te, InV, InR, cmpv]) (by simp [vhi, vlo, wrap64, vt, ve, tv, te, InV, InR, cmpv]) (by simp [vhi, vlo, wrap64, vt, ve, tv, te, InV, InR, cmpv]) (by simp [vhi, vlo, wrap64, vt, ve, tv, te, InV, InR, cmpv]) (by simp [vhi, vlo, wrap64, vt, ve, tv, te, InV, InR, cmpv]) (by simp [vhi, vlo, wrap64, vt, ve, tv, te, InV, InR, cmpv]) w
theorem a_m3 (w : World) : Calls Try.prog 14 #[.int .i64 (-3)] w fun e w' => e = .returned (.agg #[.int .i64 (-1), .int .u64 18446744073709551613]) ∧ Below w.heap.size w w' :=
  k_of (by first | unfold InR; omega | unfold InV; omega) (by simp [vhi, vlo, wrap64, vt, ve, tv, te, InV, InR, cmpv]) (by simp [vhi, vlo, wrap64, vt, ve, tv, te, InV, InR, cmpv]) w
theorem a_neg (w : World) : Calls Try.prog 18 #[.agg #[.int .i64 (-1), .int .u64 18446744073709551613]] w fun e w' => e = .returned (.tuple #[.agg #[.int .i64 0, .int .u64 3], .int .i64 0]) ∧ Below w.heap.size w w' :=
  k_neg (-3) (by first | unfold InR; omega | unfold InV; omega) (by simp [vhi, vlo, wrap64, vt, ve, tv, te, InV, InR, cmpv]) (by simp [vhi, vlo, wrap64, vt, ve, tv, te, InV, InR, cmpv]) (by simp [vhi, vlo, wrap64, vt, ve, tv, te, InV, InR, cmpv]) (by simp [vhi, vlo, wrap64, vt, ve, tv, te, InV, InR, cmpv]) (by simp [vhi, vlo, wrap64, vt, ve, tv, te, InV, InR, cmpv]) w
theorem a_m9 (w : World) : Calls Try.prog 14 #[.int .i64 (-9)] w fun e w' => e = .returned (.agg #[.int .i64 (-1), .int .u64 18446744073709551607]) ∧ Below w.heap.size w w' :=
  k_of (by first | unfold InR; omega | unfold InV; omega) (by simp [vhi, vlo, wrap64, vt, ve, tv, te, InV, InR, cmpv]) (by simp [vhi, vlo, wrap64, vt, ve, tv, te, InV, InR, cmpv]) w
theorem a_int1 (w : World) : Calls Try.prog 9 #[.agg #[.int .i64 (-1), .int .u64 18446744073709551607]] w fun e w' => e = .returned (.tuple #[.int .i64 (-9), .int .i64 0]) ∧ Below w.heap.size w w' :=
  k_int (-9) (by first | unfold InR; omega | unfold InV; omega) (by simp [vhi, vlo, wrap64, vt, ve, tv, te, InV, InR, cmpv]) (by simp [vhi, vlo, wrap64, vt, ve, tv, te, InV, InR, cmpv]) (by simp [vhi, vlo, wrap64, vt, ve, tv, te, InV, InR, cmpv]) (by simp [vhi, vlo, wrap64, vt, ve, tv, te, InV, InR, cmpv]) w
theorem a_int2 (w : World) : Calls Try.prog 9 #[.agg #[.int .i64 1, .int .u64 0]] w fun e w' => e = .returned (.tuple #[.int .i64 0, .int .i64 10]) ∧ Below w.heap.size w w' :=
  k_int 18446744073709551616 (by first | unfold InR; omega | unfold InV; omega) (by simp [vhi, vlo, wrap64, vt, ve, tv, te, InV, InR, cmpv]) (by simp [vhi, vlo, wrap64, vt, ve, tv, te, InV, InR, cmpv]) (by simp [vhi, vlo, wrap64, vt, ve, tv, te, InV, InR, cmpv]) (by simp [vhi, vlo, wrap64, vt, ve, tv, te, InV, InR, cmpv]) w
theorem a_mul (w : World) : Calls Try.prog 8 #[.int .i64 4611686018427387904, .int .i64 4] w fun e w' => e = .returned (.agg #[.int .i64 1, .int .u64 0]) ∧ Below w.heap.size w w' :=
  k_mul (by first | unfold InR; omega | unfold InV; omega) (by first | unfold InR; omega | unfold InV; omega) (by simp [vhi, vlo, wrap64, vt, ve, tv, te, InV, InR, cmpv]) (by simp [vhi, vlo, wrap64, vt, ve, tv, te, InV, InR, cmpv]) w
theorem a_m1 (w : World) : Calls Try.prog 14 #[.int .i64 (-1)] w fun e w' => e = .returned (.agg #[.int .i64 (-1), .int .u64 18446744073709551615]) ∧ Below w.heap.size w w' :=
  k_of (by first | unfold InR; omega | unfold InV; omega) (by simp [vhi, vlo, wrap64, vt, ve, tv, te, InV, InR, cmpv]) (by simp [vhi, vlo, wrap64, vt, ve, tv, te, InV, InR, cmpv]) w
theorem a_m2 (w : World) : Calls Try.prog 14 #[.int .i64 (-2)] w fun e w' => e = .returned (.agg #[.int .i64 (-1), .int .u64 18446744073709551614]) ∧ Below w.heap.size w w' :=
  k_of (by first | unfold InR; omega | unfold InV; omega) (by simp [vhi, vlo, wrap64, vt, ve, tv, te, InV, InR, cmpv]) (by simp [vhi, vlo, wrap64, vt, ve, tv, te, InV, InR, cmpv]) w
theorem a_3 (w : World) : Calls Try.prog 14 #[.int .i64 3] w fun e w' => e = .returned (.agg #[.int .i64 0, .int .u64 3]) ∧ Below w.heap.size w w' :=
  k_of (by first | unfold InR; omega | unfold InV; omega) (by simp [vhi, vlo, wrap64, vt, ve, tv, te, InV, InR, cmpv]) (by simp [vhi, vlo, wrap64, vt, ve, tv, te, InV, InR, cmpv]) w
theorem a_cmp (w : World) : Calls Try.prog 23 #[.agg #[.int .i64 0, .int .u64 1], .agg #[.int .i64 9223372036854775807, .int .u64 18446744073709551615]] w fun e w' => e = .returned (.int .i64 (-1)) ∧ Below w.heap.size w w' :=
  k_cmp 1 170141183460469231731687303715884105727 (by first | unfold InR; omega | unfold InV; omega) (by first | unfold InR; omega | unfold InV; omega) (by simp [vhi, vlo, wrap64, vt, ve, tv, te, InV, InR, cmpv]) (by simp [vhi, vlo, wrap64, vt, ve, tv, te, InV, InR, cmpv]) (by simp [vhi, vlo, wrap64, vt, ve, tv, te, InV, InR, cmpv]) (by simp [vhi, vlo, wrap64, vt, ve, tv, te, InV, InR, cmpv]) (by simp [vhi, vlo, wrap64, vt, ve, tv, te, InV, InR, cmpv]) w
theorem a_sign1 (w : World) : Calls Try.prog 24 #[.agg #[.int .i64 (-1), .int .u64 18446744073709551615]] w fun e w' => e = .returned (.int .i64 (-1)) ∧ Below w.heap.size w w' :=
  k_sign (-1) (by first | unfold InR; omega | unfold InV; omega) (by simp [vhi, vlo, wrap64, vt, ve, tv, te, InV, InR, cmpv]) (by simp [vhi, vlo, wrap64, vt, ve, tv, te, InV, InR, cmpv]) (by simp [vhi, vlo, wrap64, vt, ve, tv, te, InV, InR, cmpv]) w
theorem a_sign2 (w : World) : Calls Try.prog 24 #[.agg #[.int .i64 9223372036854775807, .int .u64 18446744073709551615]] w fun e w' => e = .returned (.int .i64 1) ∧ Below w.heap.size w w' :=
  k_sign 170141183460469231731687303715884105727 (by first | unfold InR; omega | unfold InV; omega) (by simp [vhi, vlo, wrap64, vt, ve, tv, te, InV, InR, cmpv]) (by simp [vhi, vlo, wrap64, vt, ve, tv, te, InV, InR, cmpv]) (by simp [vhi, vlo, wrap64, vt, ve, tv, te, InV, InR, cmpv]) w
end Go.Proofs.Ytclpigmomijliaa
