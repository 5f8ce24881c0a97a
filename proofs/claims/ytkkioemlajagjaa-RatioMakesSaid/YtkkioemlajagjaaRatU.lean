/-
  RatioMakes of layer 4 answers true, for whatever two rates, and whatever number, in range. No conditions besides.
-/
import Derived.Test.YtkkioemlajagjaaRatH
import Derived.Test.YtkkioemlajagjaaRefZ2
namespace Go.Proofs.Ytkkioemlajagjaa
open Go.RowKit
set_option linter.unusedSimpArgs false
set_option linter.unusedVariables false

set_option maxHeartbeats 4000000 in
set_option maxRecDepth 100000 in
theorem makes4_any (n d m f x : Int) (hx : InR x) (haw : ∀ w, Calls Try.prog 15 #[] w fun e w' => e = .returned (.bool true) ∧ Below w.heap.size w w') (w : World) :
    Calls Try.prog 4 #[.agg #[.int .i64 n, .int .i64 d], .agg #[.int .i64 m, .int .i64 f], .int .i64 x] w fun e w' => e = .returned (.bool true) ∧ Below w.heap.size w w' := by
  have h1 := c_inverse n d; have h1' := rinverse_any n d
  have h2 := c_times n d m f; have h2' := rtimes_any n d m f
  have h3 := c_apply x n d hx; have h3' := rapply_any x n d hx
  generalize rc n d = r1 at *
  generalize normn d n = a at *; generalize normd d n = b at *
  generalize mulN n d m f = p at *; generalize mulD n d m f = q at *; generalize mulE n d m f = r2 at *
  generalize av x n d = y at *; generalize ae x n d = r3 at *
  clear hx
  have K := (Keeps.start w).new2 (.int .i64 n) (.int .i64 d) (.int .i64 m) (.int .i64 f) 23 23
  go_enter Try.func4, Try.ntmps4
  go_wp2_with fail
  refine (h1 _).mono ?_; rintro e w1 ⟨rfl, hb1⟩
  replace K := (K.below hb1).new (.int .i64 a) (.int .i64 b) 23; clear hb1
  obtain ⟨x0, x1, x2, x3⟩ := K.tail.two
  go_wp2_with fail
  refine (h1' _).mono ?_; rintro e w2 ⟨rfl, hb2⟩
  replace K := (K.below hb2).new (.int .i64 a) (.int .i64 b) 23; clear hb2 x0 x1 x2 x3
  obtain ⟨x0, x1, x2, x3⟩ := K.tail.tail.two
  go_wp2_with fail
  refine (h2 _).mono ?_; rintro e w3 ⟨rfl, hb3⟩
  replace K := (K.below hb3).new (.int .i64 p) (.int .i64 q) 23; clear hb3 x0 x1 x2 x3
  obtain ⟨x0, x1, x2, x3⟩ := K.tail.tail.tail.two
  go_wp2_with fail
  refine (h2' _).mono ?_; rintro e w4 ⟨rfl, hb4⟩
  replace K := (K.below hb4).new (.int .i64 p) (.int .i64 q) 23; clear hb4 x0 x1 x2 x3
  obtain ⟨x0, x1, x2, x3⟩ := K.tail.tail.tail.tail.two
  go_wp2_with fail
  refine (h3 _).mono ?_; rintro e w5 ⟨rfl, hb5⟩
  replace K := K.below hb5; clear hb5 x0 x1 x2 x3
  obtain ⟨x0, x1, x2, x3⟩ := K.tail.tail.tail.tail.two
  go_wp2_with fail
  refine (h3' _).mono ?_; rintro e w6 ⟨rfl, hb6⟩
  replace K := K.below hb6; clear hb6 x0 x1 x2 x3
  obtain ⟨x0, x1, x2, x3⟩ := K.two
  obtain ⟨y0, y1, y2, y3⟩ := K.tail.tail.two
  go_wp2_with fail
  refine (haw _).mono ?_; rintro e w7 ⟨rfl, hb7⟩
  replace K := K.below hb7
  go_wp2_with fail
  go_ret
  exact ⟨rfl, K.1⟩

theorem makes4_all (n d m f x : Int) (hx : InR x) (w : World) :
    Calls Try.prog 4 #[.agg #[.int .i64 n, .int .i64 d], .agg #[.int .i64 m, .int .i64 f], .int .i64 x] w fun e w' => e = .returned (.bool true) ∧ Below w.heap.size w w' :=
  makes4_any n d m f x hx r_awake w
end Go.Proofs.Ytkkioemlajagjaa
