/-
  awake of layer 4 answers true. No conditions.
-/
import Derived.Test.YtkkioemlajagjaaRatD
import Derived.Test.YtkkioemlajagjaaRatG
namespace Go.Proofs.Ytkkioemlajagjaa
open Go.RowKit
set_option linter.unusedSimpArgs false
set_option linter.unusedVariables false

theorem l_times {n d m f rn rd re : Int} (e1 : mulN n d m f = rn) (e2 : mulD n d m f = rd) (e3 : mulE n d m f = re) (w : World) :
    Calls Try.prog 18 #[.agg #[.int .i64 n, .int .i64 d], .agg #[.int .i64 m, .int .i64 f]] w fun e w' => e = .returned (.tuple #[.agg #[.int .i64 rn, .int .i64 rd], .int .i64 re]) ∧ Below w.heap.size w w' := by
  subst e1 e2 e3; exact c_times n d m f w
theorem l_inverse {n d rn rd re : Int} (e1 : normn d n = rn) (e2 : normd d n = rd) (e3 : rc n d = re) (w : World) :
    Calls Try.prog 16 #[.agg #[.int .i64 n, .int .i64 d]] w fun e w' => e = .returned (.tuple #[.agg #[.int .i64 rn, .int .i64 rd], .int .i64 re]) ∧ Below w.heap.size w w' := by
  subst e1 e2 e3; exact c_inverse n d w
theorem l_norm {n d rn rd : Int} (e1 : normn n d = rn) (e2 : normd n d = rd) (w : World) :
    Calls Try.prog 9 #[.agg #[.int .i64 n, .int .i64 d]] w fun e w' => e = .returned (.agg #[.int .i64 rn, .int .i64 rd]) ∧ Below w.heap.size w w' := by
  subst e1 e2; exact c_norm n d w
theorem l_check {n d re : Int} (e3 : rc n d = re) (w : World) :
    Calls Try.prog 7 #[.agg #[.int .i64 n, .int .i64 d]] w fun e w' => e = .returned (.int .i64 re) ∧ Below w.heap.size w w' := by
  subst e3; exact c_check n d w
theorem l_apply {x n d r re : Int} (hx : InR x) (e1 : av x n d = r) (e2 : ae x n d = re) (w : World) :
    Calls Try.prog 20 #[.int .i64 x, .agg #[.int .i64 n, .int .i64 d]] w fun e w' => e = .returned (.tuple #[.int .i64 r, .int .i64 re]) ∧ Below w.heap.size w w' := by
  subst e1 e2; exact c_apply x n d hx w
theorem l_same {n d m f : Int} {b : Bool} (e1 : sameB n d m f = b) (w : World) :
    Calls Try.prog 11 #[.agg #[.int .i64 n, .int .i64 d], .agg #[.int .i64 m, .int .i64 f]] w fun e w' => e = .returned (.bool b) ∧ Below w.heap.size w w' := by
  subst e1; exact c_same n d m f w
theorem l_less {n d m f : Int} {b : Bool} (e1 : lessB n d m f = b) (w : World) :
    Calls Try.prog 13 #[.agg #[.int .i64 n, .int .i64 d], .agg #[.int .i64 m, .int .i64 f]] w fun e w' => e = .returned (.bool b) ∧ Below w.heap.size w w' := by
  subst e1; exact c_less n d m f w

theorem b_t1 (w : World) : Calls Try.prog 18 #[.agg #[.int .i64 2, .int .i64 3], .agg #[.int .i64 3, .int .i64 4]] w fun e w' => e = .returned (.tuple #[.agg #[.int .i64 1, .int .i64 2], .int .i64 0]) ∧ Below w.heap.size w w' :=
  l_times (by decide +kernel) (by decide +kernel) (by decide +kernel) w
theorem b_t2 (w : World) : Calls Try.prog 18 #[.agg #[.int .i64 1000000000000, .int .i64 1], .agg #[.int .i64 2, .int .i64 1]] w fun e w' => e = .returned (.tuple #[.agg #[.int .i64 0, .int .i64 0], .int .i64 10]) ∧ Below w.heap.size w w' :=
  l_times (by decide +kernel) (by decide +kernel) (by decide +kernel) w
theorem b_i (w : World) : Calls Try.prog 16 #[.agg #[.int .i64 2, .int .i64 6]] w fun e w' => e = .returned (.tuple #[.agg #[.int .i64 3, .int .i64 1], .int .i64 0]) ∧ Below w.heap.size w w' :=
  l_inverse (by decide +kernel) (by decide +kernel) (by decide +kernel) w
theorem b_a1 (w : World) : Calls Try.prog 20 #[.int .i64 7, .agg #[.int .i64 1, .int .i64 2]] w fun e w' => e = .returned (.tuple #[.int .i64 4, .int .i64 0]) ∧ Below w.heap.size w w' :=
  l_apply (by decide +kernel) (by decide +kernel) (by decide +kernel) w
theorem b_a2 (w : World) : Calls Try.prog 20 #[.int .i64 7, .agg #[.int .i64 0, .int .i64 0]] w fun e w' => e = .returned (.tuple #[.int .i64 0, .int .i64 11]) ∧ Below w.heap.size w w' :=
  l_apply (by decide +kernel) (by decide +kernel) (by decide +kernel) w
theorem b_c1 (w : World) : Calls Try.prog 7 #[.agg #[.int .i64 1, .int .i64 2]] w fun e w' => e = .returned (.int .i64 0) ∧ Below w.heap.size w w' := l_check (by decide +kernel) w
theorem b_c2 (w : World) : Calls Try.prog 7 #[.agg #[.int .i64 1, .int .i64 0]] w fun e w' => e = .returned (.int .i64 11) ∧ Below w.heap.size w w' := l_check (by decide +kernel) w
theorem b_n (w : World) : Calls Try.prog 9 #[.agg #[.int .i64 6, .int .i64 4]] w fun e w' => e = .returned (.agg #[.int .i64 3, .int .i64 2]) ∧ Below w.heap.size w w' := l_norm (by decide +kernel) (by decide +kernel) w
theorem b_s (w : World) : Calls Try.prog 11 #[.agg #[.int .i64 1, .int .i64 2], .agg #[.int .i64 2, .int .i64 4]] w fun e w' => e = .returned (.bool true) ∧ Below w.heap.size w w' := l_same (by decide +kernel) w
theorem b_l1 (w : World) : Calls Try.prog 13 #[.agg #[.int .i64 1, .int .i64 2], .agg #[.int .i64 2, .int .i64 3]] w fun e w' => e = .returned (.bool true) ∧ Below w.heap.size w w' := l_less (by decide +kernel) w
theorem b_l2 (w : World) : Calls Try.prog 13 #[.agg #[.int .i64 1, .int .i64 2], .agg #[.int .i64 1, .int .i64 2]] w fun e w' => e = .returned (.bool false) ∧ Below w.heap.size w w' := l_less (by decide +kernel) w

set_option maxHeartbeats 8000000 in
set_option maxRecDepth 100000 in
theorem r_awake (w : World) : Calls Try.prog 15 #[] w fun e w' => e = .returned (.bool true) ∧ Below w.heap.size w w' := by
  go_enter Try.func15, Try.ntmps15
  have K := (Keeps.start w).new (.int .i64 1) (.int .i64 2) 23
  go_wp2_with fail
  refine (b_t1 _).mono ?_; rintro e w1 ⟨rfl, hb1⟩
  replace K := (K.below hb1).new (.int .i64 1) (.int .i64 2) 23; clear hb1
  go_wp2_with fail
  refine (b_i _).mono ?_; rintro e w2 ⟨rfl, hb2⟩
  replace K := (K.below hb2).new (.int .i64 3) (.int .i64 1) 23; clear hb2
  obtain ⟨x0, x1, x2⟩ := K.at2
  go_wp2_with fail
  refine (b_a1 _).mono ?_; rintro e w3 ⟨rfl, hb3⟩
  replace K := K.below hb3; clear hb3 x0 x1 x2
  go_wp2_with fail
  refine (b_a2 _).mono ?_; rintro e w4 ⟨rfl, hb4⟩
  replace K := K.below hb4; clear hb4
  go_wp2_with fail
  refine (b_t2 _).mono ?_; rintro e w5 ⟨rfl, hb5⟩
  replace K := (K.below hb5).alloc (.cells #[.int .i64 0, .int .i64 0] 23); clear hb5
  obtain ⟨y0, y1, y2, y3, y4, y5⟩ := K.three'
  go_wp2_with fail
  refine (b_c1 _).mono ?_; rintro e w6 ⟨rfl, hb6⟩
  replace K := K.below hb6; clear hb6 y0 y1 y2 y3 y4 y5
  obtain ⟨y0, y1, y2, y3, y4, y5⟩ := K.three'
  go_wp2_with fail
  refine (b_c2 _).mono ?_; rintro e w7 ⟨rfl, hb7⟩
  replace K := K.below hb7; clear hb7 y0 y1 y2 y3 y4 y5
  obtain ⟨y0, y1, y2, y3, y4, y5⟩ := K.three'
  go_wp2_with fail
  refine (b_n _).mono ?_; rintro e w8 ⟨rfl, hb8⟩
  replace K := K.below hb8; clear hb8 y0 y1 y2 y3 y4 y5
  obtain ⟨y0, y1, y2, y3, y4, y5⟩ := K.three'
  go_wp2_with fail
  refine (b_s _).mono ?_; rintro e w9 ⟨rfl, hb9⟩
  replace K := K.below hb9; clear hb9 y0 y1 y2 y3 y4 y5
  obtain ⟨y0, y1, y2, y3, y4, y5⟩ := K.three'
  go_wp2_with fail
  refine (b_l1 _).mono ?_; rintro e w10 ⟨rfl, hb10⟩
  replace K := K.below hb10; clear hb10 y0 y1 y2 y3 y4 y5
  obtain ⟨y0, y1, y2, y3, y4, y5⟩ := K.three'
  go_wp2_with fail
  refine (b_l2 _).mono ?_; rintro e w11 ⟨rfl, hb11⟩
  replace K := K.below hb11; clear hb11 y0 y1 y2 y3 y4 y5
  obtain ⟨y0, y1, y2, y3, y4, y5⟩ := K.three'
  go_wp2_with fail
  go_ret
  exact ⟨rfl, K.1⟩
end Go.Proofs.Ytkkioemlajagjaa
