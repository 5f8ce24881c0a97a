/-
  awake of layer 3 answers true. No conditions.
-/
import Derived.Test.YtiegfehmhlabcaaScaD
import Derived.Test.YtiegfehmhlabcaaScaF
import Derived.Deep.DeepCutAuto
import Derived.Deep.RegionWith
namespace Go.Proofs.Ytiegfehmhlabcaa
open Go.RowKit
set_option linter.unusedSimpArgs false
set_option linter.unusedVariables false

theorem l_of {n h l : Int} (hn : InR n) (e1 : vhi n = h) (e2 : vlo n = l) (w : World) :
    Calls Try.prog 29 #[.int .i64 n] w fun e w' => e = .returned (.agg #[.int .i64 h, .int .u64 l]) ∧ Below w.heap.size w w' := by
  subst e1 e2; exact w_of n hn w
theorem l_even {xh xl d r re : Int} (x : Int) (hx : InV x) (hd : InR d) (e1 : vhi x = xh) (e2 : vlo x = xl) (e5 : sv (nearv x d) d = r) (e7 : se (nearv x d) d = re) (w : World) :
    Calls Try.prog 9 #[.agg #[.int .i64 xh, .int .u64 xl], .int .i64 d] w fun e w' => e = .returned (.tuple #[.int .i64 r, .int .i64 re]) ∧ Below w.heap.size w w' := by
  subst e1 e2 e5 e7; exact s_even x d hx hd w
theorem l_quo {xh xl d qh ql r : Int} (x : Int) (hx : InV x) (hd : InR d) (h1 : 1 ≤ d) (e1 : vhi x = xh) (e2 : vlo x = xl) (e3 : vhi (x / d) = qh) (e4 : vlo (x / d) = ql) (e5 : x % d = r) (w : World) :
    Calls Try.prog 8 #[.agg #[.int .i64 xh, .int .u64 xl], .int .i64 d] w fun e w' => e = .returned (.tuple #[.agg #[.int .i64 qh, .int .u64 ql], .int .i64 r, .int .i64 0]) ∧ Below w.heap.size w w' := by
  subst e1 e2 e3 e4 e5; exact quo_ok x d hx hd h1 w
theorem l_scale {x n d r re : Int} (hx : InR x) (hn : InR n) (hd : InR d) (e5 : sv (nearv (x * n) d) d = r) (e7 : se (nearv (x * n) d) d = re) (w : World) :
    Calls Try.prog 15 #[.int .i64 x, .int .i64 n, .int .i64 d] w fun e w' => e = .returned (.tuple #[.int .i64 r, .int .i64 re]) ∧ Below w.heap.size w w' := by
  subst e5 e7; exact s_scale x n d hx hn hd w
theorem l_floor {x n d r re : Int} (hx : InR x) (hn : InR n) (hd : InR d) (e5 : sv (x * n / d) d = r) (e7 : se (x * n / d) d = re) (w : World) :
    Calls Try.prog 17 #[.int .i64 x, .int .i64 n, .int .i64 d] w fun e w' => e = .returned (.tuple #[.int .i64 r, .int .i64 re]) ∧ Below w.heap.size w w' := by
  subst e5 e7; exact s_floor x n d hx hn hd w

theorem b_5 (w : World) : Calls Try.prog 29 #[.int .i64 5] w fun e w' => e = .returned (.agg #[.int .i64 0, .int .u64 5]) ∧ Below w.heap.size w w' :=
  l_of (by decide +kernel) (by decide +kernel) (by decide +kernel) w
theorem b_7 (w : World) : Calls Try.prog 29 #[.int .i64 7] w fun e w' => e = .returned (.agg #[.int .i64 0, .int .u64 7]) ∧ Below w.heap.size w w' :=
  l_of (by decide +kernel) (by decide +kernel) (by decide +kernel) w
theorem b_m7 (w : World) : Calls Try.prog 29 #[.int .i64 (-7)] w fun e w' => e = .returned (.agg #[.int .i64 (-1), .int .u64 18446744073709551609]) ∧ Below w.heap.size w w' :=
  l_of (by decide +kernel) (by decide +kernel) (by decide +kernel) w
theorem b_m4 (w : World) : Calls Try.prog 29 #[.int .i64 (-4)] w fun e w' => e = .returned (.agg #[.int .i64 (-1), .int .u64 18446744073709551612]) ∧ Below w.heap.size w w' :=
  l_of (by decide +kernel) (by decide +kernel) (by decide +kernel) w
theorem b_e5 (w : World) : Calls Try.prog 9 #[.agg #[.int .i64 0, .int .u64 5], .int .i64 2] w fun e w' => e = .returned (.tuple #[.int .i64 2, .int .i64 0]) ∧ Below w.heap.size w w' :=
  l_even 5 (by decide +kernel) (by decide +kernel) (by decide +kernel) (by decide +kernel) (by decide +kernel) (by decide +kernel) w
theorem b_e7 (w : World) : Calls Try.prog 9 #[.agg #[.int .i64 0, .int .u64 7], .int .i64 2] w fun e w' => e = .returned (.tuple #[.int .i64 4, .int .i64 0]) ∧ Below w.heap.size w w' :=
  l_even 7 (by decide +kernel) (by decide +kernel) (by decide +kernel) (by decide +kernel) (by decide +kernel) (by decide +kernel) w
theorem b_q (w : World) : Calls Try.prog 8 #[.agg #[.int .i64 (-1), .int .u64 18446744073709551609], .int .i64 2] w fun e w' => e = .returned (.tuple #[.agg #[.int .i64 (-1), .int .u64 18446744073709551612], .int .i64 1, .int .i64 0]) ∧ Below w.heap.size w w' :=
  l_quo (-7) (by decide +kernel) (by decide +kernel) (by decide +kernel) (by decide +kernel) (by decide +kernel) (by decide +kernel) (by decide +kernel) (by decide +kernel) w
theorem b_s1 (w : World) : Calls Try.prog 15 #[.int .i64 10, .int .i64 1, .int .i64 3] w fun e w' => e = .returned (.tuple #[.int .i64 3, .int .i64 0]) ∧ Below w.heap.size w w' :=
  l_scale (by decide +kernel) (by decide +kernel) (by decide +kernel) (by decide +kernel) (by decide +kernel) w
theorem b_f (w : World) : Calls Try.prog 17 #[.int .i64 (-10), .int .i64 1, .int .i64 3] w fun e w' => e = .returned (.tuple #[.int .i64 (-4), .int .i64 0]) ∧ Below w.heap.size w w' :=
  l_floor (by decide +kernel) (by decide +kernel) (by decide +kernel) (by decide +kernel) (by decide +kernel) w
theorem b_s2 (w : World) : Calls Try.prog 15 #[.int .i64 1, .int .i64 1, .int .i64 0] w fun e w' => e = .returned (.tuple #[.int .i64 0, .int .i64 2]) ∧ Below w.heap.size w w' :=
  l_scale (by decide +kernel) (by decide +kernel) (by decide +kernel) (by decide +kernel) (by decide +kernel) w
theorem b_s3 (w : World) : Calls Try.prog 15 #[.int .i64 9223372036854775807, .int .i64 2, .int .i64 1] w fun e w' => e = .returned (.tuple #[.int .i64 0, .int .i64 10]) ∧ Below w.heap.size w w' :=
  l_scale (by decide +kernel) (by decide +kernel) (by decide +kernel) (by decide +kernel) (by decide +kernel) w

set_option maxHeartbeats 8000000 in
set_option maxRecDepth 100000 in
theorem s_awake (w : World) : Calls Try.prog 11 #[] w fun e w' => e = .returned (.bool true) ∧ Below w.heap.size w w' := by
  go_enter Try.func11, Try.ntmps11
  go_wp2_with fail
  refine (b_5 _).mono ?_; rintro e w1 ⟨rfl, hb1⟩
  have K := (Keeps.start w).below hb1; clear hb1
  go_wp2_with fail
  refine (b_e5 _).mono ?_; rintro e w2 ⟨rfl, hb2⟩
  replace K := K.below hb2; clear hb2
  go_wp2_with fail
  refine (b_7 _).mono ?_; rintro e w3 ⟨rfl, hb3⟩
  replace K := K.below hb3; clear hb3
  go_wp2_with fail
  refine (b_e7 _).mono ?_; rintro e w4 ⟨rfl, hb4⟩
  replace K := K.below hb4; clear hb4
  go_wp2_with fail
  refine (b_m7 _).mono ?_; rintro e w5 ⟨rfl, hb5⟩
  replace K := K.below hb5; clear hb5
  go_wp2_with fail
  refine (b_q _).mono ?_; rintro e w6 ⟨rfl, hb6⟩
  replace K := (K.below hb6).new (.int .i64 (-1)) (.int .u64 18446744073709551612) 24; clear hb6
  go_wp2_with fail
  refine (b_s1 _).mono ?_; rintro e w7 ⟨rfl, hb7⟩
  replace K := K.below hb7; clear hb7
  go_wp2_with fail
  refine (b_f _).mono ?_; rintro e w8 ⟨rfl, hb8⟩
  replace K := K.below hb8; clear hb8
  go_wp2_with fail
  refine (b_s2 _).mono ?_; rintro e w9 ⟨rfl, hb9⟩
  replace K := K.below hb9; clear hb9
  go_wp2_with fail
  refine (b_s3 _).mono ?_; rintro e w10 ⟨rfl, hb10⟩
  replace K := K.below hb10; clear hb10
  go_wp2_with fail
  try simp only [List.append_eq, List.cons_append, List.nil_append]
  go_region_held3 (fun w' => w'.cell? ⟨w6.heap.size, 0, none⟩ = some (.int .i64 (-1)) ∧ w'.cell? ⟨w6.heap.size, 1, none⟩ = some (.int .u64 18446744073709551612))
    (first | (exact ⟨K.at0.1, K.at0.2.1⟩) | (exact ⟨K.drew.at0.1, K.drew.at0.2.1⟩))
    (first
      | (go_at_call 29; refine (b_m4 _).mono ?_; rintro e wn ⟨rfl, hbn⟩; (first | replace K := K.below hbn | replace K := K.drew.below hbn); obtain ⟨z0, z1, z2⟩ := K.at0))
  go_wp2_with fail
  go_ret
  exact ⟨rfl, K.1⟩
end Go.Proofs.Ytiegfehmhlabcaa
