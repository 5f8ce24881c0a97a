/-
  ScaleScales of layer 3 answers true, for whatever three numbers in range. No conditions besides.
-/
import Derived.Test.YtiegfehmhlabcaaScaE
import Derived.Test.YtiegfehmhlabcaaRefS2
namespace Go.Proofs.Ytiegfehmhlabcaa
open Go.RowKit
set_option linter.unusedSimpArgs false
set_option linter.unusedVariables false

set_option maxHeartbeats 4000000 in
set_option maxRecDepth 100000 in
theorem scales_any (x n d : Int) (hx : InR x) (hn : InR n) (hd : InR d) (haw : ∀ w, Calls Try.prog 11 #[] w fun e w' => e = .returned (.bool true) ∧ Below w.heap.size w w') (w : World) :
    Calls Try.prog 4 #[.int .i64 x, .int .i64 n, .int .i64 d] w fun e w' => e = .returned (.bool true) ∧ Below w.heap.size w w' := by
  have h1 := s_scale x n d hx hn hd
  have h2 := fun w => rscale_any x n d w hx hn hd
  have h3 := s_floor x n d hx hn hd
  have h4 := fun w => rfloor_any x n d w hx hn hd
  generalize sv (nearv (x * n) d) d = a at *; generalize se (nearv (x * n) d) d = b at *
  generalize sv (x * n / d) d = a' at *; generalize se (x * n / d) d = b' at *
  clear hx hn hd
  go_enter Try.func4, Try.ntmps4
  go_wp2_with fail
  refine (h1 _).mono ?_; rintro e w1 ⟨rfl, hb1⟩
  have K := hb1; clear hb1
  go_wp2_with fail
  refine (h2 _).mono ?_; rintro e w2 ⟨rfl, hb2⟩
  replace K := K.trans (hb2.mono K.size); clear hb2
  go_wp2_with fail
  refine (h3 _).mono ?_; rintro e w3 ⟨rfl, hb3⟩
  replace K := K.trans (hb3.mono K.size); clear hb3
  go_wp2_with fail
  refine (h4 _).mono ?_; rintro e w4 ⟨rfl, hb4⟩
  replace K := K.trans (hb4.mono K.size); clear hb4
  go_wp2_with fail
  refine (haw _).mono ?_; rintro e w5 ⟨rfl, hb5⟩
  replace K := K.trans (hb5.mono K.size); clear hb5
  go_wp2_with fail
  go_ret
  exact ⟨rfl, K⟩

theorem scales_all (x n d : Int) (hx : InR x) (hn : InR n) (hd : InR d) (w : World) :
    Calls Try.prog 4 #[.int .i64 x, .int .i64 n, .int .i64 d] w fun e w' => e = .returned (.bool true) ∧ Below w.heap.size w w' :=
  scales_any x n d hx hn hd s_awake w
end Go.Proofs.Ytiegfehmhlabcaa
