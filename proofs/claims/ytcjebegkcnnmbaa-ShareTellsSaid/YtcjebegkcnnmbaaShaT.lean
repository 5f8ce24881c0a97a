/-
  ShareTells of layer 5 answers true, for whatever amount and share in range. No conditions besides.
-/
import Derived.Test.YtcjebegkcnnmbaaShaH
import Derived.Test.YtcjebegkcnnmbaaRefSa
namespace Go.Proofs.Ytcjebegkcnnmbaa
open Go.RowKit
set_option linter.unusedSimpArgs false
set_option linter.unusedVariables false

set_option maxHeartbeats 2000000 in
set_option maxRecDepth 100000 in
theorem tells5_any (x s : Int) (hx : InR x) (haw : ∀ w, Calls Try.prog 13 #[] w fun e w' => e = .returned (.bool true) ∧ Below w.heap.size w w') (w : World) :
    Calls Try.prog 3 #[.int .i64 x, .int .i64 s] w fun e w' => e = .returned (.bool true) ∧ Below w.heap.size w w' := by
  have h1 := h_parent x s hx; have h2 := r5parent_any x s hx
  have h3 := h_minor x s hx; have h4 := r5minor_any x s hx
  have h5 := h_check s; have h6 := r5check_any s
  generalize parv x s = p at *; generalize minv x s = m at *; generalize shc s = c at *
  clear hx
  have K := Keeps.start w
  go_enter Try.func3, Try.ntmps3
  go_wp2_with fail
  refine (h1 _).mono ?_; rintro e w1 ⟨rfl, hb1⟩
  replace K := K.below hb1; clear hb1
  go_wp2_with fail
  refine (h2 _).mono ?_; rintro e w2 ⟨rfl, hb2⟩
  replace K := K.below hb2; clear hb2
  go_wp2_with fail
  refine (h3 _).mono ?_; rintro e w3 ⟨rfl, hb3⟩
  replace K := K.below hb3; clear hb3
  go_wp2_with fail
  refine (h4 _).mono ?_; rintro e w4 ⟨rfl, hb4⟩
  replace K := K.below hb4; clear hb4
  go_wp2_with fail
  refine (h5 _).mono ?_; rintro e w5 ⟨rfl, rfl⟩
  go_wp2_with fail
  refine (h6 _).mono ?_; rintro e w6 ⟨rfl, rfl⟩
  go_wp2_with fail
  refine (haw _).mono ?_; rintro e w7 ⟨rfl, hb7⟩
  replace K := K.below hb7
  go_wp2_with fail
  go_ret
  exact ⟨rfl, K.1⟩

theorem tells5_all (x s : Int) (hx : InR x) (w : World) :
    Calls Try.prog 3 #[.int .i64 x, .int .i64 s] w fun e w' => e = .returned (.bool true) ∧ Below w.heap.size w w' :=
  tells5_any x s hx h_awake w
end Go.Proofs.Ytcjebegkcnnmbaa
