/-
  What scale's own rounded answers with Floor's closure. No conditions besides.
-/
import Derived.Test.YtiegfehmhlabcaaScaB
import Derived.Test.YtiegfehmhlabcaaScaM
import Derived.Test.YtiegfehmhlabcaaWideD0
namespace Go.Proofs.Ytiegfehmhlabcaa
open Go.RowKit
set_option linter.unusedSimpArgs false
set_option linter.unusedVariables false

set_option maxHeartbeats 400000 in
theorem above_none (h v l : Int) (w : World) :
    Calls Try.prog 36 #[.agg #[.int .i64 h, .int .u64 v], .int .i64 l] w fun e w' => e = .returned (.bool false) ∧ Below w.heap.size w w' := by
  go_enter Try.func36, Try.ntmps36
  go_wp2_with fail
  go_ret
  exact ⟨rfl, below1 _ _⟩

set_option maxHeartbeats 1000000 in
theorem floor_no (x d : Int) (w : World) (h : d < 1) :
    Calls Try.prog 25 #[.agg #[.int .i64 (vhi x), .int .u64 (vlo x)], .int .i64 d, .func (.func 36) #[] #[]] w fun e w' => e = .returned (.tuple #[.int .i64 0, .int .i64 2]) ∧ Below w.heap.size w w' := by
  have hQ := quo_no x d h
  generalize vhi x = xh at *; generalize vlo x = xl at *
  go_enter Try.func25, Try.ntmps25
  go_wp2_with fail
  refine (hQ _).mono ?_; rintro e w1 ⟨rfl, hb1⟩
  go_wp2_with fail
  go_ret2
  have j := (below1 w (.cells #[.int .i64 xh, .int .u64 xl] 24)).trans (hb1.mono (by simp))
  exact ⟨rfl, j.alloc j.size _⟩

set_option maxHeartbeats 1000000 in
theorem floor_stay (x d : Int) (w : World) (hx : InV x) (hd : InR d) (h1 : 1 ≤ d) (hq : InV (x / d))
    (hA : ∀ w', Below w.heap.size w w' → Calls Try.prog 36 #[.agg #[.int .i64 (vhi (x / d)), .int .u64 (vlo (x / d))], .int .i64 (x % d)] w' fun e w'' => e = .returned (.bool false) ∧ Below w'.heap.size w' w'') :
    Calls Try.prog 25 #[.agg #[.int .i64 (vhi x), .int .u64 (vlo x)], .int .i64 d, .func (.func 36) #[] #[]] w fun e w' => e = .returned (.tuple #[.int .i64 (tv (x / d)), .int .i64 (te (x / d))]) ∧ Below w.heap.size w w' := by
  have hQ := quo_ok x d hx hd h1
  have hI := w_int (x / d) hq
  generalize tv (x / d) = a at *; generalize te (x / d) = b at *
  generalize vhi (x / d) = qh at *; generalize vlo (x / d) = ql at *; generalize x % d = r at *
  generalize vhi x = xh at *; generalize vlo x = xl at *
  clear hx hd hq h1
  go_enter Try.func25, Try.ntmps25
  go_wp2_with fail
  refine (hQ _).mono ?_; rintro e w1 ⟨rfl, hb1⟩
  have K := (((Keeps.start w).new (.int .i64 xh) (.int .u64 xl) 24).below hb1).new (.int .i64 qh) (.int .u64 ql) 24
  clear hb1
  go_wp2_with fail
  refine (hA _ K.1).mono ?_; rintro e w2 ⟨rfl, hb2⟩
  replace K := K.below hb2; clear hb2
  obtain ⟨y0, y1, y2⟩ := K.at0
  go_wp2_with fail
  refine (hI _).mono ?_; rintro e w3 ⟨rfl, hb3⟩
  replace K := K.below hb3
  go_wp2_with fail
  go_ret2
  exact ⟨rfl, K.1⟩
end Go.Proofs.Ytiegfehmhlabcaa
