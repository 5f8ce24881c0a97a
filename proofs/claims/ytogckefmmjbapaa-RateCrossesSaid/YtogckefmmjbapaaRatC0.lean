/-
  What ratio's own product answers. The condition: numbers in range.
-/
import Derived.Test.YtogckefmmjbapaaRatB
import Derived.Deep.DeepCutAuto
import Derived.Deep.RegionWith
namespace Go.Proofs.Ytogckefmmjbapaa
open Go.RowKit
set_option linter.unusedSimpArgs false
set_option linter.unusedVariables false

set_option maxHeartbeats 2000000 in
theorem c_product (n d : Int) (hn : InR n) (hd : InR d) (w : World) :
    Calls Try.prog 43 #[.agg #[.int .i64 n, .int .i64 d]] w fun e w' => e = .returned (.agg #[.int .i64 (vhi (n * d)), .int .u64 (vlo (n * d))]) ∧ Below w.heap.size w w' := by
  have hM := w_mul n d hn hd
  have K := ((Keeps.start w).new (.int .i64 n) (.int .i64 d) 76).alloc (.cells #[.int .i64 0, .int .u64 0] 85)
  have HO := Lib.hid (Ow2.new2 w (.cells #[.int .i64 n, .int .i64 d] 76) (.int .i64 0) (.int .u64 0) 85)
  generalize vhi (n * d) = a at *; generalize vlo (n * d) = b at *
  clear hn hd
  go_enter Try.func43, Try.ntmps43
  go_wp2_with fail
  refine (hM _).mono ?_; rintro e w0 ⟨rfl, hb0⟩
  replace K := K.below hb0
  obtain ⟨⟨o0, o1, o2⟩, f1, f2⟩ := HO.out.below hb0
  go_wp2_with fail
  refine bodyPost_ret (v := .agg #[.int .i64 a, .int .u64 b]) (by simp [results, Try.results43, go_sem, o0, o1]) rfl ⟨rfl, ?_⟩
  exact below_set2 K.1 (by omega)
end Go.Proofs.Ytogckefmmjbapaa
