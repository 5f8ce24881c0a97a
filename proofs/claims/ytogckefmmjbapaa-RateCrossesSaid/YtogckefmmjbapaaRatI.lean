/-
  What ratio's own Inverse answers, for whatever rate. No conditions.
-/
import Derived.Test.YtogckefmmjbapaaRatB
namespace Go.Proofs.Ytogckefmmjbapaa
open Go.RowKit
set_option linter.unusedSimpArgs false
set_option linter.unusedVariables false

set_option maxHeartbeats 2000000 in
theorem c_inverse (n d : Int) (w : World) :
    Calls Try.prog 15 #[.agg #[.int .i64 n, .int .i64 d]] w fun e w' => e = .returned (.tuple #[.agg #[.int .i64 (normn d n), .int .i64 (normd d n)], .int .i64 (rc n d)]) ∧ Below w.heap.size w w' := by
  have hc := c_check n d
  have K := ((Keeps.start w).new (.int .i64 n) (.int .i64 d) 24).alloc (.cells #[.int .i64 0, .int .i64 0] 24)
  have HO := Lib.hid (Ow2.new2 w (.cells #[.int .i64 n, .int .i64 d] 24) (.int .i64 0) (.int .i64 0) 24)
  by_cases h : OkR n d
  · rw [rc_ok h] at hc ⊢
    have hL := c_lowest d n (ok_flip h)
    generalize normn d n = a at *; generalize normd d n = b at *
    clear h
    go_enter Try.func15, Try.ntmps15
    go_wp2_with fail
    refine (hc _).mono ?_; rintro e w0 ⟨rfl, hb0⟩
    replace K := K.below hb0
    replace HO := Lib.hid (HO.out.below hb0)
    clear hb0
    obtain ⟨y0, y1⟩ := K.one
    go_wp2_with fail
    refine (hL _).mono ?_; rintro e w1 ⟨rfl, hb1⟩
    replace K := K.below hb1
    obtain ⟨⟨o0, o1, o2⟩, f1, f2⟩ := HO.out.below hb1
    clear y0 y1
    go_wp2_with fail
    refine bodyPost_ret (v := .tuple #[.agg #[.int .i64 a, .int .i64 b], .int .i64 0]) (by simp [results, Try.results15, go_sem, o0, o1]) rfl ⟨rfl, ?_⟩
    exact below_set2 K.1 (by omega)
  · have hs : ¬ OkR d n := fun k => h (ok_flip k)
    rw [(norm_no hs).1, (norm_no hs).2]
    have hz := rc_b h
    generalize rc n d = e1 at *
    clear h hs
    go_enter Try.func15, Try.ntmps15
    go_wp2_with fail
    refine (hc _).mono ?_; rintro e w0 ⟨rfl, hb0⟩
    replace K := K.below hb0
    obtain ⟨⟨o0, o1, o2⟩, f1, f2⟩ := HO.out.below hb0
    go_wp2_with fail
    refine bodyPost_ret (v := .tuple #[.agg #[.int .i64 0, .int .i64 0], .int .i64 e1]) (by simp [results, Try.results15, go_sem, o0, o1]) rfl ⟨rfl, ?_⟩
    exact below_set2 K.1 (by omega)
end Go.Proofs.Ytogckefmmjbapaa
