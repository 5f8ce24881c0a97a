/-
  What the document's own Told of wide numbers (gavelkindref02) answers, where a wide number is the whole number, or the error is told of one that is none. The condition: at most 300 digits.
-/
import Derived.Test.YtclpigmomijliaaRefX
namespace Go.Proofs.Ytclpigmomijliaa
open Go.RowKit
set_option linter.unusedVariables false

set_option maxHeartbeats 1000000 in
theorem told2_out (v : Value) (x : Int) (w : World) (hv : Big w v x) (hl : (digs x.natAbs).length ≤ 300) (hx : ¬ InV x) :
    Calls Try.prog 19 #[.agg #[.int .i64 0, .int .u64 0], .int .i64 10, v] w fun e w' => e = .returned (.bool true) ∧ Below w.heap.size w w' := by
  obtain ⟨a, c, rfl⟩ := hv.form
  have hF := fits_any _ x _ (hv.below (below2 w (.cells #[.int .i64 0, .int .u64 0] 28) (.cells #[.bool (decide (x < 0)), .slice a (digs x.natAbs).length c] 24))) hl
  rw [decide_eq_false hx] at hF
  clear hv hx
  go_enter Try.func19, Try.ntmps19
  go_wp2_with fail
  refine hF.mono ?_; rintro e w1 ⟨rfl, hb1⟩
  obtain ⟨x0, x1, x2, x3⟩ := twobox hb1
  go_wp2_with fail
  go_ret
  exact ⟨rfl, (below2 _ _ _).trans (hb1.mono (by simp; omega))⟩

set_option maxHeartbeats 1000000 in
theorem told2_in (v : Value) (h l : Int) (w : World) (hh : InR h) (hu : InU l) (hv : Big w v (wideOf h l)) (hx : InV (wideOf h l)) :
    Calls Try.prog 19 #[.agg #[.int .i64 h, .int .u64 l], .int .i64 0, v] w fun e w' => e = .returned (.bool true) ∧ Below w.heap.size w w' := by
  have hl := wide_len hh hu
  have hd : (digs (wideOf h l - wideOf h l).natAbs).length ≤ 2000 := by rw [Int.sub_self]; simp [digs_zero]
  have hc0 : cmpv (wideOf h l) (wideOf h l) = 0 := by unfold cmpv; simp
  have hO := wof_any h l hh hu
  generalize wideOf h l = x at *
  obtain ⟨a, c, rfl⟩ := hv.form
  have HV := Lib.hid (hv.below (below2 w (.cells #[.int .i64 h, .int .u64 l] 28) (.cells #[.bool (decide (x < 0)), .slice a (digs x.natAbs).length c] 24)))
  have hF := fits_any _ x _ HV.out (by omega)
  rw [decide_eq_true hx] at hF
  have hC := fun w1 r1 v1 (h1 : Big w1 r1 x) (h2 : Big w1 v1 x) => bcmp r1 v1 x x w1 h1 h2 (by omega) (by omega) hd
  rw [hc0] at hC
  generalize decide (x < 0) = sx at *
  generalize (digs x.natAbs).length = lx at *
  clear hv hx hc0
  go_enter Try.func19, Try.ntmps19
  go_wp2_with fail
  refine hF.mono ?_; rintro e w1 ⟨rfl, hb1⟩
  obtain ⟨x0, x1, x2, x3⟩ := twobox hb1
  go_wp2_with fail
  go_region_held3 (fun w' => w'.cell? ⟨w.heap.size, 0, none⟩ = some (.int .i64 h) ∧ w'.cell? ⟨w.heap.size, 1, none⟩ = some (.int .u64 l) ∧ w'.cell? ⟨w.heap.size + 1, 0, none⟩ = some (.bool sx) ∧ w'.cell? ⟨w.heap.size + 1, 1, none⟩ = some (.slice a lx c)) (first | (exact ⟨x0, x1, x2, x3⟩) | (exact twobox hb12) | (exact twobox hb13))
    (first
      | (go_at_call 13; refine (hO w1.drew).mono ?_; rintro e w2 ⟨r2, rfl, hr2, hb2⟩; have hb12 := hb1.drew.trans (hb2.mono hb1.size); obtain ⟨y0, y1, y2, y3⟩ := twobox hb12)
      | (go_at_call 12; refine (hC _ _ _ hr2 (HV.out.below hb12)).mono ?_; rintro e w3 ⟨rfl, hb3⟩; have hb13 := hb12.trans (hb3.mono hb12.size); obtain ⟨z0, z1, z2, z3⟩ := twobox hb13))
  go_wp2
  go_ret
  exact ⟨rfl, (below2 _ _ _).trans (hb13.mono (by simp; omega))⟩
end Go.Proofs.Ytclpigmomijliaa
