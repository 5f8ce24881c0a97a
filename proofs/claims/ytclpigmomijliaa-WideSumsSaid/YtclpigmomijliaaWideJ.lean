/-
  WideTells of layer 2 answers true, for whatever numbers in range. No conditions besides.
-/
import Derived.Test.YtclpigmomijliaaWideF1
import Derived.Test.YtclpigmomijliaaWideE
import Derived.Test.YtclpigmomijliaaRefY
import Derived.Test.YtclpigmomijliaaWideH
namespace Go.Proofs.Ytclpigmomijliaa
open Go.RowKit
set_option linter.unusedSimpArgs false
set_option linter.unusedVariables false

theorem Big.drewB {w : World} {v : Value} {x : Int} (h : Big w v x) : Big w.drew v x := h.below (Below.refl _ _).drew
theorem cmpv_self (x : Int) : cmpv x x = 0 := by unfold cmpv; simp
theorem Keeps.three {w0 w : World} {a b c : Nat × Value × Value} {l : List (Nat × Value × Value)} (h : Keeps w0 w (a :: b :: c :: l)) :
    w.cell? ⟨a.1, 0, none⟩ = some a.2.1 ∧ w.cell? ⟨a.1, 1, none⟩ = some a.2.2 ∧ w.cell? ⟨b.1, 0, none⟩ = some b.2.1 ∧ w.cell? ⟨b.1, 1, none⟩ = some b.2.2 ∧ w.cell? ⟨c.1, 0, none⟩ = some c.2.1 ∧ w.cell? ⟨c.1, 1, none⟩ = some c.2.2 :=
  ⟨h.at0.1, h.at0.2.1, h.at1.1, h.at1.2.1, h.at2.1, h.at2.2.1⟩
theorem big_same {x : Int} (hl : (digs x.natAbs).length ≤ 1000) (w : World) (v v' : Value) (hv : Big w v x) (hv' : Big w v' x) :
    Calls Try.prog 12 #[v, v'] w fun e w' => e = .returned (.int .i64 0) ∧ Below w.heap.size w w' := by
  have := bcmp v v' x x w hv hv' hl hl (by rw [Int.sub_self]; simp [digs_zero])
  rwa [cmpv_self] at this
theorem wof_v {x : Int} (hx : InV x) (w : World) :
    Calls Try.prog 13 #[.agg #[.int .i64 (vhi x), .int .u64 (vlo x)]] w fun e w' => ∃ u, e = .returned u ∧ Big w' u x ∧ Below w.heap.size w w' := by
  have := wof_any (vhi x) (vlo x) (vhi_R x) (vlo_U x) w
  rwa [of_wide hx] at this
theorem v_len {x : Int} (hx : InV x) : (digs x.natAbs).length ≤ 40 := by rw [← of_wide hx]; exact wide_len (vhi_R x) (vlo_U x)

set_option maxHeartbeats 8000000 in
set_option maxRecDepth 100000 in
theorem tells2_any (a b : Int) (ha : InR a) (hb : InR b) (haw : ∀ w, Calls Try.prog 15 #[] w fun e w' => e = .returned (.bool true) ∧ Below w.heap.size w w') (w : World) :
    Calls Try.prog 3 #[.int .i64 a, .int .i64 b] w fun e w' => e = .returned (.bool true) ∧ Below w.heap.size w w' := by
  have la := digs_19 ha; have lb := digs_19 hb
  have hab := mul_inV ha hb
  have lp := v_len hab
  have hOa := of_any a ha; have hOb := of_any b hb
  have hTi := fun (w : World) (v v' : Value) (h : Big w v a) (h' : Big w v' b) => btimes v v' a b w h h' (by omega) (by omega)
  have hTo := fun (w : World) (v : Value) (h : Big w v (a * b)) => told_any v (a * b) w h (by omega)
  have hCa := big_same (x := a) (by omega)
  have hCp := big_same (x := a * b) (by omega)
  have hWa := wof_v (inV_of ha); have hWp := wof_v hab
  have hM := w_mul a b ha hb
  have hI := w_int (a * b) hab
  have hO := w_of a ha
  generalize a * b = p at *
  generalize vhi p = ph at *; generalize vlo p = pl at *; generalize vhi a = ah at *; generalize vlo a = al at *
  generalize tv p = tp at *; generalize te p = ep at *
  clear la lb lp hab ha hb
  go_enter Try.func3, Try.ntmps3
  go_wp2_with fail
  refine (hOa _).mono ?_; rintro e w1 ⟨r1, rfl, hr1, hb1⟩
  go_wp2_with fail
  refine (hOb _).mono ?_; rintro e w2 ⟨r2, rfl, hr2, hb2⟩
  have HB := Lib.hid (And.intro (hr1.below hb2) hr2)
  obtain ⟨ra, ca, rfl⟩ := hr1.form
  obtain ⟨rb, cb, rfl⟩ := hr2.form
  clear hr1 hr2
  generalize decide (a < 0) = sa at *; generalize decide (b < 0) = sb at *; generalize (digs a.natAbs).length = la at *; generalize (digs b.natAbs).length = lb at *
  have K := (((Keeps.start w).below hb1).below hb2).new2 (.bool sa) (.slice ra la ca) (.bool sb) (.slice rb lb cb) 24 24; clear hb1 hb2
  replace HB := Lib.hid (And.intro ((HB.out.1.alloc (.cells #[.bool sa, .slice ra la ca] 24)).alloc (.cells #[.bool sb, .slice rb lb cb] 24)) ((HB.out.2.alloc (.cells #[.bool sa, .slice ra la ca] 24)).alloc (.cells #[.bool sb, .slice rb lb cb] 24)))
  go_wp2_with fail
  refine (hM _).mono ?_; rintro e w3 ⟨rfl, hb3⟩
  replace K := (K.below hb3).new (.int .i64 ph) (.int .u64 pl) 28
  replace HB := Lib.hid (And.intro ((HB.out.1.below hb3).alloc (.cells #[.int .i64 ph, .int .u64 pl] 28)) ((HB.out.2.below hb3).alloc (.cells #[.int .i64 ph, .int .u64 pl] 28)))
  clear hb3
  go_wp2_with fail
  refine (hI _).mono ?_; rintro e w4 ⟨rfl, hb4⟩
  replace K := K.below hb4
  replace HB := Lib.hid (And.intro (HB.out.1.below hb4) (HB.out.2.below hb4))
  clear hb4
  obtain ⟨z0, z1, z2, z3, z4, z5⟩ := K.three
  go_wp2_with fail
  refine (hTi _ _ _ HB.out.1 HB.out.2).mono ?_; rintro e w5 ⟨r5, rfl, hr5, hb5⟩
  replace K := K.below hb5
  replace HB := Lib.hid (And.intro (HB.out.1.below hb5) (HB.out.2.below hb5))
  clear hb5 z0 z1 z2 z3 z4 z5
  go_wp2_with fail
  refine (hTo _ _ hr5).mono ?_; rintro e w6 ⟨rfl, hb6⟩
  replace K := K.below hb6
  replace HB := Lib.hid (And.intro (HB.out.1.below hb6).drewB (HB.out.2.below hb6).drewB)
  clear hb6 hr5
  go_wp2_with fail
  go_region_held3 (fun w' => w'.cell? ⟨w3.heap.size, 0, none⟩ = some (.int .i64 ph) ∧ w'.cell? ⟨w3.heap.size, 1, none⟩ = some (.int .u64 pl) ∧ w'.cell? ⟨w2.heap.size + 1, 0, none⟩ = some (.bool sb) ∧ w'.cell? ⟨w2.heap.size + 1, 1, none⟩ = some (.slice rb lb cb) ∧ w'.cell? ⟨w2.heap.size, 0, none⟩ = some (.bool sa) ∧ w'.cell? ⟨w2.heap.size, 1, none⟩ = some (.slice ra la ca))
    (first | (exact K.three) | (exact K.drew.three))
    (first
      | (go_at_call 14; refine (hO _).mono ?_; rintro e wn ⟨rfl, hbn⟩; replace K := K.drew.below hbn; replace HB := Lib.hid (And.intro (HB.out.1.below hbn) (HB.out.2.below hbn)); obtain ⟨z0, z1, z2, z3, z4, z5⟩ := K.three)
      | (go_at_call 13; (first | with_reducible refine (hWa _).mono ?_ | with_reducible refine (hWp _).mono ?_); rintro e wn ⟨rn, rfl, hrn, hbn⟩; replace K := K.below hbn; replace HB := Lib.hid (And.intro (HB.out.1.below hbn) (HB.out.2.below hbn)); obtain ⟨z0, z1, z2, z3, z4, z5⟩ := K.three)
      | (go_at_call 11; refine (hTi _ _ _ HB.out.1 HB.out.2).mono ?_; rintro e wm ⟨rm, rfl, hrm, hbm⟩; replace K := K.below hbm; replace HB := Lib.hid (And.intro (HB.out.1.below hbm) (HB.out.2.below hbm)); have hq := hrn.below hbm; obtain ⟨z0, z1, z2, z3, z4, z5⟩ := K.three)
      | (go_at_call 12; (first | refine (hCp _ _ _ hq hrm).mono ?_ | refine (hCa _ _ _ hrn HB.out.1).mono ?_); rintro e wn ⟨rfl, hbn⟩; replace K := K.below hbn; replace HB := Lib.hid (And.intro (HB.out.1.below hbn) (HB.out.2.below hbn)); obtain ⟨z0, z1, z2, z3, z4, z5⟩ := K.three)
      | (go_at_call 15; refine (haw _).mono ?_; rintro e wn ⟨rfl, hbn⟩; replace K := K.below hbn; obtain ⟨z0, z1, z2, z3, z4, z5⟩ := K.three))
  go_wp2_with fail
  go_ret
  exact ⟨rfl, K.1⟩
end Go.Proofs.Ytclpigmomijliaa
