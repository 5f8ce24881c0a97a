/-
  WideSums of layer 2 answers true, for whatever wide numbers. No conditions besides.
-/
import Derived.Test.YtclpigmomijliaaWideK0
import Derived.Deep.DeepCutAuto
import Derived.Deep.RegionWith
namespace Go.Proofs.Ytclpigmomijliaa
open Go.RowKit
set_option linter.unusedSimpArgs false
set_option linter.unusedVariables false

set_option maxHeartbeats 40000000 in
set_option maxRecDepth 100000 in
theorem sums2_any (x y : Int) (hx : InV x) (hy : InV y) (haw : ∀ w, Calls Try.prog 15 #[] w fun e w' => e = .returned (.bool true) ∧ Below w.heap.size w w') (w : World) :
    Calls Try.prog 4 #[.agg #[.int .i64 (vhi x), .int .u64 (vlo x)], .agg #[.int .i64 (vhi y), .int .u64 (vlo y)]] w fun e w' => e = .returned (.bool true) ∧ Below w.heap.size w w' := by
  have lx := v_len hx; have ly := v_len hy
  have lp := digs_len_plus lx ly; have lm := digs_len_minus lx ly
  have ln : (digs (-x).natAbs).length ≤ 40 := by rw [Int.natAbs_neg]; exact lx
  have hWx := wof_w hx; have hWy := wof_w hy
  have hA := w_add x y hx hy; have hS := w_sub x y hx hy; have hN := w_neg x hx; have hI := w_int x hx
  have hTo := fun (w : World) (v : Value) (h : Big w v x) => told_any v x w h (by omega)
  have hPl := fun (w : World) (v v' : Value) (h : Big w v x) (h' : Big w v' y) => bplus v v' x y w h h' (by omega) (by omega)
  have hMi := fun (w : World) (v v' : Value) (h : Big w v x) (h' : Big w v' y) => bminus v v' x y w h h' (by omega) (by omega)
  have hFl := fun (w : World) (v : Value) (h : Big w v x) => flip_any v x w h (by omega)
  have hT1 := told_v (z := x + y) (by omega); have hT2 := told_v (z := x - y) (by omega); have hT3 := told_v (z := -x) (by omega)
  have hC := w_cmp x y hx hy; have hG := w_sign x hx
  have hBc := fun (w : World) (v v' : Value) (h : Big w v x) (h' : Big w v' y) => bcmp v v' x y w h h' (by omega) (by omega) (by omega)
  have hBz := fun (w : World) (v : Value) (h : Big w v x) => bcmp v _ x 0 w h (big_nul w) (by omega) (by simp [digs_zero]) (by rw [Int.sub_zero]; omega)
  generalize decide (x < 0) = sx at *; generalize decide (y < 0) = sy at *; generalize (digs x.natAbs).length = lx' at *; generalize (digs y.natAbs).length = ly' at *
  clear lx ly lp lm ln hx hy
  generalize vhi (vt (x + y)) = uh at *; generalize vlo (vt (x + y)) = ul at *; generalize ve (x + y) = ue at *
  generalize vhi (vt (x - y)) = dh at *; generalize vlo (vt (x - y)) = dl at *; generalize ve (x - y) = de at *
  generalize vhi (vt (-x)) = nh at *; generalize vlo (vt (-x)) = nl at *; generalize ve (-x) = ne at *
  generalize cmpv x y = c at *; generalize cmpv x 0 = g at *; generalize tv x = ti at *; generalize te x = ei at *
  generalize vhi x = xh at *; generalize vlo x = xl at *; generalize vhi y = yh at *; generalize vlo y = yl at *
  go_enter Try.func4, Try.ntmps4
  have K0 := (Keeps.start w).new2 (.int .i64 xh) (.int .u64 xl) (.int .i64 yh) (.int .u64 yl) 28 28
  have T0 := Lib.hid K0.at1; have T1 := Lib.hid K0.at0
  have N1 : Hid (Ow2 (((w.alloc (.cells #[.int .i64 xh, .int .u64 xl] 28)).alloc (.cells #[.int .i64 yh, .int .u64 yl] 28)).alloc (.cells #[.bool false, .slice none 0 0] 24)) (w.heap.size + 1 + 1) (.bool false) (.slice none 0 0)) := by
    have := Ow2.new ((w.alloc (.cells #[.int .i64 xh, .int .u64 xl] 28)).alloc (.cells #[.int .i64 yh, .int .u64 yl] 28)) (.bool false) (.slice none 0 0) 24
    rwa [show ((w.alloc (.cells #[.int .i64 xh, .int .u64 xl] 28)).alloc (.cells #[.int .i64 yh, .int .u64 yl] 28)).heap.size = w.heap.size + 1 + 1 by simp] at this
  have N2 : Hid (Ow2 ((((w.alloc (.cells #[.int .i64 xh, .int .u64 xl] 28)).alloc (.cells #[.int .i64 yh, .int .u64 yl] 28)).alloc (.cells #[.bool false, .slice none 0 0] 24)).alloc (.cells #[.bool false, .slice none 0 0] 24)) (w.heap.size + 1 + 1 + 1) (.bool false) (.slice none 0 0)) := by
    have := Ow2.new (((w.alloc (.cells #[.int .i64 xh, .int .u64 xl] 28)).alloc (.cells #[.int .i64 yh, .int .u64 yl] 28)).alloc (.cells #[.bool false, .slice none 0 0] 24)) (.bool false) (.slice none 0 0) 24
    rwa [show (((w.alloc (.cells #[.int .i64 xh, .int .u64 xl] 28)).alloc (.cells #[.int .i64 yh, .int .u64 yl] 28)).alloc (.cells #[.bool false, .slice none 0 0] 24)).heap.size = w.heap.size + 1 + 1 + 1 by simp] at this
  have KH := Lib.hid K0; clear K0
  go_upto_region 1 with fail
  go_cut [5, 6] (fun s5 s6 wx => ∃ B5 B6 ra ca rb cb, s5 = .pointer (some ⟨B5, 0, none⟩) ∧ s6 = .pointer (some ⟨B6, 0, none⟩) ∧
      Keeps w wx [(w.heap.size + 1, .int .i64 yh, .int .u64 yl), (w.heap.size, .int .i64 xh, .int .u64 xl)] ∧
      At2 wx B5 (.bool sx) (.slice ra lx' ca) ∧ At2 wx B6 (.bool sy) (.slice rb ly' cb) ∧ Big wx (.agg #[.bool sx, .slice ra lx' ca]) x ∧ Big wx (.agg #[.bool sy, .slice rb ly' cb]) y)
  case first =>
    go_region_held3 (fun w' => w'.cell? ⟨w.heap.size + 1, 0, none⟩ = some (.int .i64 yh) ∧ w'.cell? ⟨w.heap.size + 1, 1, none⟩ = some (.int .u64 yl) ∧ w'.cell? ⟨w.heap.size, 0, none⟩ = some (.int .i64 xh) ∧ w'.cell? ⟨w.heap.size, 1, none⟩ = some (.int .u64 xl))
      ((refine Keeps.two (l := []) (w0 := w) (a := (w.heap.size + 1, .int .i64 yh, .int .u64 yl)) (b := (w.heap.size, .int .i64 xh, .int .u64 xl)) ?_; repeat first | with_reducible exact KH.out | with_reducible exact KI.out | with_reducible exact K2.out | with_reducible refine Keeps.drew ?_ | with_reducible refine Keeps.alloc ?_ _ | with_reducible refine Keeps.set ?_ (by have := sz.out; omega) (by intro b hb; have := sz.out; simp at hb; rcases hb with rfl | rfl <;> simp <;> omega)))
      (first
        | (go_at_call 13; with_reducible refine (hWx _).mono ?_; rintro e w1 ⟨ra, ca, rfl, hr1, hb1⟩
           have K1 : Keeps w w1 [(w.heap.size + 1, .int .i64 yh, .int .u64 yl), (w.heap.size, .int .i64 xh, .int .u64 xl)] := by
             with_reducible first | exact KH.out.drew.below hb1 | exact (KH.out.alloc _).drew.below hb1 | exact ((KH.out.alloc _).alloc _).drew.below hb1 | exact (KH.out.drew.alloc _).below hb1 | exact ((KH.out.drew.alloc _).alloc _).below hb1
           obtain ⟨y0, y1, y2⟩ := K1.at0
           obtain ⟨x0, x1, x2⟩ := K1.at1
           have KI := Lib.hid K1
           clear K1
           try (have n1' : Ow2 w1 (w.heap.size + 1 + 1) (.bool false) (.slice none 0 0) := by
                  with_reducible first | exact N1.out.drew.below hb1 | exact (N1.out.alloc _).drew.below hb1
                have n1 := Lib.hid n1'
                obtain ⟨⟨n10, n11, n12⟩, n13, n14⟩ := n1')
           try (have n2' : Ow2 w1 (w.heap.size + 1 + 1 + 1) (.bool false) (.slice none 0 0) := by with_reducible exact N2.out.drew.below hb1
                have n2 := Lib.hid n2'
                obtain ⟨⟨n20, n21, n22⟩, n23, n24⟩ := n2'))
        | (go_at_call 13; with_reducible refine (hWy _).mono ?_; rintro e w2 ⟨rb, cb, rfl, hr2, hb2⟩
           have K2' : Keeps w w2 [(w.heap.size + 1, .int .i64 yh, .int .u64 yl), (w.heap.size, .int .i64 xh, .int .u64 xl)] := by
             with_reducible first | exact KI.out.below hb2 | exact (KI.out.alloc _).below hb2 | exact ((KI.out.alloc _).alloc _).below hb2
           have K2 := Lib.hid K2'
           clear K2'
           have R1' : Big w2 (.agg #[.bool sx, .slice ra lx' ca]) x := by
             with_reducible first | exact hr1.below hb2 | exact (hr1.alloc _).below hb2 | exact ((hr1.alloc _).alloc _).below hb2
           have R1 := Lib.hid R1'
           have R2 := Lib.hid hr2
           clear R1' hr2
           have szb := hb2.size
           have sz : Hid (w.heap.size + 1 < w1.heap.size ∧ w1.heap.size ≤ w2.heap.size) := by
             refine ⟨(KI.out.at0).2.2, ?_⟩
             first | with_reducible exact szb | (simp at szb; omega)
           clear szb
           try (have m1' : Ow2 w2 (w.heap.size + 1 + 1) (.bool false) (.slice none 0 0) := by
                  with_reducible first | exact n1.out.below hb2 | exact (n1.out.alloc _).below hb2 | exact ((n1.out.alloc _).alloc _).below hb2
                have m1 := Lib.hid m1'
                have l1 := Lib.hid n1.out.1.2.2
                obtain ⟨⟨m10, m11, m12⟩, m13, m14⟩ := m1')
           try (have m2' : Ow2 w2 (w.heap.size + 1 + 1 + 1) (.bool false) (.slice none 0 0) := by
                  with_reducible first | exact n2.out.below hb2 | exact (n2.out.alloc _).below hb2 | exact ((n2.out.alloc _).alloc _).below hb2
                have m2 := Lib.hid m2'
                have l2 := Lib.hid n2.out.1.2.2
                obtain ⟨⟨m20, m21, m22⟩, m23, m24⟩ := m2')
           try (have q1' : Ow2 w2 w1.heap.size (.bool false) (.slice none 0 0) := by
                  with_reducible first | exact (Ow2.new w1 _ _ _).below hb2 | exact ((Ow2.new w1 _ _ _).alloc _).below hb2
                have q1 := Lib.hid q1'
                obtain ⟨⟨q10, q11, q12⟩, q13, q14⟩ := q1')
           try (have q2' : Ow2 w2 (w1.heap.size + 1) (.bool false) (.slice none 0 0) := by with_reducible exact (Ow2.new2 w1 _ _ _ _).below hb2
                have q2 := Lib.hid q2'
                obtain ⟨⟨q20, q21, q22⟩, q23, q24⟩ := q2')))
    all_goals (go_wp2_with fail)
    all_goals go_meet
    all_goals with_reducible refine ⟨_, _, ra, ca, rb, cb, rfl, rfl, ?_, ?_, ?_, ?_, ?_⟩
    all_goals (obtain ⟨sz1, sz2⟩ := sz.out)
    all_goals (try have z1 := l1.out)
    all_goals (try have z2 := l2.out)
    all_goals (try have z3 := q1.out.1.2.2)
    all_goals (try have z4 := q2.out.1.2.2)
    all_goals (try have z5 := m1.out.1.2.2)
    all_goals (try have z6 := m2.out.1.2.2)
    all_goals repeat with_reducible first
      | exact K2.out | exact R1.out | exact R2.out | exact m1.out.at | exact m2.out.at | exact q1.out.at | exact q2.out.at
      | refine Keeps.set ?_ (by omega) (by intro b hb; simp at hb; rcases hb with rfl | rfl <;> simp <;> omega)
      | refine Keeps.alloc ?_ _
      | refine At2.put (p := .bool false) (q := .slice none 0 0) ?_
      | refine At2.new' (by simp [World.setCell])
      | refine At2.alloc ?_ _
      | refine At2.setne ?_ (by omega)
      | refine Big.alloc ?_ _
      | refine Big.set ?_ (s := false) (a := none) (l := 0) (c := 0) ?_
  case rest =>
    obtain ⟨B5, B6, ra, ca, rb, cb, rfl, rfl, K, a5, a6, r5, r6⟩ := hcut
    clear KH T0 T1 N1 N2
    replace K := Keeps.of4 (a := (B6, .bool sy, .slice rb ly' cb)) (b := (B5, .bool sx, .slice ra lx' ca)) K.1 a6 a5 K.at0 K.at1
    have HB := Lib.hid (And.intro r5 r6)
    clear a5 a6 r5 r6
    obtain ⟨y0, y1, y2⟩ := K.at2
    obtain ⟨x0, x1, x2⟩ := K.at3
    go_wp2_with fail
    refine (hA _).mono ?_; rintro e w3 ⟨rfl, hb3⟩
    replace K := (K.below hb3).new (.int .i64 uh) (.int .u64 ul) 28
    replace HB := Lib.hid (And.intro ((HB.out.1.below hb3).alloc (.cells #[.int .i64 uh, .int .u64 ul] 28)) ((HB.out.2.below hb3).alloc (.cells #[.int .i64 uh, .int .u64 ul] 28)))
    clear hb3 x0 x1 x2 y0 y1 y2
    obtain ⟨y0, y1, y2⟩ := K.at3
    obtain ⟨x0, x1, x2⟩ := K.2 (w.heap.size, .int .i64 xh, .int .u64 xl) (by simp)
    go_wp2_with fail
    refine (hS _).mono ?_; rintro e w4 ⟨rfl, hb4⟩
    replace K := (K.below hb4).new (.int .i64 dh) (.int .u64 dl) 28
    replace HB := Lib.hid (And.intro ((HB.out.1.below hb4).alloc (.cells #[.int .i64 dh, .int .u64 dl] 28)) ((HB.out.2.below hb4).alloc (.cells #[.int .i64 dh, .int .u64 dl] 28)))
    clear hb4 x0 x1 x2 y0 y1 y2
    obtain ⟨x0, x1, x2⟩ := K.2 (w.heap.size, .int .i64 xh, .int .u64 xl) (by simp)
    go_wp2_with fail
    refine (hN _).mono ?_; rintro e w5 ⟨rfl, hb5⟩
    replace K := (K.below hb5).new (.int .i64 nh) (.int .u64 nl) 28
    replace HB := Lib.hid (And.intro ((HB.out.1.below hb5).alloc (.cells #[.int .i64 nh, .int .u64 nl] 28)) ((HB.out.2.below hb5).alloc (.cells #[.int .i64 nh, .int .u64 nl] 28)))
    clear hb5 x0 x1 x2
    obtain ⟨x0, x1, x2⟩ := K.2 (w.heap.size, .int .i64 xh, .int .u64 xl) (by simp)
    go_wp2_with fail
    refine (hI _).mono ?_; rintro e w6 ⟨rfl, hb6⟩
    replace K := K.below hb6
    replace HB := Lib.hid (And.intro (HB.out.1.below hb6) (HB.out.2.below hb6))
    clear hb6 x0 x1 x2
    obtain ⟨x0, x1, x2⟩ := K.2 (B5, .bool sx, .slice ra lx' ca) (by simp)
    go_wp2_with fail
    refine (hTo _ _ HB.out.1).mono ?_; rintro e w7 ⟨rfl, hb7⟩
    replace K := K.below hb7
    replace HB := Lib.hid (And.intro (HB.out.1.below hb7).drewB (HB.out.2.below hb7).drewB)
    clear hb7 x0 x1 x2
    go_wp2_with fail
    try simp only [List.append_eq, List.cons_append, List.nil_append]
    go_region_held3 (fun w' => w'.cell? ⟨w5.heap.size, 0, none⟩ = some (.int .i64 nh) ∧ w'.cell? ⟨w5.heap.size, 1, none⟩ = some (.int .u64 nl) ∧ w'.cell? ⟨w4.heap.size, 0, none⟩ = some (.int .i64 dh) ∧ w'.cell? ⟨w4.heap.size, 1, none⟩ = some (.int .u64 dl) ∧ w'.cell? ⟨w3.heap.size, 0, none⟩ = some (.int .i64 uh) ∧ w'.cell? ⟨w3.heap.size, 1, none⟩ = some (.int .u64 ul) ∧ w'.cell? ⟨B6, 0, none⟩ = some (.bool sy) ∧ w'.cell? ⟨B6, 1, none⟩ = some (.slice rb ly' cb) ∧ w'.cell? ⟨B5, 0, none⟩ = some (.bool sx) ∧ w'.cell? ⟨B5, 1, none⟩ = some (.slice ra lx' ca) ∧ w'.cell? ⟨w.heap.size + 1, 0, none⟩ = some (.int .i64 yh) ∧ w'.cell? ⟨w.heap.size + 1, 1, none⟩ = some (.int .u64 yl) ∧ w'.cell? ⟨w.heap.size, 0, none⟩ = some (.int .i64 xh) ∧ w'.cell? ⟨w.heap.size, 1, none⟩ = some (.int .u64 xl))
      (first | (exact K.seven) | (exact K.drew.seven))
      (first
        | (go_at_call 20; refine (hPl _ _ _ HB.out.1 HB.out.2).mono ?_; rintro e wn ⟨rn, rfl, hrn, hbn⟩; (first | replace K := K.below hbn | replace K := K.drew.below hbn); replace HB := Lib.hid (And.intro (HB.out.1.below hbn) (HB.out.2.below hbn)); obtain ⟨z0, z1, z2, z3, z4, z5, z6, z7, z8, z9, z10, z11, z12, z13⟩ := K.seven)
        | (go_at_call 21; refine (hMi _ _ _ HB.out.1 HB.out.2).mono ?_; rintro e wn ⟨rm, rfl, hrm, hbn⟩; replace K := K.below hbn; replace HB := Lib.hid (And.intro (HB.out.1.below hbn) (HB.out.2.below hbn)); obtain ⟨z0, z1, z2, z3, z4, z5, z6, z7, z8, z9, z10, z11, z12, z13⟩ := K.seven)
        | (go_at_call 22; refine (hFl _ _ HB.out.1).mono ?_; rintro e wn ⟨rf, rfl, hrf, hbn⟩; replace K := K.below hbn; replace HB := Lib.hid (And.intro (HB.out.1.below hbn) (HB.out.2.below hbn)); obtain ⟨z0, z1, z2, z3, z4, z5, z6, z7, z8, z9, z10, z11, z12, z13⟩ := K.seven)
        | (go_at_call 19; (first | with_reducible refine (hT1 _ _ hrn).mono ?_ | with_reducible refine (hT2 _ _ hrm).mono ?_ | with_reducible refine (hT3 _ _ hrf).mono ?_); rintro e wn ⟨rfl, hbn⟩; replace K := K.below hbn; replace HB := Lib.hid (And.intro (HB.out.1.below hbn) (HB.out.2.below hbn)); obtain ⟨z0, z1, z2, z3, z4, z5, z6, z7, z8, z9, z10, z11, z12, z13⟩ := K.seven)
        | (go_at_call 23; refine (hC _).mono ?_; rintro e wn ⟨rfl, hbn⟩; replace K := K.below hbn; replace HB := Lib.hid (And.intro (HB.out.1.below hbn) (HB.out.2.below hbn)); obtain ⟨z0, z1, z2, z3, z4, z5, z6, z7, z8, z9, z10, z11, z12, z13⟩ := K.seven)
        | (go_at_call 24; refine (hG _).mono ?_; rintro e wn ⟨rfl, hbn⟩; replace K := K.below hbn; replace HB := Lib.hid (And.intro (HB.out.1.below hbn) (HB.out.2.below hbn)); obtain ⟨z0, z1, z2, z3, z4, z5, z6, z7, z8, z9, z10, z11, z12, z13⟩ := K.seven)
        | (go_at_call 12; (first | with_reducible refine (hBc _ _ _ HB.out.1 HB.out.2).mono ?_ | with_reducible refine (hBz _ _ HB.out.1).mono ?_); rintro e wn ⟨rfl, hbn⟩; replace K := K.below hbn; replace HB := Lib.hid (And.intro (HB.out.1.below hbn) (HB.out.2.below hbn)); obtain ⟨z0, z1, z2, z3, z4, z5, z6, z7, z8, z9, z10, z11, z12, z13⟩ := K.seven)
        | (go_at_call 15; refine (haw _).mono ?_; rintro e wn ⟨rfl, hbn⟩; replace K := K.below hbn; obtain ⟨z0, z1, z2, z3, z4, z5, z6, z7, z8, z9, z10, z11, z12, z13⟩ := K.seven))
    go_wp2_with fail
    go_ret
    exact ⟨rfl, K.1⟩
end Go.Proofs.Ytclpigmomijliaa
