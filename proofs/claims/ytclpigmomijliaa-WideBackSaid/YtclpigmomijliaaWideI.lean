/-
  WideBack of layer 2 answers true, for whatever number in range and whatever wide numbers. No conditions besides.
-/
import Derived.Test.YtclpigmomijliaaWideF1
import Derived.Test.YtclpigmomijliaaWideE
import Derived.Deep.DeepCutAuto
import Derived.Deep.RegionWith
import Derived.BigQuiet
namespace Go.Proofs.Ytclpigmomijliaa
open Go.RowKit
set_option linter.unusedSimpArgs false
set_option linter.unusedVariables false

theorem back_int {x : Int} (hx : InV x) : (te x = 0 ∧ ∀ w, Calls Try.prog 14 #[.int .i64 (tv x)] w fun e w' => e = .returned (.agg #[.int .i64 (vhi x), .int .u64 (vlo x)]) ∧ Below w.heap.size w w') ∨ (te x == 0) = false := by
  by_cases h : InR x
  · left; rw [tv_in h, te_in h]; exact ⟨rfl, w_of x h⟩
  · right; rw [te_out h]; rfl
theorem back_add {x y : Int} (hx : InV x) (hy : InV y) : (ve (x + y) = 0 ∧ ∀ w, Calls Try.prog 17 #[.agg #[.int .i64 (vhi (vt (x + y))), .int .u64 (vlo (vt (x + y)))], .agg #[.int .i64 (vhi y), .int .u64 (vlo y)]] w fun e w' =>
    e = .returned (.tuple #[.agg #[.int .i64 (vhi x), .int .u64 (vlo x)], .int .i64 0]) ∧ Below w.heap.size w w') ∨ (ve (x + y) == 0) = false := by
  by_cases h : InV (x + y)
  · left; rw [vt_in h, ve_in h]; refine ⟨rfl, ?_⟩
    have := w_sub (x + y) y h hy
    rw [show x + y - y = x by omega, vt_in hx, ve_in hx] at this
    exact this
  · right; rw [ve_out h]; rfl
theorem cmpv_bd' (x y : Int) : -1 ≤ cmpv x y ∧ cmpv x y ≤ 1 := by unfold cmpv; split <;> (try split) <;> omega
theorem cmpv_opp (x : Int) : cmpv (-x) 0 = - cmpv x 0 := by unfold cmpv; repeat' split <;> omega
theorem cmpv_swap (x y : Int) : cmpv y x = - cmpv x y := by unfold cmpv; repeat' split <;> omega
theorem back_neg {x : Int} (hx : InV x) : (ve (-x) = 0 ∧ (∀ w, Calls Try.prog 18 #[.agg #[.int .i64 (vhi (vt (-x))), .int .u64 (vlo (vt (-x)))]] w fun e w' =>
    e = .returned (.tuple #[.agg #[.int .i64 (vhi x), .int .u64 (vlo x)], .int .i64 0]) ∧ Below w.heap.size w w') ∧
    (∀ w, Calls Try.prog 24 #[.agg #[.int .i64 (vhi (vt (-x))), .int .u64 (vlo (vt (-x)))]] w fun e w' => e = .returned (.int .i64 (- cmpv x 0)) ∧ Below w.heap.size w w')) ∨ (ve (-x) == 0) = false := by
  by_cases h : InV (-x)
  · left; rw [vt_in h, ve_in h]; refine ⟨rfl, ?_, ?_⟩
    · have := w_neg (-x) h
      rw [Int.neg_neg, vt_in hx, ve_in hx] at this
      exact this
    · have := w_sign (-x) h
      rw [cmpv_opp] at this
      exact this
  · right; rw [ve_out h]; rfl
theorem back_cmp {x y : Int} (hx : InV x) (hy : InV y) : (cmpv x y = 0 ∧ cmpv y x = 0 ∧ vhi y = vhi x ∧ vlo y = vlo x) ∨ ((cmpv x y == 0) = false ∧ (vhi x == vhi y) = false) ∨ ((cmpv x y == 0) = false ∧ vhi y = vhi x ∧ (vlo x == vlo y) = false) := by
  by_cases h : x = y
  · subst h; left; refine ⟨?_, ?_, rfl, rfl⟩ <;> (unfold cmpv; simp)
  · have hc : (cmpv x y == 0) = false := by
      have : cmpv x y ≠ 0 := by unfold cmpv; split <;> (try split) <;> omega
      simpa using this
    right
    by_cases h1 : vhi x = vhi y
    · right; refine ⟨hc, h1.symm, ?_⟩
      have : ¬ vlo x = vlo y := fun h2 => h (v_ext hx hy h1 h2)
      simpa using this
    · left; exact ⟨hc, by simpa using h1⟩

set_option maxHeartbeats 8000000 in
set_option maxRecDepth 100000 in
theorem back2_any (n x y : Int) (hn : InR n) (hx : InV x) (hy : InV y) (haw : ∀ w, Calls Try.prog 15 #[] w fun e w' => e = .returned (.bool true) ∧ Below w.heap.size w w') (w : World) :
    Calls Try.prog 5 #[.int .i64 n, .agg #[.int .i64 (vhi x), .int .u64 (vlo x)], .agg #[.int .i64 (vhi y), .int .u64 (vlo y)]] w fun e w' => e = .returned (.bool true) ∧ Below w.heap.size w w' := by
  have hO := w_of n hn
  have hI := w_int n (inV_of hn)
  rw [tv_in hn, te_in hn] at hI
  have hIx := w_int x hx
  have HI := Lib.hid (back_int hx)
  have hA := w_add x y hx hy
  have HA := Lib.hid (back_add hx hy)
  have hN := w_neg x hx
  have HN := Lib.hid (back_neg hx)
  have hS := w_sign x hx
  have hC1 := w_cmp x y hx hy
  have hC2 := w_cmp y x hy hx
  have HE := Lib.hid (back_cmp hx hy)
  have hws : IntKind.i64.wrap (- cmpv x 0) = - cmpv x 0 := by have := cmpv_bd' x 0; rw [IntKind.wrap_i64]; omega
  have hwd : IntKind.i64.wrap (- cmpv y x) = cmpv x y := by have := cmpv_bd' x y; rw [cmpv_swap x y, IntKind.wrap_i64]; omega
  generalize cmpv x y = c at *; generalize cmpv y x = d at *; generalize cmpv x 0 = sx at *
  generalize te x = ie at *; generalize tv x = iv at *
  generalize ve (x + y) = ue at *; generalize vhi (vt (x + y)) = uh at *; generalize vlo (vt (x + y)) = ul at *
  generalize ve (-x) = ne at *; generalize vhi (vt (-x)) = nh at *; generalize vlo (vt (-x)) = nl at *
  generalize vhi x = xh at *; generalize vlo x = xl at *; generalize vhi y = yh at *; generalize vlo y = yl at *
  generalize vhi n = mh at *; generalize vlo n = ml at *
  clear hn hx hy
  go_enter Try.func5, Try.ntmps5
  go_wp2_with fail
  refine (hO _).mono ?_; rintro e w1 ⟨rfl, hb1⟩
  have K := ((Keeps.start w).new2 (.int .i64 xh) (.int .u64 xl) (.int .i64 yh) (.int .u64 yl) 28 28).below hb1; clear hb1
  go_wp2_with fail
  refine (hI _).mono ?_; rintro e w2 ⟨rfl, hb2⟩
  replace K := K.below hb2; clear hb2
  obtain ⟨x0, x1, x2⟩ := K.at1
  go_wp2_with fail
  refine (hIx _).mono ?_; rintro e w3 ⟨rfl, hb3⟩
  replace K := K.below hb3; clear hb3 x0 x1 x2
  go_upto_region 5 with fail
  go_cut [44] (fun s wx => s = .bool false ∧ Keeps w wx [(w.heap.size + 1, .int .i64 yh, .int .u64 yl), (w.heap.size, .int .i64 xh, .int .u64 xl)])
  case first =>
    rcases HI.out with ⟨rfl, hO2⟩ | hie
    · go_region_held3 (fun w' => w'.cell? ⟨w.heap.size, 0, none⟩ = some (.int .i64 xh) ∧ w'.cell? ⟨w.heap.size, 1, none⟩ = some (.int .u64 xl))
        (first | (exact ⟨K.at1.1, K.at1.2.1⟩) | (exact ⟨K.drew.at1.1, K.drew.at1.2.1⟩))
        (first
          | (go_at_call 14; refine (hO2 _).mono ?_; rintro e wn ⟨rfl, hbn⟩; replace K := K.drew.below hbn; obtain ⟨y0, y1, y2⟩ := K.at1))
      go_wp2_with fail
      go_meet
      exact ⟨rfl, K⟩
    · obtain ⟨y0, y1, y2⟩ := K.at1
      go_quiet (fail)
      go_wp2_with fail
      go_meet
      exact ⟨rfl, K.drewN _⟩
  case rest =>
    clear K
    obtain ⟨rfl, K⟩ := hcut
    obtain ⟨y0, y1, y2⟩ := K.at0
    obtain ⟨x0, x1, x2⟩ := K.at1
    go_wp2_with fail
    refine (hA _).mono ?_; rintro e w4 ⟨rfl, hb4⟩
    replace K := (K.below hb4).new (.int .i64 uh) (.int .u64 ul) 28; clear hb4 x0 x1 x2 y0 y1 y2
    go_upto_if 52 with fail
    go_cut [] (fun wx => Keeps w wx [(w4.heap.size, .int .i64 uh, .int .u64 ul), (w.heap.size + 1, .int .i64 yh, .int .u64 yl), (w.heap.size, .int .i64 xh, .int .u64 xl)])
    case first =>
      rcases HA.out with ⟨rfl, hSub⟩ | hue
      · obtain ⟨u0, u1, u2⟩ := K.at0
        obtain ⟨y0, y1, y2⟩ := K.at1
        go_wp2_with fail
        refine (hSub _).mono ?_; rintro e w5 ⟨rfl, hb5⟩
        replace K := (K.below hb5).new (.int .i64 xh) (.int .u64 xl) 28; clear hb5
        obtain ⟨v0, v1, v2⟩ := K.at0
        obtain ⟨x0, x1, x2⟩ := K.at3
        go_wp2_with fail
        go_meet
        exact K.tail
      · go_wp2_with fail
        go_meet
        exact K
    case rest =>
      clear K
      have K := hcut; clear hcut
      obtain ⟨x0, x1, x2⟩ := K.at2
      go_wp2_with fail
      refine (hN _).mono ?_; rintro e w6 ⟨rfl, hb6⟩
      replace K := (K.below hb6).tail.new (.int .i64 nh) (.int .u64 nl) 28; clear hb6 x0 x1 x2
      go_upto_if 72 with fail
      go_cut [] (fun wx => Keeps w wx [(w.heap.size + 1, .int .i64 yh, .int .u64 yl), (w.heap.size, .int .i64 xh, .int .u64 xl)])
      case first =>
        rcases HN.out with ⟨rfl, hN2, hS2⟩ | hne
        · obtain ⟨u0, u1, u2⟩ := K.at0
          go_wp2_with fail
          refine (hN2 _).mono ?_; rintro e w7 ⟨rfl, hb7⟩
          replace K := (K.below hb7).new (.int .i64 xh) (.int .u64 xl) 28; clear hb7 u0 u1 u2
          go_wp2_with fail
          go_region_held3 (fun w' => w'.cell? ⟨w7.heap.size, 0, none⟩ = some (.int .i64 xh) ∧ w'.cell? ⟨w7.heap.size, 1, none⟩ = some (.int .u64 xl) ∧ w'.cell? ⟨w6.heap.size, 0, none⟩ = some (.int .i64 nh) ∧ w'.cell? ⟨w6.heap.size, 1, none⟩ = some (.int .u64 nl) ∧
              w'.cell? ⟨w.heap.size + 1, 0, none⟩ = some (.int .i64 yh) ∧ w'.cell? ⟨w.heap.size + 1, 1, none⟩ = some (.int .u64 yl) ∧ w'.cell? ⟨w.heap.size, 0, none⟩ = some (.int .i64 xh) ∧ w'.cell? ⟨w.heap.size, 1, none⟩ = some (.int .u64 xl))
            (first | (exact K.four) | (exact K.drew.four))
            (first
              | (go_at_call 24; (first | with_reducible refine (hS2 _).mono ?_ | with_reducible refine (hS _).mono ?_); rintro e wn ⟨rfl, hbn⟩; (first | replace K := K.below hbn | replace K := K.drew.below hbn); obtain ⟨z0, z1, z2, z3, z4, z5, z6, z7⟩ := K.four))
          go_wp2_with fail
          go_meet
          exact K.tail.tail
        · go_wp2_with fail
          go_meet
          exact K.tail
      case rest =>
        clear K
        have K := hcut; clear hcut
        rcases HE.out with ⟨rfl, rfl, rfl, rfl⟩ | ⟨hc0, hh⟩ | ⟨hc0, rfl, hl⟩
        · clear hwd
          have hw0 : IntKind.i64.wrap 0 = 0 := by rw [IntKind.wrap_i64]; omega
          go_wp2_with fail
          go_region_held3 (fun w' => w'.cell? ⟨w.heap.size + 1, 0, none⟩ = some (.int .i64 yh) ∧ w'.cell? ⟨w.heap.size + 1, 1, none⟩ = some (.int .u64 yl) ∧ w'.cell? ⟨w.heap.size, 0, none⟩ = some (.int .i64 yh) ∧ w'.cell? ⟨w.heap.size, 1, none⟩ = some (.int .u64 yl))
            (first | (exact K.two) | (exact K.drew.two))
            (first
              | (go_at_call 23; (first | with_reducible refine (hC1 _).mono ?_ | with_reducible refine (hC2 _).mono ?_); rintro e wn ⟨rfl, hbn⟩; (first | replace K := K.below hbn | replace K := K.drew.below hbn); obtain ⟨z0, z1, z2, z3⟩ := K.two)
              | (go_at_call 15; refine (haw _).mono ?_; rintro e wn ⟨rfl, hbn⟩; replace K := K.below hbn; obtain ⟨z0, z1, z2, z3⟩ := K.two))
          go_wp2_with fail
          go_ret
          exact ⟨rfl, K.1⟩
        · go_wp2_with fail
          go_region_held3 (fun w' => w'.cell? ⟨w.heap.size + 1, 0, none⟩ = some (.int .i64 yh) ∧ w'.cell? ⟨w.heap.size + 1, 1, none⟩ = some (.int .u64 yl) ∧ w'.cell? ⟨w.heap.size, 0, none⟩ = some (.int .i64 xh) ∧ w'.cell? ⟨w.heap.size, 1, none⟩ = some (.int .u64 xl))
            (first | (exact K.two) | (exact K.drew.two))
            (first
              | (go_at_call 23; (first | with_reducible refine (hC1 _).mono ?_ | with_reducible refine (hC2 _).mono ?_); rintro e wn ⟨rfl, hbn⟩; (first | replace K := K.below hbn | replace K := K.drew.below hbn); obtain ⟨z0, z1, z2, z3⟩ := K.two)
              | (go_at_call 15; refine (haw _).mono ?_; rintro e wn ⟨rfl, hbn⟩; replace K := K.below hbn; obtain ⟨z0, z1, z2, z3⟩ := K.two))
          go_wp2_with fail
          go_ret
          exact ⟨rfl, K.1⟩
        · go_wp2_with fail
          go_region_held3 (fun w' => w'.cell? ⟨w.heap.size + 1, 0, none⟩ = some (.int .i64 yh) ∧ w'.cell? ⟨w.heap.size + 1, 1, none⟩ = some (.int .u64 yl) ∧ w'.cell? ⟨w.heap.size, 0, none⟩ = some (.int .i64 yh) ∧ w'.cell? ⟨w.heap.size, 1, none⟩ = some (.int .u64 xl))
            (first | (exact K.two) | (exact K.drew.two))
            (first
              | (go_at_call 23; (first | with_reducible refine (hC1 _).mono ?_ | with_reducible refine (hC2 _).mono ?_); rintro e wn ⟨rfl, hbn⟩; (first | replace K := K.below hbn | replace K := K.drew.below hbn); obtain ⟨z0, z1, z2, z3⟩ := K.two)
              | (go_at_call 15; refine (haw _).mono ?_; rintro e wn ⟨rfl, hbn⟩; replace K := K.below hbn; obtain ⟨z0, z1, z2, z3⟩ := K.two))
          go_wp2_with fail
          go_ret
          exact ⟨rfl, K.1⟩
end Go.Proofs.Ytclpigmomijliaa
