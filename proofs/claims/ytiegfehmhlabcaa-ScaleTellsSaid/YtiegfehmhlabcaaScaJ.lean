/-
  ScaleTells of layer 3 answers true, for whatever wide number and whatever divisor in range. No conditions besides.
-/
import Derived.Test.YtiegfehmhlabcaaScaE
import Derived.Test.YtiegfehmhlabcaaWideK1
import Derived.Test.YtiegfehmhlabcaaRefS
namespace Go.Proofs.Ytiegfehmhlabcaa
open Go.RowKit
set_option linter.unusedSimpArgs false
set_option linter.unusedVariables false

theorem reven_f (x d : Int) (hx : InV x) (hd : InR d) (w : World) (v : Value) (hv : Big w v x) :
    Calls Try.prog 10 #[v, .int .i64 d] w fun e w' => e = .returned (.tuple #[.int .i64 (sv (nearv x d) d), .int .i64 (se (nearv x d) d)]) ∧ Below w.heap.size w w' :=
  reven_any v x d w hv hd (Nat.le_trans (v_len hx) (by omega))

set_option maxHeartbeats 4000000 in
set_option maxRecDepth 100000 in
theorem tells3_no (x d : Int) (hx : InV x) (hd : InR d) (h : d < 1) (haw : ∀ w, Calls Try.prog 11 #[] w fun e w' => e = .returned (.bool true) ∧ Below w.heap.size w w') (w : World) :
    Calls Try.prog 3 #[.agg #[.int .i64 (vhi x), .int .u64 (vlo x)], .int .i64 d] w fun e w' => e = .returned (.bool true) ∧ Below w.heap.size w w' := by
  have hX := fun w => wof_w hx w
  have hQ := quo_no x d h
  have hE := s_even x d hx hd
  have hF := reven_f x d hx hd
  generalize sv (nearv x d) d = n at *; generalize se (nearv x d) d = f at *
  generalize decide (x < 0) = sx at *; generalize (digs x.natAbs).length = lx at *
  generalize vhi x = xh at *; generalize vlo x = xl at *
  clear hx hd
  go_enter Try.func3, Try.ntmps3
  go_wp2_with fail
  refine (hX _).mono ?_; rintro e w1 ⟨a0, c0, rfl, hu, hb1⟩
  have K := (((Keeps.start w).new (.int .i64 xh) (.int .u64 xl) 24).below hb1).new (.bool sx) (.slice a0 lx c0) 27
  replace hu := hu.alloc (.cells #[.bool sx, .slice a0 lx c0] 27)
  have HU := Lib.hid hu
  clear hu hb1
  obtain ⟨x0, x1, x2⟩ := K.at1
  go_wp2_with fail
  refine (hQ _).mono ?_; rintro e w2 ⟨rfl, hb2⟩
  replace K := (K.below hb2).new (.int .i64 0) (.int .u64 0) 24
  replace HU := Lib.hid ((HU.out.below hb2).alloc (.cells #[.int .i64 0, .int .u64 0] 24))
  clear hb2 x0 x1 x2
  obtain ⟨x0, x1, x2⟩ := K.at2
  go_wp2_with fail
  refine (hE _).mono ?_; rintro e w3 ⟨rfl, hb3⟩
  replace K := K.below hb3
  replace HU := Lib.hid (HU.out.below hb3)
  clear hb3 x0 x1 x2
  obtain ⟨x0, x1, x2⟩ := K.at1
  go_wp2_with fail
  refine (hF _ _ HU.out).mono ?_; rintro e w4 ⟨rfl, hb4⟩
  replace K := K.below hb4
  clear hb4 x0 x1 x2
  obtain ⟨x0, x1, x2⟩ := K.at0
  go_wp2_with fail
  refine (haw _).mono ?_; rintro e w5 ⟨rfl, hb5⟩
  replace K := K.below hb5
  go_wp2_with fail
  go_ret
  exact ⟨rfl, K.1⟩

set_option maxHeartbeats 8000000 in
set_option maxRecDepth 100000 in
theorem tells3_yes (x d : Int) (hx : InV x) (hd : InR d) (h1 : 1 ≤ d) (haw : ∀ w, Calls Try.prog 11 #[] w fun e w' => e = .returned (.bool true) ∧ Below w.heap.size w w') (w : World) :
    Calls Try.prog 3 #[.agg #[.int .i64 (vhi x), .int .u64 (vlo x)], .int .i64 d] w fun e w' => e = .returned (.bool true) ∧ Below w.heap.size w w' := by
  have hq := div_inV hx h1
  have lx' := v_len hx; have lq := v_len hq; have ld := digs_19 hd
  have lr := mod_len (x := x) hd (by omega)
  have r0 := Int.emod_nonneg x (show d ≠ 0 by omega)
  have r1 := Int.emod_lt_of_pos x (show 0 < d by omega)
  have hr : InR (x % d) := by unfold InR at hd ⊢; omega
  have hX := fun w => wof_w hx w
  have hQ := quo_ok x d hx hd h1
  have hE := s_even x d hx hd
  have hF := reven_f x d hx hd
  have hOd := of_any d hd
  have hDv := fun (w : World) (v v' : Value) (h : Big w v x) (h' : Big w v' d) => bdiv_w w v v' h h' (by omega) (by omega) (by omega)
  have hW := fun w => wof_v hq w
  have hR := of_any (x % d) hr
  have hCq := fun (w : World) (v v' : Value) (h : Big w v (x / d)) (h' : Big w v' (x / d)) => big_same (by omega) w v v' h h'
  have hCr := fun (w : World) (v v' : Value) (h : Big w v (x % d)) (h' : Big w v' (x % d)) => big_same (by omega) w v v' h h'
  generalize sv (nearv x d) d = n at *; generalize se (nearv x d) d = f at *
  generalize vhi (x / d) = qh at *; generalize vlo (x / d) = ql at *
  generalize x / d = q at *; generalize x % d = r at *
  generalize decide (x < 0) = sx at *; generalize (digs x.natAbs).length = lx at *
  generalize decide (q < 0) = sq at *; generalize (digs q.natAbs).length = lq' at *
  generalize decide (r < 0) = sr at *; generalize (digs r.natAbs).length = lr' at *
  generalize vhi x = xh at *; generalize vlo x = xl at *
  clear hx hd hq hr lx' lq ld lr r0 r1
  have h1' : ¬ d < 1 := by omega
  clear h1
  go_enter Try.func3, Try.ntmps3
  go_wp2_with fail
  refine (hX _).mono ?_; rintro e w1 ⟨a0, c0, rfl, hu, hb1⟩
  have K := (((Keeps.start w).new (.int .i64 xh) (.int .u64 xl) 24).below hb1).new (.bool sx) (.slice a0 lx c0) 27
  replace hu := hu.alloc (.cells #[.bool sx, .slice a0 lx c0] 27)
  have HV := Lib.hid hu
  clear hu hb1
  obtain ⟨x0, x1, x2⟩ := K.at1
  go_wp2_with fail
  refine (hQ _).mono ?_; rintro e w2 ⟨rfl, hb2⟩
  replace K := (K.below hb2).new (.int .i64 qh) (.int .u64 ql) 24
  replace HV := Lib.hid ((HV.out.below hb2).alloc (.cells #[.int .i64 qh, .int .u64 ql] 24))
  clear hb2 x0 x1 x2
  obtain ⟨x0, x1, x2⟩ := K.at2
  go_wp2_with fail
  refine (hE _).mono ?_; rintro e w3 ⟨rfl, hb3⟩
  replace K := K.below hb3
  replace HV := Lib.hid (HV.out.below hb3)
  clear hb3 x0 x1 x2
  obtain ⟨x0, x1, x2⟩ := K.at1
  go_wp2_with fail
  refine (hF _ _ HV.out).mono ?_; rintro e w4 ⟨rfl, hb4⟩
  replace K := K.below hb4
  replace HV := Lib.hid (HV.out.below hb4)
  clear hb4 x0 x1 x2
  have KH := Lib.hid K
  have N1 := Lib.hid (Ow2.new w4 (.bool false) (.slice none 0 0) 27)
  have N2 := Lib.hid (Ow2.new2 w4 (.cells #[.bool false, .slice none 0 0] 27) (.bool false) (.slice none 0 0) 27)
  have szl : Hid (∀ b ∈ [(w2.heap.size, Value.int .i64 qh, Value.int .u64 ql), (w1.heap.size, Value.bool sx, Value.slice a0 lx c0), (w.heap.size, Value.int .i64 xh, Value.int .u64 xl)], b.1 < w4.heap.size) := K.lt
  have sz0 := Lib.hid K.size
  obtain ⟨x0, x1, x2⟩ := K.at1
  clear K
  go_upto_region 9 with fail
  go_cut [13, 14] (fun s5 s6 wx => ∃ B5 B6 ra ca rb cb, s5 = .pointer (some ⟨B5, 0, none⟩) ∧ s6 = .pointer (some ⟨B6, 0, none⟩) ∧ Keeps w wx [(w2.heap.size, .int .i64 qh, .int .u64 ql), (w1.heap.size, .bool sx, .slice a0 lx c0), (w.heap.size, .int .i64 xh, .int .u64 xl)] ∧
      At2 wx B5 (.bool sq) (.slice ra lq' ca) ∧ At2 wx B6 (.bool sr) (.slice rb lr' cb) ∧ Big wx (.agg #[.bool sq, .slice ra lq' ca]) q ∧ Big wx (.agg #[.bool sr, .slice rb lr' cb]) r)
  case first =>
    go_region_held3 (fun w' => w'.cell? ⟨w1.heap.size, 0, none⟩ = some (.bool sx) ∧ w'.cell? ⟨w1.heap.size, 1, none⟩ = some (.slice a0 lx c0))
      ((refine (fun (h : Keeps w _ [(w2.heap.size, .int .i64 qh, .int .u64 ql), (w1.heap.size, .bool sx, .slice a0 lx c0), (w.heap.size, .int .i64 xh, .int .u64 xl)]) => (And.intro h.at1.1 h.at1.2.1 : _ ∧ _)) ?_; repeat first | with_reducible exact KH.out | with_reducible exact KI.out | with_reducible exact K2.out | with_reducible refine Keeps.drew ?_ | with_reducible refine Keeps.alloc ?_ _ | with_reducible refine Keeps.set ?_ (by have := sz.out; omega) (by intro b hb; have := sz.out; have := szl.out b hb; omega)))
      (first
        | (go_at_call 13; with_reducible refine (hOd _).mono ?_; rintro e wa ⟨r1, rfl, hr1, hb1⟩
           have K1 : Keeps w wa [(w2.heap.size, .int .i64 qh, .int .u64 ql), (w1.heap.size, .bool sx, .slice a0 lx c0), (w.heap.size, .int .i64 xh, .int .u64 xl)] := by
             with_reducible first | exact KH.out.drew.below hb1 | exact (KH.out.alloc _).drew.below hb1 | exact ((KH.out.alloc _).alloc _).drew.below hb1
           obtain ⟨y0, y1, y2⟩ := K1.at1
           have KI := Lib.hid K1
           clear K1
           have v1' : Big wa (.agg #[.bool sx, .slice a0 lx c0]) x := by
             with_reducible first | exact HV.out.drawn.below hb1 | exact (HV.out.alloc _).drawn.below hb1 | exact ((HV.out.alloc _).alloc _).drawn.below hb1
           have v1 := Lib.hid v1'
           clear v1'
           have sza := hb1.size
           have sz1 : Hid (w4.heap.size ≤ wa.heap.size) := by
             show _ ≤ _
             first | with_reducible exact sza | (simp at sza; omega)
           clear sza
           try (have n1' : Ow2 wa w4.heap.size (.bool false) (.slice none 0 0) := by
                  with_reducible first | exact N1.out.drew.below hb1 | exact (N1.out.alloc _).drew.below hb1
                have n1 := Lib.hid n1'
                obtain ⟨⟨n10, n11, n12⟩, n13, n14⟩ := n1')
           try (have n2' : Ow2 wa (w4.heap.size + 1) (.bool false) (.slice none 0 0) := by with_reducible exact N2.out.drew.below hb1
                have n2 := Lib.hid n2'
                obtain ⟨⟨n20, n21, n22⟩, n23, n24⟩ := n2'))
        | (go_at_call 12
           (with_reducible first | refine (hDv _ _ _ v1.out hr1).mono ?_ | refine (hDv _ _ _ (v1.out.alloc _) (hr1.alloc _)).mono ?_ | refine (hDv _ _ _ ((v1.out.alloc _).alloc _) ((hr1.alloc _).alloc _)).mono ?_)
           rintro e wb ⟨ra, ca, rb, cb, rfl, hr2, hr3, hb2⟩
           have K2' : Keeps w wb [(w2.heap.size, .int .i64 qh, .int .u64 ql), (w1.heap.size, .bool sx, .slice a0 lx c0), (w.heap.size, .int .i64 xh, .int .u64 xl)] := by
             with_reducible first | exact KI.out.below hb2 | exact (KI.out.alloc _).below hb2 | exact ((KI.out.alloc _).alloc _).below hb2
           have K2 := Lib.hid K2'
           clear K2'
           have R1 := Lib.hid hr2
           have R2 := Lib.hid hr3
           clear hr2 hr3
           have szb := hb2.size
           have sz : Hid (w.heap.size ≤ w4.heap.size ∧ w4.heap.size ≤ wa.heap.size ∧ wa.heap.size ≤ wb.heap.size) := by
             refine ⟨sz0.out, sz1.out, ?_⟩
             first | with_reducible exact szb | (simp at szb; omega)
           clear szb
           try (have m1' : Ow2 wb w4.heap.size (.bool false) (.slice none 0 0) := by
                  with_reducible first | exact n1.out.below hb2 | exact (n1.out.alloc _).below hb2 | exact ((n1.out.alloc _).alloc _).below hb2
                have m1 := Lib.hid m1'
                have l1 := Lib.hid n1.out.at.2.2
                obtain ⟨⟨m10, m11, m12⟩, m13, m14⟩ := m1')
           try (have m2' : Ow2 wb (w4.heap.size + 1) (.bool false) (.slice none 0 0) := by
                  with_reducible first | exact n2.out.below hb2 | exact (n2.out.alloc _).below hb2 | exact ((n2.out.alloc _).alloc _).below hb2
                have m2 := Lib.hid m2'
                have l2 := Lib.hid n2.out.at.2.2
                obtain ⟨⟨m20, m21, m22⟩, m23, m24⟩ := m2')
           try (have q1' : Ow2 wb wa.heap.size (.bool false) (.slice none 0 0) := by
                  with_reducible first | exact (Ow2.new wa _ _ _).below hb2 | exact ((Ow2.new wa _ _ _).alloc _).below hb2
                have q1 := Lib.hid q1'
                obtain ⟨⟨q10, q11, q12⟩, q13, q14⟩ := q1')
           try (have q2' : Ow2 wb (wa.heap.size + 1) (.bool false) (.slice none 0 0) := by with_reducible exact (Ow2.new2 wa _ _ _ _).below hb2
                have q2 := Lib.hid q2'
                obtain ⟨⟨q20, q21, q22⟩, q23, q24⟩ := q2')))
    all_goals (go_wp2_with fail)
    all_goals go_meet
    all_goals with_reducible refine ⟨_, _, ra, ca, rb, cb, rfl, rfl, ?_, ?_, ?_, ?_, ?_⟩
    all_goals (obtain ⟨sz1, sz2, sz3⟩ := sz.out)
    all_goals (try have z1 := l1.out)
    all_goals (try have z2 := l2.out)
    all_goals repeat with_reducible first
      | exact K2.out | exact R1.out | exact R2.out | exact m1.out.at | exact m2.out.at | exact q1.out.at | exact q2.out.at
      | refine Keeps.set ?_ (by omega) (by intro b hb; have := szl.out b hb; omega)
      | refine Keeps.alloc ?_ _
      | refine At2.put (p := .bool false) (q := .slice none 0 0) ?_
      | refine At2.new' (by simp [World.setCell])
      | refine At2.alloc ?_ _
      | refine At2.setne ?_ (by omega)
      | refine Big.alloc ?_ _
      | refine Big.put ?_ (s := false) (a := none) (l := 0) (c := 0) ?_
  case rest =>
    obtain ⟨B5, B6, ra, ca, rb, cb, rfl, rfl, K, a5, a6, r5, r6⟩ := hcut
    clear KH N1 N2 HV szl sz0 x0 x1 x2
    replace K : Keeps w wc [(B5, .bool sq, .slice ra lq' ca), (B6, .bool sr, .slice rb lr' cb), (w2.heap.size, .int .i64 qh, .int .u64 ql)] := ⟨K.1, by intro b hb; simp at hb; rcases hb with rfl | rfl | rfl; exact a5; exact a6; exact K.at0⟩
    have HB := Lib.hid (And.intro r5 r6)
    clear a5 a6 r5 r6
    go_wp2_with fail
    go_region_held3 (fun w' => w'.cell? ⟨B5, 0, none⟩ = some (.bool sq) ∧ w'.cell? ⟨B5, 1, none⟩ = some (.slice ra lq' ca) ∧ w'.cell? ⟨B6, 0, none⟩ = some (.bool sr) ∧ w'.cell? ⟨B6, 1, none⟩ = some (.slice rb lr' cb) ∧ w'.cell? ⟨w2.heap.size, 0, none⟩ = some (.int .i64 qh) ∧ w'.cell? ⟨w2.heap.size, 1, none⟩ = some (.int .u64 ql))
      (first | (exact K.three) | (exact K.drew.three))
      (first
        | (go_at_call 7; refine (hW _).mono ?_; rintro e wd ⟨u1, rfl, hu1, hbd⟩; (first | (replace HB := Lib.hid (And.intro (HB.out.1.below hbd) (HB.out.2.below hbd)); replace K := K.below hbd) | (replace HB := Lib.hid (And.intro (HB.out.1.drewB.below hbd) (HB.out.2.drewB.below hbd)); replace K := K.drew.below hbd)); obtain ⟨z0, z1, z2, z3, z4, z5⟩ := K.three)
        | (go_at_call 13; refine (hR _).mono ?_; rintro e wf ⟨u2, rfl, hu2, hbf⟩; (first | (replace HB := Lib.hid (And.intro (HB.out.1.below hbf) (HB.out.2.below hbf)); replace K := K.below hbf) | (replace HB := Lib.hid (And.intro (HB.out.1.drewB.below hbf) (HB.out.2.drewB.below hbf)); replace K := K.drew.below hbf)); obtain ⟨z0, z1, z2, z3, z4, z5⟩ := K.three)
        | (go_at_call 14; (with_reducible first | refine (hCr _ _ _ hu2 HB.out.2).mono ?_ | refine (hCq _ _ _ hu1 HB.out.1).mono ?_); rintro e wg ⟨rfl, hbg⟩; replace HB := Lib.hid (And.intro (HB.out.1.below hbg) (HB.out.2.below hbg)); replace K := K.below hbg; obtain ⟨z0, z1, z2, z3, z4, z5⟩ := K.three)
        | (go_at_call 11; refine (haw _).mono ?_; rintro e wo ⟨rfl, hbo⟩; (first | replace K := K.below hbo | replace K := K.drew.below hbo); obtain ⟨z0, z1, z2, z3, z4, z5⟩ := K.three))
    go_wp2_with fail
    go_ret
    exact ⟨rfl, K.1⟩

theorem tells3_all (h l d : Int) (hh : InR h) (hl : InU l) (hd : InR d) (w : World) :
    Calls Try.prog 3 #[.agg #[.int .i64 h, .int .u64 l], .int .i64 d] w fun e w' => e = .returned (.bool true) ∧ Below w.heap.size w w' := by
  have e1 := vhi_of hh hl
  have e2 := vlo_of (h := h) hl
  by_cases c : d < 1
  · have := tells3_no (wideOf h l) d (wide_in hh hl) hd c s_awake w
    rwa [e1, e2] at this
  · have := tells3_yes (wideOf h l) d (wide_in hh hl) hd (by omega) s_awake w
    rwa [e1, e2] at this
end Go.Proofs.Ytiegfehmhlabcaa
