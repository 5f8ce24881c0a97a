/-
  What the document's own Norm, Inverse, Times and Apply (gavelkindref04) answer, for whatever rates. No conditions besides.
-/
import Derived.Test.YtkkioemlajagjaaRefV
import Derived.Test.YtkkioemlajagjaaRefT
import Derived.Test.YtkkioemlajagjaaRefS
namespace Go.Proofs.Ytkkioemlajagjaa
open Go.RowKit
set_option linter.unusedSimpArgs false
set_option linter.unusedVariables false

theorem rlowest_i (x y : Int) (v v' : Value) (w : World) (hv : Big w v x) (hv' : Big w v' y) (hx : 0 < x) (hy : 0 < y) (hl : (digs x.natAbs).length ≤ 300) (hl' : (digs y.natAbs).length ≤ 300) :
    Calls Try.prog 24 #[v, v'] w fun e w' => e = .returned (.tuple #[.agg #[.int .i64 (lown x.toNat y.toNat), .int .i64 (lowd x.toNat y.toNat)], .bool (decide (LowOk x.toNat y.toNat))]) ∧ Below w.heap.size w w' := by
  obtain ⟨X, rfl⟩ := Int.eq_ofNat_of_zero_le (Int.le_of_lt hx)
  obtain ⟨Y, rfl⟩ := Int.eq_ofNat_of_zero_le (Int.le_of_lt hy)
  rw [Int.natAbs_natCast] at hl hl'
  rw [Int.toNat_natCast, Int.toNat_natCast]
  exact rlowest_any X Y v v' w hv hv' (by omega) (by omega) hl hl'

set_option maxHeartbeats 8000000 in
set_option maxRecDepth 100000 in
theorem rnorm_any (n d : Int) (w : World) :
    Calls Try.prog 10 #[.agg #[.int .i64 n, .int .i64 d]] w fun e w' => e = .returned (.agg #[.int .i64 (normn n d), .int .i64 (normd n d)]) ∧ Below w.heap.size w w' := by
  have hc := rcheck_any n d
  have K := ((Keeps.start w).new (.int .i64 n) (.int .i64 d) 23).alloc (.cells #[.int .i64 0, .int .i64 0] 23)
  have HO := Lib.hid (Ow2.new2 w (.cells #[.int .i64 n, .int .i64 d] 23) (.int .i64 0) (.int .i64 0) 23)
  unfold normn normd
  by_cases h : OkR n d
  · rw [if_pos h, if_pos h]
    rw [rc_ok h] at hc
    have hi := ok_inR h
    have hOn := of_any n hi.1; have hOd := of_any d hi.2
    have ln := digs_19 hi.1; have ld := digs_19 hi.2
    have hL := fun (w : World) (v v' : Value) (hv : Big w v n) (hv' : Big w v' d) => rlowest_i n d v v' w hv hv' (by unfold OkR at h; omega) (by unfold OkR at h; omega) (by omega) (by omega)
    generalize lown n.toNat d.toNat = rn at *; generalize lowd n.toNat d.toNat = rd at *; generalize decide (LowOk n.toNat d.toNat) = ok at *
    clear h hi ln ld
    go_enter Try.func10, Try.ntmps10
    go_wp2_with fail
    refine (hc _).mono ?_; rintro e w0 ⟨rfl, hb0⟩
    have KH := Lib.hid (K.below hb0)
    replace HO := Lib.hid (HO.out.below hb0)
    have NN := Lib.hid (Ow2.new w0 (.int .i64 0) (.int .i64 0) 23)
    clear K hb0
    go_upto_region 3 with fail
    go_cut [3, 4] (fun s3 s4 wx => ∃ B3, s3 = .pointer (some ⟨B3, 0, none⟩) ∧ Below w.heap.size w wx ∧ Ow2 wx (w.heap.size + 1) (.int .i64 0) (.int .i64 0) ∧ At2 wx B3 (.int .i64 rn) (.int .i64 rd))
    case first =>
      go_region_held3 (fun w' => w'.cell? ⟨w.heap.size, 0, none⟩ = some (.int .i64 n) ∧ w'.cell? ⟨w.heap.size, 1, none⟩ = some (.int .i64 d))
        ((refine Keeps.one (l := []) (w0 := w) (a := (w.heap.size, .int .i64 n, .int .i64 d)) ?_; repeat first | with_reducible exact KH.out | with_reducible exact K3.out | with_reducible exact K2.out | with_reducible exact K1.out | with_reducible refine Keeps.drew ?_ | with_reducible refine Keeps.alloc ?_ _ | with_reducible refine Keeps.set ?_ KH.out.size KH.out.lt | with_reducible refine Keeps.set ?_ K1.out.size K1.out.lt | with_reducible refine Keeps.set ?_ K2.out.size K2.out.lt))
        (first
          | (go_at_call 25; (with_reducible first | refine (hOn _).mono ?_); rintro e w1 ⟨u1, rfl, hu1, hbn⟩
             have K1' : Keeps w w1 [(w.heap.size, .int .i64 n, .int .i64 d)] := by with_reducible first | exact KH.out.drew.below hbn | exact (KH.out.alloc _).drew.below hbn | exact (KH.out.drew.alloc _).below hbn
             have K1 := Lib.hid K1'; clear K1'
             obtain ⟨y0, y1⟩ := K1.out.one
             have o1' : Ow2 w1 (w.heap.size + 1) (.int .i64 0) (.int .i64 0) := by with_reducible first | exact HO.out.drew.below hbn | exact (HO.out.alloc _).drew.below hbn | exact (HO.out.drew.alloc _).below hbn
             have o1 := Lib.hid o1'; clear o1'
             have g1 := Lib.hid hu1; clear hu1
             have s1 : Hid ((w.heap.size + 1) < w1.heap.size) := o1.out.at.2.2
             try (with_reducible first | have n1' := NN.out.drew.below hbn
                  have n1 := Lib.hid n1'
                  obtain ⟨⟨p0, p1, p2⟩, p3, p4⟩ := n1')
             clear hbn)
          | (go_at_call 25; (with_reducible first | refine (hOd _).mono ?_); rintro e w2 ⟨u2, rfl, hu2, hbn⟩
             have K2' : Keeps w w2 [(w.heap.size, .int .i64 n, .int .i64 d)] := by with_reducible first | exact K1.out.below hbn | exact (K1.out.alloc _).below hbn
             have K2 := Lib.hid K2'; clear K2'
             obtain ⟨y0, y1⟩ := K2.out.one
             have o2' : Ow2 w2 (w.heap.size + 1) (.int .i64 0) (.int .i64 0) := by with_reducible first | exact o1.out.below hbn | exact (o1.out.alloc _).below hbn
             have o2 := Lib.hid o2'; clear o2'
             have g1' : Big w2 u1 n := by with_reducible first | exact g1.out.below hbn | exact (g1.out.alloc _).below hbn
             replace g1 := Lib.hid g1'; clear g1'
             have g2 := Lib.hid hu2; clear hu2
             have s2 : Hid ((w.heap.size + 1) < w2.heap.size) := o2.out.at.2.2
             try (with_reducible first | have n2' := n1.out.below hbn | have n2' := (Ow2.new w1 (.int .i64 0) (.int .i64 0) 23).below hbn
                  have n2 := Lib.hid n2'
                  obtain ⟨⟨p0, p1, p2⟩, p3, p4⟩ := n2')
             clear hbn)
          | (go_at_call 24; (with_reducible first | refine (hL _ _ _ g1.out g2.out).mono ?_ | refine (hL _ _ _ (g1.out.alloc _) (g2.out.alloc _)).mono ?_); rintro e w3 ⟨rfl, hbn⟩
             have K3' : Keeps w w3 [(w.heap.size, .int .i64 n, .int .i64 d)] := by with_reducible first | exact K2.out.below hbn | exact (K2.out.alloc _).below hbn
             have K3 := Lib.hid K3'; clear K3'
             obtain ⟨y0, y1⟩ := K3.out.one
             have o3' : Ow2 w3 (w.heap.size + 1) (.int .i64 0) (.int .i64 0) := by with_reducible first | exact o2.out.below hbn | exact (o2.out.alloc _).below hbn
             have o3 := Lib.hid o3'; clear o3'
             have g1' : Big w3 u1 n := by with_reducible first | exact g1.out.below hbn | exact (g1.out.alloc _).below hbn
             replace g1 := Lib.hid g1'; clear g1'
             have g2' : Big w3 u2 d := by with_reducible first | exact g2.out.below hbn | exact (g2.out.alloc _).below hbn
             replace g2 := Lib.hid g2'; clear g2'
             have s3 : Hid ((w.heap.size + 1) < w3.heap.size) := o3.out.at.2.2
             try (with_reducible first | have n3' := n2.out.below hbn | have n3' := (Ow2.new w2 (.int .i64 0) (.int .i64 0) 23).below hbn
                  have n3 := Lib.hid n3'
                  obtain ⟨⟨p0, p1, p2⟩, p3, p4⟩ := n3')
             clear hbn))
      all_goals (go_wp2_with fail)
      all_goals go_meet
      all_goals refine ⟨_, rfl, (?_ : Keeps w _ [(w.heap.size, .int .i64 n, .int .i64 d)]).1, ?_, ?_⟩
      all_goals (have z1 := s1.out; have z2 := s2.out; have z3 := HO.out.at.2.2)
      all_goals repeat with_reducible first
        | exact K3.out | exact o3.out | exact n3.out.at
        | refine Keeps.set ?_ KH.out.size KH.out.lt | refine Keeps.set ?_ K1.out.size K1.out.lt | refine Keeps.set ?_ K2.out.size K2.out.lt
        | refine Keeps.alloc ?_ _
        | refine Ow2.setne ?_ (by omega)
        | refine Ow2.alloc ?_ _
        | refine At2.put (p := .int .i64 0) (q := .int .i64 0) ?_
        | refine At2.new' (by simp [World.setCell])
        | refine At2.alloc ?_ _
    case rest =>
      obtain ⟨B3, rfl, hb, o, a3⟩ := hcut
      clear KH HO NN
      obtain ⟨⟨o0, o1, o2⟩, f1, f2⟩ := o
      obtain ⟨x0, x1, x2⟩ := a3
      go_wp2_with fail
      refine bodyPost_ret (v := .agg #[.int .i64 rn, .int .i64 rd]) (by simp [results, Try.results10, go_sem, o0, o1]) rfl ⟨rfl, ?_⟩
      exact below_set2 hb (by omega)
  · rw [if_neg h, if_neg h]
    have hz := rc_b h
    generalize rc n d = e1 at *
    clear h
    go_enter Try.func10, Try.ntmps10
    go_wp2_with fail
    refine (hc _).mono ?_; rintro e w0 ⟨rfl, hb0⟩
    replace K := K.below hb0
    obtain ⟨⟨o0, o1, o2⟩, f1, f2⟩ := HO.out.below hb0
    go_wp2_with fail
    refine bodyPost_ret (v := .agg #[.int .i64 0, .int .i64 0]) (by simp [results, Try.results10, go_sem, o0, o1]) rfl ⟨rfl, ?_⟩
    exact below_set2 K.1 (by omega)

set_option maxHeartbeats 2000000 in
theorem rinverse_any (n d : Int) (w : World) :
    Calls Try.prog 17 #[.agg #[.int .i64 n, .int .i64 d]] w fun e w' => e = .returned (.tuple #[.agg #[.int .i64 (normn d n), .int .i64 (normd d n)], .int .i64 (rc n d)]) ∧ Below w.heap.size w w' := by
  have hc := rcheck_any n d
  have hN := rnorm_any d n
  have K := ((Keeps.start w).new (.int .i64 n) (.int .i64 d) 23).alloc (.cells #[.int .i64 0, .int .i64 0] 23)
  have HO := Lib.hid (Ow2.new2 w (.cells #[.int .i64 n, .int .i64 d] 23) (.int .i64 0) (.int .i64 0) 23)
  by_cases h : OkR n d
  · rw [rc_ok h] at hc ⊢
    generalize normn d n = rn at *; generalize normd d n = rd at *
    clear h
    go_enter Try.func17, Try.ntmps17
    go_wp2_with fail
    refine (hc _).mono ?_; rintro e w0 ⟨rfl, hb0⟩
    replace K := K.below hb0
    replace HO := Lib.hid (HO.out.below hb0)
    clear hb0
    obtain ⟨y0, y1⟩ := K.one
    go_wp2_with fail
    refine (hN _).mono ?_; rintro e w1 ⟨rfl, hb1⟩
    replace K := K.below hb1
    obtain ⟨⟨o0, o1, o2⟩, f1, f2⟩ := HO.out.below hb1
    clear y0 y1
    go_wp2_with fail
    refine bodyPost_ret (v := .tuple #[.agg #[.int .i64 rn, .int .i64 rd], .int .i64 0]) (by simp [results, Try.results17, go_sem, o0, o1]) rfl ⟨rfl, ?_⟩
    exact below_set2 K.1 (by omega)
  · have hs : ¬ OkR d n := fun k => h (by unfold OkR at k ⊢; omega)
    have hz := rc_b h
    rw [show normn d n = 0 from if_neg hs, show normd d n = 0 from if_neg hs]
    have H11 := Lib.hid (rc_no h)
    generalize rc n d = e1 at *
    clear h hs hN
    go_enter Try.func17, Try.ntmps17
    go_wp2_with fail
    refine (hc _).mono ?_; rintro e w0 ⟨rfl, hb0⟩
    replace K := K.below hb0
    obtain ⟨⟨o0, o1, o2⟩, f1, f2⟩ := HO.out.below hb0
    go_wp2_with fail
    refine bodyPost_ret (v := .tuple #[.agg #[.int .i64 0, .int .i64 0], .int .i64 11]) (by simp [results, Try.results17, go_sem, o0, o1]) rfl ⟨by rw [H11.out], ?_⟩
    exact below_set2 K.1 (by omega)

set_option maxHeartbeats 2000000 in
theorem rapply_any (x n d : Int) (hx : InR x) (w : World) :
    Calls Try.prog 21 #[.int .i64 x, .agg #[.int .i64 n, .int .i64 d]] w fun e w' => e = .returned (.tuple #[.int .i64 (av x n d), .int .i64 (ae x n d)]) ∧ Below w.heap.size w w' := by
  have hc := rcheck_any n d
  have K := (Keeps.start w).new (.int .i64 n) (.int .i64 d) 23
  unfold av ae
  by_cases h : OkR n d
  · rw [if_pos h, if_pos h]
    rw [rc_ok h] at hc
    have hS := fun w => rscale_any x n d w hx (ok_inR h).1 (ok_inR h).2
    rw [sv_yes (by unfold OkR at h; omega), se_yes (by unfold OkR at h; omega)] at hS
    generalize tv (nearv (x * n) d) = a at *; generalize te (nearv (x * n) d) = b at *
    clear h hx
    go_enter Try.func21, Try.ntmps21
    go_wp2_with fail
    refine (hc _).mono ?_; rintro e w0 ⟨rfl, hb0⟩
    replace K := K.below hb0
    clear hb0
    obtain ⟨y0, y1⟩ := K.one
    go_wp2_with fail
    refine (hS _).mono ?_; rintro e w1 ⟨rfl, hb1⟩
    replace K := K.below hb1
    go_wp2_with fail
    go_ret2
    exact ⟨rfl, K.1⟩
  · rw [if_neg h, if_neg h]
    have hz := rc_b h
    generalize rc n d = e1 at *
    clear h hx
    go_enter Try.func21, Try.ntmps21
    go_wp2_with fail
    refine (hc _).mono ?_; rintro e w0 ⟨rfl, hb0⟩
    replace K := K.below hb0
    go_wp2_with fail
    go_ret2
    exact ⟨rfl, K.1⟩

end Go.Proofs.Ytkkioemlajagjaa
