/-
  What the document's own Times (gavelkindref04) answers, for whatever rates. No conditions besides.
-/
import Derived.Test.YtkkioemlajagjaaRefZ
namespace Go.Proofs.Ytkkioemlajagjaa
open Go.RowKit
set_option linter.unusedSimpArgs false
set_option linter.unusedVariables false

set_option maxHeartbeats 8000000 in
set_option maxRecDepth 100000 in
theorem rtimes_ok (n d m f : Int) (ha : OkR n d) (hb : OkR m f) (w : World) :
    Calls Try.prog 19 #[.agg #[.int .i64 n, .int .i64 d], .agg #[.int .i64 m, .int .i64 f]] w fun e w' => e = .returned (.tuple #[.agg #[.int .i64 (lown (n * m).toNat (d * f).toNat), .int .i64 (lowd (n * m).toNat (d * f).toNat)], .int .i64 (if LowOk (n * m).toNat (d * f).toNat then 0 else 10)]) ∧ Below w.heap.size w w' := by
  have h1 := rcheck_any n d; have h2 := rcheck_any m f
  rw [rc_ok ha] at h1
  rw [rc_ok hb] at h2
  have hi := ok_inR ha; have hj := ok_inR hb
  have hOn := of_any n hi.1; have hOd := of_any d hi.2; have hOm := of_any m hj.1; have hOf := of_any f hj.2
  have ln := digs_19 hi.1; have ld := digs_19 hi.2; have lm := digs_19 hj.1; have lf := digs_19 hj.2
  have l1 := digs_len_times ln lm; have l2 := digs_len_times ld lf
  have hT1 := fun (w : World) (v v' : Value) (h : Big w v n) (h' : Big w v' m) => btimes v v' n m w h h' (by omega) (by omega)
  have hT2 := fun (w : World) (v v' : Value) (h : Big w v d) (h' : Big w v' f) => btimes v v' d f w h h' (by omega) (by omega)
  have p1 : 0 < n * m := Int.mul_pos (by unfold OkR at ha; omega) (by unfold OkR at hb; omega)
  have p2 : 0 < d * f := Int.mul_pos (by unfold OkR at ha; omega) (by unfold OkR at hb; omega)
  have hL := fun (w : World) (v v' : Value) (hv : Big w v (n * m)) (hv' : Big w v' (d * f)) => rlowest_i (n * m) (d * f) v v' w hv hv' p1 p2 (by omega) (by omega)
  have HQ : Hid ((decide (LowOk (n * m).toNat (d * f).toNat) = true ∧ (if LowOk (n * m).toNat (d * f).toNat then 0 else 10 : Int) = 0) ∨ (decide (LowOk (n * m).toNat (d * f).toNat) = false ∧ (if LowOk (n * m).toNat (d * f).toNat then 0 else 10 : Int) = 10 ∧ lown (n * m).toNat (d * f).toNat = 0 ∧ lowd (n * m).toNat (d * f).toNat = 0)) := by
    show _ ∨ _
    unfold lown lowd
    by_cases h : LowOk (n * m).toNat (d * f).toNat
    · left; exact ⟨decide_eq_true h, if_pos h⟩
    · right; exact ⟨decide_eq_false h, if_neg h, if_neg h, if_neg h⟩
  generalize (if LowOk (n * m).toNat (d * f).toNat then 0 else 10 : Int) = er at *
  generalize lown (n * m).toNat (d * f).toNat = rn at *; generalize lowd (n * m).toNat (d * f).toNat = rd at *; generalize decide (LowOk (n * m).toNat (d * f).toNat) = ok at *
  clear ha hb hi hj ln ld lm lf l1 l2 p1 p2
  have K := ((Keeps.start w).new2 (.int .i64 n) (.int .i64 d) (.int .i64 m) (.int .i64 f) 23 23).alloc (.cells #[.int .i64 0, .int .i64 0] 23)
  have HO := Lib.hid (Ow2.new3 w (.cells #[.int .i64 n, .int .i64 d] 23) (.cells #[.int .i64 m, .int .i64 f] 23) (.int .i64 0) (.int .i64 0) 23)
  go_enter Try.func19, Try.ntmps19
  go_wp2_with fail
  refine (h1 _).mono ?_; rintro e wa ⟨rfl, hb0⟩
  replace K := K.below hb0
  replace HO := Lib.hid (HO.out.below hb0)
  clear hb0
  obtain ⟨y0, y1, y2, y3⟩ := K.two
  go_wp2_with fail
  refine (h2 _).mono ?_; rintro e w0 ⟨rfl, hb0⟩
  have KH := Lib.hid (K.below hb0)
  replace HO := Lib.hid (HO.out.below hb0)
  have NN := Lib.hid (Ow2.new w0 (.int .i64 0) (.int .i64 0) 23)
  clear K hb0 y0 y1 y2 y3
  go_upto_region 3 with fail
  go_cut [6, 7] (fun s6 s7 wx => ∃ B6, s6 = .pointer (some ⟨B6, 0, none⟩) ∧ s7 = .bool ok ∧ Below w.heap.size w wx ∧ Ow2 wx (w.heap.size + 1 + 1) (.int .i64 0) (.int .i64 0) ∧ At2 wx B6 (.int .i64 rn) (.int .i64 rd))
  case first =>
    go_region_held3 (fun w' => w'.cell? ⟨w.heap.size + 1, 0, none⟩ = some (.int .i64 m) ∧ w'.cell? ⟨w.heap.size + 1, 1, none⟩ = some (.int .i64 f) ∧ w'.cell? ⟨w.heap.size, 0, none⟩ = some (.int .i64 n) ∧ w'.cell? ⟨w.heap.size, 1, none⟩ = some (.int .i64 d))
      ((refine Keeps.two (l := []) (w0 := w) (a := (w.heap.size + 1, .int .i64 m, .int .i64 f)) (b := (w.heap.size, .int .i64 n, .int .i64 d)) ?_; repeat first | with_reducible exact K7.out | with_reducible exact K6.out | with_reducible exact K5.out | with_reducible exact K4.out | with_reducible exact K3.out | with_reducible exact K2.out | with_reducible exact K1.out | with_reducible exact KH.out | with_reducible refine Keeps.drew ?_ | with_reducible refine Keeps.alloc ?_ _ | with_reducible refine Keeps.set ?_ KH.out.size KH.out.lt | with_reducible refine Keeps.set ?_ K1.out.size K1.out.lt | with_reducible refine Keeps.set ?_ K2.out.size K2.out.lt | with_reducible refine Keeps.set ?_ K3.out.size K3.out.lt | with_reducible refine Keeps.set ?_ K4.out.size K4.out.lt | with_reducible refine Keeps.set ?_ K5.out.size K5.out.lt | with_reducible refine Keeps.set ?_ K6.out.size K6.out.lt))
      (first
          | (go_at_call 25; (with_reducible first | refine (hOn _).mono ?_); rintro e w1 ⟨u1, rfl, hu1, hbn⟩
             have K1' : Keeps w w1 [(w.heap.size + 1, .int .i64 m, .int .i64 f), (w.heap.size, .int .i64 n, .int .i64 d)] := by with_reducible first | exact KH.out.drew.below hbn | exact (KH.out.alloc _).drew.below hbn | exact (KH.out.drew.alloc _).below hbn
             have K1 := Lib.hid K1'; clear K1'
             obtain ⟨y0, y1, y2, y3⟩ := K1.out.two
             have o1' : Ow2 w1 (w.heap.size + 1 + 1) (.int .i64 0) (.int .i64 0) := by with_reducible first | exact HO.out.drew.below hbn | exact (HO.out.alloc _).drew.below hbn | exact (HO.out.drew.alloc _).below hbn
             have o1 := Lib.hid o1'; clear o1'
             have g1 := Lib.hid hu1; clear hu1
             have s1 : Hid ((w.heap.size + 1 + 1) < w1.heap.size) := o1.out.at.2.2
             try (with_reducible first | have n1' := NN.out.drew.below hbn
                  have n1 := Lib.hid n1'
                  obtain ⟨⟨p0, p1, p2⟩, p3, p4⟩ := n1')
             clear hbn)
          | (go_at_call 25; (with_reducible first | refine (hOm _).mono ?_); rintro e w2 ⟨u2, rfl, hu2, hbn⟩
             have K2' : Keeps w w2 [(w.heap.size + 1, .int .i64 m, .int .i64 f), (w.heap.size, .int .i64 n, .int .i64 d)] := by with_reducible first | exact K1.out.below hbn | exact (K1.out.alloc _).below hbn
             have K2 := Lib.hid K2'; clear K2'
             obtain ⟨y0, y1, y2, y3⟩ := K2.out.two
             have o2' : Ow2 w2 (w.heap.size + 1 + 1) (.int .i64 0) (.int .i64 0) := by with_reducible first | exact o1.out.below hbn | exact (o1.out.alloc _).below hbn
             have o2 := Lib.hid o2'; clear o2'
             have g1' : Big w2 u1 n := by with_reducible first | exact g1.out.below hbn | exact (g1.out.alloc _).below hbn
             replace g1 := Lib.hid g1'; clear g1'
             have g2 := Lib.hid hu2; clear hu2
             have s2 : Hid ((w.heap.size + 1 + 1) < w2.heap.size) := o2.out.at.2.2
             try (with_reducible first | have n2' := n1.out.below hbn | have n2' := (Ow2.new w1 (.int .i64 0) (.int .i64 0) 23).below hbn
                  have n2 := Lib.hid n2'
                  obtain ⟨⟨p0, p1, p2⟩, p3, p4⟩ := n2')
             clear hbn)
          | (go_at_call 30; (with_reducible first | refine (hT1 _ _ _ g1.out g2.out).mono ?_ | refine (hT1 _ _ _ (g1.out.alloc _) (g2.out.alloc _)).mono ?_); rintro e w3 ⟨u3, rfl, hu3, hbn⟩
             have K3' : Keeps w w3 [(w.heap.size + 1, .int .i64 m, .int .i64 f), (w.heap.size, .int .i64 n, .int .i64 d)] := by with_reducible first | exact K2.out.below hbn | exact (K2.out.alloc _).below hbn
             have K3 := Lib.hid K3'; clear K3'
             obtain ⟨y0, y1, y2, y3⟩ := K3.out.two
             have o3' : Ow2 w3 (w.heap.size + 1 + 1) (.int .i64 0) (.int .i64 0) := by with_reducible first | exact o2.out.below hbn | exact (o2.out.alloc _).below hbn
             have o3 := Lib.hid o3'; clear o3'
             have g1' : Big w3 u1 n := by with_reducible first | exact g1.out.below hbn | exact (g1.out.alloc _).below hbn
             replace g1 := Lib.hid g1'; clear g1'
             have g2' : Big w3 u2 m := by with_reducible first | exact g2.out.below hbn | exact (g2.out.alloc _).below hbn
             replace g2 := Lib.hid g2'; clear g2'
             have g3 := Lib.hid hu3; clear hu3
             have s3 : Hid ((w.heap.size + 1 + 1) < w3.heap.size) := o3.out.at.2.2
             try (with_reducible first | have n3' := n2.out.below hbn | have n3' := (Ow2.new w2 (.int .i64 0) (.int .i64 0) 23).below hbn
                  have n3 := Lib.hid n3'
                  obtain ⟨⟨p0, p1, p2⟩, p3, p4⟩ := n3')
             clear hbn)
          | (go_at_call 25; (with_reducible first | refine (hOd _).mono ?_); rintro e w4 ⟨u4, rfl, hu4, hbn⟩
             have K4' : Keeps w w4 [(w.heap.size + 1, .int .i64 m, .int .i64 f), (w.heap.size, .int .i64 n, .int .i64 d)] := by with_reducible first | exact K3.out.below hbn | exact (K3.out.alloc _).below hbn
             have K4 := Lib.hid K4'; clear K4'
             obtain ⟨y0, y1, y2, y3⟩ := K4.out.two
             have o4' : Ow2 w4 (w.heap.size + 1 + 1) (.int .i64 0) (.int .i64 0) := by with_reducible first | exact o3.out.below hbn | exact (o3.out.alloc _).below hbn
             have o4 := Lib.hid o4'; clear o4'
             have g1' : Big w4 u1 n := by with_reducible first | exact g1.out.below hbn | exact (g1.out.alloc _).below hbn
             replace g1 := Lib.hid g1'; clear g1'
             have g2' : Big w4 u2 m := by with_reducible first | exact g2.out.below hbn | exact (g2.out.alloc _).below hbn
             replace g2 := Lib.hid g2'; clear g2'
             have g3' : Big w4 u3 (n * m) := by with_reducible first | exact g3.out.below hbn | exact (g3.out.alloc _).below hbn
             replace g3 := Lib.hid g3'; clear g3'
             have g4 := Lib.hid hu4; clear hu4
             have s4 : Hid ((w.heap.size + 1 + 1) < w4.heap.size) := o4.out.at.2.2
             try (with_reducible first | have n4' := n3.out.below hbn | have n4' := (Ow2.new w3 (.int .i64 0) (.int .i64 0) 23).below hbn
                  have n4 := Lib.hid n4'
                  obtain ⟨⟨p0, p1, p2⟩, p3, p4⟩ := n4')
             clear hbn)
          | (go_at_call 25; (with_reducible first | refine (hOf _).mono ?_); rintro e w5 ⟨u5, rfl, hu5, hbn⟩
             have K5' : Keeps w w5 [(w.heap.size + 1, .int .i64 m, .int .i64 f), (w.heap.size, .int .i64 n, .int .i64 d)] := by with_reducible first | exact K4.out.below hbn | exact (K4.out.alloc _).below hbn
             have K5 := Lib.hid K5'; clear K5'
             obtain ⟨y0, y1, y2, y3⟩ := K5.out.two
             have o5' : Ow2 w5 (w.heap.size + 1 + 1) (.int .i64 0) (.int .i64 0) := by with_reducible first | exact o4.out.below hbn | exact (o4.out.alloc _).below hbn
             have o5 := Lib.hid o5'; clear o5'
             have g1' : Big w5 u1 n := by with_reducible first | exact g1.out.below hbn | exact (g1.out.alloc _).below hbn
             replace g1 := Lib.hid g1'; clear g1'
             have g2' : Big w5 u2 m := by with_reducible first | exact g2.out.below hbn | exact (g2.out.alloc _).below hbn
             replace g2 := Lib.hid g2'; clear g2'
             have g3' : Big w5 u3 (n * m) := by with_reducible first | exact g3.out.below hbn | exact (g3.out.alloc _).below hbn
             replace g3 := Lib.hid g3'; clear g3'
             have g4' : Big w5 u4 d := by with_reducible first | exact g4.out.below hbn | exact (g4.out.alloc _).below hbn
             replace g4 := Lib.hid g4'; clear g4'
             have g5 := Lib.hid hu5; clear hu5
             have s5 : Hid ((w.heap.size + 1 + 1) < w5.heap.size) := o5.out.at.2.2
             try (with_reducible first | have n5' := n4.out.below hbn | have n5' := (Ow2.new w4 (.int .i64 0) (.int .i64 0) 23).below hbn
                  have n5 := Lib.hid n5'
                  obtain ⟨⟨p0, p1, p2⟩, p3, p4⟩ := n5')
             clear hbn)
          | (go_at_call 30; (with_reducible first | refine (hT2 _ _ _ g4.out g5.out).mono ?_ | refine (hT2 _ _ _ (g4.out.alloc _) (g5.out.alloc _)).mono ?_); rintro e w6 ⟨u6, rfl, hu6, hbn⟩
             have K6' : Keeps w w6 [(w.heap.size + 1, .int .i64 m, .int .i64 f), (w.heap.size, .int .i64 n, .int .i64 d)] := by with_reducible first | exact K5.out.below hbn | exact (K5.out.alloc _).below hbn
             have K6 := Lib.hid K6'; clear K6'
             obtain ⟨y0, y1, y2, y3⟩ := K6.out.two
             have o6' : Ow2 w6 (w.heap.size + 1 + 1) (.int .i64 0) (.int .i64 0) := by with_reducible first | exact o5.out.below hbn | exact (o5.out.alloc _).below hbn
             have o6 := Lib.hid o6'; clear o6'
             have g1' : Big w6 u1 n := by with_reducible first | exact g1.out.below hbn | exact (g1.out.alloc _).below hbn
             replace g1 := Lib.hid g1'; clear g1'
             have g2' : Big w6 u2 m := by with_reducible first | exact g2.out.below hbn | exact (g2.out.alloc _).below hbn
             replace g2 := Lib.hid g2'; clear g2'
             have g3' : Big w6 u3 (n * m) := by with_reducible first | exact g3.out.below hbn | exact (g3.out.alloc _).below hbn
             replace g3 := Lib.hid g3'; clear g3'
             have g4' : Big w6 u4 d := by with_reducible first | exact g4.out.below hbn | exact (g4.out.alloc _).below hbn
             replace g4 := Lib.hid g4'; clear g4'
             have g5' : Big w6 u5 f := by with_reducible first | exact g5.out.below hbn | exact (g5.out.alloc _).below hbn
             replace g5 := Lib.hid g5'; clear g5'
             have g6 := Lib.hid hu6; clear hu6
             have s6 : Hid ((w.heap.size + 1 + 1) < w6.heap.size) := o6.out.at.2.2
             try (with_reducible first | have n6' := n5.out.below hbn | have n6' := (Ow2.new w5 (.int .i64 0) (.int .i64 0) 23).below hbn
                  have n6 := Lib.hid n6'
                  obtain ⟨⟨p0, p1, p2⟩, p3, p4⟩ := n6')
             clear hbn)
          | (go_at_call 24; (with_reducible first | refine (hL _ _ _ g3.out g6.out).mono ?_ | refine (hL _ _ _ (g3.out.alloc _) (g6.out.alloc _)).mono ?_); rintro e w7 ⟨rfl, hbn⟩
             have K7' : Keeps w w7 [(w.heap.size + 1, .int .i64 m, .int .i64 f), (w.heap.size, .int .i64 n, .int .i64 d)] := by with_reducible first | exact K6.out.below hbn | exact (K6.out.alloc _).below hbn
             have K7 := Lib.hid K7'; clear K7'
             obtain ⟨y0, y1, y2, y3⟩ := K7.out.two
             have o7' : Ow2 w7 (w.heap.size + 1 + 1) (.int .i64 0) (.int .i64 0) := by with_reducible first | exact o6.out.below hbn | exact (o6.out.alloc _).below hbn
             have o7 := Lib.hid o7'; clear o7'
             have g1' : Big w7 u1 n := by with_reducible first | exact g1.out.below hbn | exact (g1.out.alloc _).below hbn
             replace g1 := Lib.hid g1'; clear g1'
             have g2' : Big w7 u2 m := by with_reducible first | exact g2.out.below hbn | exact (g2.out.alloc _).below hbn
             replace g2 := Lib.hid g2'; clear g2'
             have g3' : Big w7 u3 (n * m) := by with_reducible first | exact g3.out.below hbn | exact (g3.out.alloc _).below hbn
             replace g3 := Lib.hid g3'; clear g3'
             have g4' : Big w7 u4 d := by with_reducible first | exact g4.out.below hbn | exact (g4.out.alloc _).below hbn
             replace g4 := Lib.hid g4'; clear g4'
             have g5' : Big w7 u5 f := by with_reducible first | exact g5.out.below hbn | exact (g5.out.alloc _).below hbn
             replace g5 := Lib.hid g5'; clear g5'
             have g6' : Big w7 u6 (d * f) := by with_reducible first | exact g6.out.below hbn | exact (g6.out.alloc _).below hbn
             replace g6 := Lib.hid g6'; clear g6'
             have s7 : Hid ((w.heap.size + 1 + 1) < w7.heap.size) := o7.out.at.2.2
             try (with_reducible first | have n7' := n6.out.below hbn | have n7' := (Ow2.new w6 (.int .i64 0) (.int .i64 0) 23).below hbn
                  have n7 := Lib.hid n7'
                  obtain ⟨⟨p0, p1, p2⟩, p3, p4⟩ := n7')
             clear hbn))
    all_goals (go_wp2_with fail)
    all_goals go_meet
    all_goals refine ⟨_, rfl, rfl, (?_ : Keeps w _ [(w.heap.size + 1, .int .i64 m, .int .i64 f), (w.heap.size, .int .i64 n, .int .i64 d)]).1, ?_, ?_⟩
    all_goals (have z1 := s1.out; have z2 := s2.out; have z3 := s3.out; have z4 := s4.out; have z5 := s5.out; have z6 := s6.out; have z7 := HO.out.at.2.2)
    all_goals repeat with_reducible first
      | exact K7.out | exact o7.out | exact n7.out.at
      | refine Keeps.set ?_ KH.out.size KH.out.lt | refine Keeps.set ?_ K1.out.size K1.out.lt | refine Keeps.set ?_ K2.out.size K2.out.lt | refine Keeps.set ?_ K3.out.size K3.out.lt | refine Keeps.set ?_ K4.out.size K4.out.lt | refine Keeps.set ?_ K5.out.size K5.out.lt | refine Keeps.set ?_ K6.out.size K6.out.lt
      | refine Keeps.alloc ?_ _
      | refine Ow2.setne ?_ (by omega)
      | refine Ow2.alloc ?_ _
      | refine At2.put (p := .int .i64 0) (q := .int .i64 0) ?_
      | refine At2.new' (by simp [World.setCell])
      | refine At2.alloc ?_ _
  case rest =>
    obtain ⟨B6, rfl, rfl, hb, o, a3⟩ := hcut
    clear KH HO NN
    obtain ⟨⟨o0, o1, o2⟩, f1, f2⟩ := o
    obtain ⟨x0, x1, x2⟩ := a3
    rcases HQ.out with ⟨rfl, rfl⟩ | ⟨rfl, rfl, rfl, rfl⟩
    · go_wp2_with fail
      refine bodyPost_ret (v := .tuple #[.agg #[.int .i64 rn, .int .i64 rd], .int .i64 0]) (by simp [results, Try.results19, go_sem, o0, o1]) rfl ⟨rfl, ?_⟩
      exact below_set2 hb (by omega)
    · go_wp2_with fail
      refine bodyPost_ret (v := .tuple #[.agg #[.int .i64 0, .int .i64 0], .int .i64 10]) (by simp [results, Try.results19, go_sem, o0, o1]) rfl ⟨rfl, ?_⟩
      exact below_set2 hb (by omega)

set_option maxHeartbeats 2000000 in
theorem rtimes_any (n d m f : Int) (w : World) :
    Calls Try.prog 19 #[.agg #[.int .i64 n, .int .i64 d], .agg #[.int .i64 m, .int .i64 f]] w fun e w' => e = .returned (.tuple #[.agg #[.int .i64 (mulN n d m f), .int .i64 (mulD n d m f)], .int .i64 (mulE n d m f)]) ∧ Below w.heap.size w w' := by
  unfold mulN mulD mulE
  by_cases h : OkR n d ∧ OkR m f
  · rw [if_pos h, if_pos h, if_pos h]; exact rtimes_ok n d m f h.1 h.2 w
  · rw [if_neg h, if_neg h, if_neg h]
    have h1 := rcheck_any n d; have h2 := rcheck_any m f
    have K := ((Keeps.start w).new2 (.int .i64 n) (.int .i64 d) (.int .i64 m) (.int .i64 f) 23 23).alloc (.cells #[.int .i64 0, .int .i64 0] 23)
    have HO := Lib.hid (Ow2.new3 w (.cells #[.int .i64 n, .int .i64 d] 23) (.cells #[.int .i64 m, .int .i64 f] 23) (.int .i64 0) (.int .i64 0) 23)
    by_cases ha : OkR n d
    · have hz := rc_b (fun hb => h ⟨ha, hb⟩ : ¬ OkR m f)
      rw [rc_ok ha] at h1
      generalize rc m f = e2 at *
      clear h ha
      go_enter Try.func19, Try.ntmps19
      go_wp2_with fail
      refine (h1 _).mono ?_; rintro e wa ⟨rfl, hb0⟩
      replace K := K.below hb0
      replace HO := Lib.hid (HO.out.below hb0)
      clear hb0
      obtain ⟨y0, y1, y2, y3⟩ := K.two
      go_wp2_with fail
      refine (h2 _).mono ?_; rintro e w0 ⟨rfl, hb0⟩
      replace K := K.below hb0
      obtain ⟨⟨o0, o1, o2⟩, f1, f2⟩ := HO.out.below hb0
      clear y0 y1 y2 y3 hb0
      go_wp2_with fail
      refine bodyPost_ret (v := .tuple #[.agg #[.int .i64 0, .int .i64 0], .int .i64 11]) (by simp [results, Try.results19, go_sem, o0, o1]) rfl ⟨rfl, ?_⟩
      exact below_set2 K.1 (by omega)
    · rw [rc_no ha] at h1
      clear h ha
      go_enter Try.func19, Try.ntmps19
      go_wp2_with fail
      refine (h1 _).mono ?_; rintro e wa ⟨rfl, hb0⟩
      replace K := K.below hb0
      obtain ⟨⟨o0, o1, o2⟩, f1, f2⟩ := HO.out.below hb0
      clear hb0
      go_wp2_with fail
      refine bodyPost_ret (v := .tuple #[.agg #[.int .i64 0, .int .i64 0], .int .i64 11]) (by simp [results, Try.results19, go_sem, o0, o1]) rfl ⟨rfl, ?_⟩
      exact below_set2 K.1 (by omega)
end Go.Proofs.Ytkkioemlajagjaa
