/-
  What ratio's own Times answers, for whatever rates. No conditions besides.
-/
import Derived.Test.YtogckefmmjbapaaRatE
namespace Go.Proofs.Ytogckefmmjbapaa
open Go.RowKit
set_option linter.unusedSimpArgs false
set_option linter.unusedVariables false

theorem okr_n {n d : Int} (h : OkR n d) : OkN n ∧ OkN d := by unfold OkR at h; unfold OkN; omega

set_option maxHeartbeats 4000000 in
theorem c_times_ok (n d m f : Int) (ha : OkR n d) (hb : OkR m f) (w : World) :
    Calls Try.prog 29 #[.agg #[.int .i64 n, .int .i64 d], .agg #[.int .i64 m, .int .i64 f]] w fun e w' => e = .returned (.tuple #[.agg #[.int .i64 (mulN n d m f), .int .i64 (mulD n d m f)], .int .i64 (mulE n d m f)]) ∧ Below w.heap.size w w' := by
  have h1 := c_norm n d; have h2 := c_norm m f
  have ka := norm_ok ha; have kb := norm_ok hb
  have k1 := ok_mix ka kb; have k2 := ok_mix kb ka
  have h3 := c_lowest _ _ k1; have h4 := c_lowest _ _ k2
  have l1 := okr_n (norm_ok k1); have l2 := okr_n (norm_ok k2)
  have h5 := c_made _ _ _ _ l1.1 l2.1 l1.2 l2.2
  obtain ⟨P, Q, e1, e2, e3, e4, e5⟩ := times_is ha hb
  rw [e1, e2] at h5
  have r1 : mulN n d m f = (if (P : Int) ≤ 1000000000000 ∧ (Q : Int) ≤ 1000000000000 then (P : Int) else 0) := by
    unfold mulN; rw [if_pos ⟨ha, hb⟩, e3]
    by_cases h : P ≤ 1000000000000 ∧ Q ≤ 1000000000000
    · rw [if_pos h, if_pos (by omega)]
    · rw [if_neg h, if_neg (by omega)]
  have r2 : mulD n d m f = (if (P : Int) ≤ 1000000000000 ∧ (Q : Int) ≤ 1000000000000 then (Q : Int) else 0) := by
    unfold mulD; rw [if_pos ⟨ha, hb⟩, e4]
    by_cases h : P ≤ 1000000000000 ∧ Q ≤ 1000000000000
    · rw [if_pos h, if_pos (by omega)]
    · rw [if_neg h, if_neg (by omega)]
  have r3 : mulE n d m f = (if (P : Int) ≤ 1000000000000 ∧ (Q : Int) ≤ 1000000000000 then 0 else 10) := by
    unfold mulE; rw [if_pos ⟨ha, hb⟩]; simp only [e5]
    by_cases h : P ≤ 1000000000000 ∧ Q ≤ 1000000000000
    · rw [if_pos h, if_pos (by omega)]
    · rw [if_neg h, if_neg (by omega)]
  rw [← r1, ← r2, ← r3] at h5
  generalize mulN n d m f = rn at *; generalize mulD n d m f = rd at *; generalize mulE n d m f = re at *
  clear e1 e2 e3 e4 e5 r1 r2 r3 l1 l2 k1 k2 P Q
  have za : (normn n d == 0) = false := by unfold OkR at ka; simp; omega
  have zb : (normn m f == 0) = false := by unfold OkR at kb; simp; omega
  generalize normn (normn n d) (normd m f) = pn at *; generalize normd (normn n d) (normd m f) = pd at *
  generalize normn (normn m f) (normd n d) = qn at *; generalize normd (normn m f) (normd n d) = qd at *
  generalize normn n d = a at *; generalize normd n d = b at *; generalize normn m f = a' at *; generalize normd m f = b' at *
  clear ha hb ka kb
  have hmf : ∀ (fn : Fn) (first cap : Array Value) (w : World), (Instr.makeFunc fn first cap).run Try.prog w = .ok (.func fn first cap) w := fun _ _ _ _ => rfl
  have K := ((Keeps.start w).new2 (.int .i64 n) (.int .i64 d) (.int .i64 m) (.int .i64 f) 24 24).alloc (.cells #[.int .i64 0, .int .i64 0] 24)
  have HO := Lib.hid (Ow2.new3 w (.cells #[.int .i64 n, .int .i64 d] 24) (.cells #[.int .i64 m, .int .i64 f] 24) (.int .i64 0) (.int .i64 0) 24)
  have bs : Hid (w.heap.size + 1 + 1 < (((w.alloc (.cells #[.int .i64 n, .int .i64 d] 24)).alloc (.cells #[.int .i64 m, .int .i64 f] 24)).alloc (.cells #[.int .i64 0, .int .i64 0] 24)).heap.size) := HO.out.at.2.2
  go_enter Try.func29, Try.ntmps29
  go_upto_region 1 with fail
  generalize (((w.alloc (.cells #[.int .i64 n, .int .i64 d] 24)).alloc (.cells #[.int .i64 m, .int .i64 f] 24)).alloc (.cells #[.int .i64 0, .int .i64 0] 24)) = W0 at *
  have KH := Lib.hid K
  clear K
  go_cut [6, 7] (fun s6 s7 wx => ∃ B6 B7, s6 = .pointer (some ⟨B6, 0, none⟩) ∧ s7 = .pointer (some ⟨B7, 0, none⟩) ∧ Keeps w wx [(w.heap.size + 1, .int .i64 m, .int .i64 f), (w.heap.size, .int .i64 n, .int .i64 d)] ∧ Ow2 wx (w.heap.size + 1 + 1) (.int .i64 0) (.int .i64 0) ∧ At2 wx B6 (.int .i64 a) (.int .i64 b) ∧ At2 wx B7 (.int .i64 a') (.int .i64 b'))
  case first =>
    obtain ⟨x0, x1, x2, x3⟩ := KH.out.two
    go_region_held3 (fun w' => w'.cell? ⟨w.heap.size + 1, 0, none⟩ = some (.int .i64 m) ∧ w'.cell? ⟨w.heap.size + 1, 1, none⟩ = some (.int .i64 f) ∧ w'.cell? ⟨w.heap.size, 0, none⟩ = some (.int .i64 n) ∧ w'.cell? ⟨w.heap.size, 1, none⟩ = some (.int .i64 d))
      ((refine (fun (h : Keeps w _ [(w.heap.size + 1, .int .i64 m, .int .i64 f), (w.heap.size, .int .i64 n, .int .i64 d)]) => (h.two : _ ∧ _)) ?_; repeat first | with_reducible exact KH.out | with_reducible exact KI.out | with_reducible exact K2.out | with_reducible refine Keeps.drew ?_ | with_reducible refine Keeps.alloc ?_ _ | with_reducible refine Keeps.set ?_ (by have := sz.out; omega) (by intro b hb; have := sz.out; have := bs.out; simp at hb; rcases hb with rfl | rfl <;> simp <;> omega)))
      (first
        | (go_at_call 41; with_reducible refine (h1 _).mono ?_; rintro e w1 ⟨rfl, hb1⟩
           have K1 : Keeps w w1 [(w.heap.size + 1, .int .i64 m, .int .i64 f), (w.heap.size, .int .i64 n, .int .i64 d)] := by
             with_reducible first | exact KH.out.drew.below hb1 | exact (KH.out.alloc _).drew.below hb1 | exact ((KH.out.alloc _).alloc _).drew.below hb1 | exact (KH.out.drew.alloc _).below hb1 | exact ((KH.out.drew.alloc _).alloc _).below hb1
           obtain ⟨x0, x1, x2, x3⟩ := K1.two
           have o1' : Ow2 w1 (w.heap.size + 1 + 1) (.int .i64 0) (.int .i64 0) := by
             with_reducible first | exact HO.out.drew.below hb1 | exact (HO.out.alloc _).drew.below hb1 | exact ((HO.out.alloc _).alloc _).drew.below hb1
           have o1 := Lib.hid o1'
           have KI := Lib.hid K1
           clear K1 o1'
           have sza := hb1.size
           have sz1 : Hid (W0.heap.size ≤ w1.heap.size) := by
             first | with_reducible exact sza | (simp at sza; show _ ≤ _; omega)
           clear sza
           try (have n1' : Ow2 w1 W0.heap.size (.int .i64 0) (.int .i64 0) := by
                  with_reducible first | exact (Ow2.new W0 _ _ _).drew.below hb1 | exact ((Ow2.new W0 _ _ _).alloc _).drew.below hb1
                have n1 := Lib.hid n1'
                obtain ⟨⟨n10, n11, n12⟩, n13, n14⟩ := n1')
           try (have n2' : Ow2 w1 (W0.heap.size + 1) (.int .i64 0) (.int .i64 0) := by with_reducible exact (Ow2.new2 W0 _ _ _ _).drew.below hb1
                have n2 := Lib.hid n2'
                obtain ⟨⟨n20, n21, n22⟩, n23, n24⟩ := n2'))
        | (go_at_call 41; with_reducible refine (h2 _).mono ?_; rintro e w2 ⟨rfl, hb2⟩
           have K2' : Keeps w w2 [(w.heap.size + 1, .int .i64 m, .int .i64 f), (w.heap.size, .int .i64 n, .int .i64 d)] := by
             with_reducible first | exact KI.out.below hb2 | exact (KI.out.alloc _).below hb2 | exact ((KI.out.alloc _).alloc _).below hb2
           have K2 := Lib.hid K2'
           clear K2'
           have o2' : Ow2 w2 (w.heap.size + 1 + 1) (.int .i64 0) (.int .i64 0) := by
             with_reducible first | exact o1.out.below hb2 | exact (o1.out.alloc _).below hb2 | exact ((o1.out.alloc _).alloc _).below hb2
           have o2 := Lib.hid o2'
           clear o2'
           have szb := hb2.size
           have sz : Hid (W0.heap.size ≤ w1.heap.size ∧ w1.heap.size ≤ w2.heap.size ∧ w.heap.size ≤ W0.heap.size) := by
             refine ⟨sz1.out, ?_, KH.out.size⟩
             first | with_reducible exact szb | (simp at szb; omega)
           clear szb
           try (have m1' : Ow2 w2 W0.heap.size (.int .i64 0) (.int .i64 0) := by
                  with_reducible first | exact n1.out.below hb2 | exact (n1.out.alloc _).below hb2 | exact ((n1.out.alloc _).alloc _).below hb2
                have m1 := Lib.hid m1'
                have l1 := Lib.hid n1.out.at.2.2
                obtain ⟨⟨m10, m11, m12⟩, m13, m14⟩ := m1')
           try (have m2' : Ow2 w2 (W0.heap.size + 1) (.int .i64 0) (.int .i64 0) := by
                  with_reducible first | exact n2.out.below hb2 | exact (n2.out.alloc _).below hb2 | exact ((n2.out.alloc _).alloc _).below hb2
                have m2 := Lib.hid m2'
                have l2 := Lib.hid n2.out.at.2.2
                obtain ⟨⟨m20, m21, m22⟩, m23, m24⟩ := m2')
           try (have q1' : Ow2 w2 w1.heap.size (.int .i64 0) (.int .i64 0) := by
                  with_reducible first | exact (Ow2.new w1 _ _ _).below hb2 | exact ((Ow2.new w1 _ _ _).alloc _).below hb2
                have q1 := Lib.hid q1'
                obtain ⟨⟨q10, q11, q12⟩, q13, q14⟩ := q1')
           try (have q2' : Ow2 w2 (w1.heap.size + 1) (.int .i64 0) (.int .i64 0) := by with_reducible exact (Ow2.new2 w1 _ _ _ _).below hb2
                have q2 := Lib.hid q2'
                obtain ⟨⟨q20, q21, q22⟩, q23, q24⟩ := q2')))
    all_goals (go_wp2_with fail)
    all_goals go_meet
    all_goals with_reducible refine ⟨_, _, rfl, rfl, ?_, ?_, ?_, ?_⟩
    all_goals (obtain ⟨sz1', sz2, sz3⟩ := sz.out)
    all_goals (have bs' := bs.out)
    all_goals (try have z1 := l1.out)
    all_goals (try have z2 := l2.out)
    all_goals (try have z3 := q1.out.at.2.2)
    all_goals (try have z4 := q2.out.at.2.2)
    all_goals (try have z5 := m1.out.at.2.2)
    all_goals (try have z6 := m2.out.at.2.2)
    all_goals repeat with_reducible first
      | exact K2.out | exact o2.out | exact m1.out.at | exact m2.out.at | exact q1.out.at | exact q2.out.at
      | refine Keeps.set ?_ (by omega) (by intro b hb; simp at hb; rcases hb with rfl | rfl <;> simp <;> omega)
      | refine Keeps.alloc ?_ _
      | refine Ow2.setne ?_ (by omega)
      | refine Ow2.alloc ?_ _
      | refine At2.put (p := .int .i64 0) (q := .int .i64 0) ?_
      | refine At2.new' (by simp [World.setCell])
      | refine At2.alloc ?_ _
      | refine At2.setne ?_ (by omega)
  case rest =>
    obtain ⟨B6, B7, rfl, rfl, K, o, a6, a7⟩ := hcut
    clear KH
    replace K : Keeps w wc [(B7, .int .i64 a', .int .i64 b'), (B6, .int .i64 a, .int .i64 b)] := ⟨K.1, by intro b hb; simp at hb; rcases hb with rfl | rfl <;> assumption⟩
    replace HO := Lib.hid o
    clear a6 a7 o
    obtain ⟨x0, x1, x2, x3⟩ := K.two
    go_upto_region 3 with fail
    replace bs : Hid (w.heap.size + 1 + 1 < wc.heap.size ∧ B7 < wc.heap.size ∧ B6 < wc.heap.size) := ⟨HO.out.at.2.2, K.at0.2.2, K.at1.2.2⟩
    have KH := Lib.hid K
    clear K
    go_cut [8, 9] (fun s8 s9 wx => ∃ B8 B9, s8 = .pointer (some ⟨B8, 0, none⟩) ∧ s9 = .pointer (some ⟨B9, 0, none⟩) ∧ Keeps w wx [(B7, .int .i64 a', .int .i64 b'), (B6, .int .i64 a, .int .i64 b)] ∧ Ow2 wx (w.heap.size + 1 + 1) (.int .i64 0) (.int .i64 0) ∧ At2 wx B8 (.int .i64 pn) (.int .i64 pd) ∧ At2 wx B9 (.int .i64 qn) (.int .i64 qd))
    case first =>
      go_region_held3 (fun w' => w'.cell? ⟨B7, 0, none⟩ = some (.int .i64 a') ∧ w'.cell? ⟨B7, 1, none⟩ = some (.int .i64 b') ∧ w'.cell? ⟨B6, 0, none⟩ = some (.int .i64 a) ∧ w'.cell? ⟨B6, 1, none⟩ = some (.int .i64 b))
        ((refine (fun (h : Keeps w _ [(B7, .int .i64 a', .int .i64 b'), (B6, .int .i64 a, .int .i64 b)]) => (h.two : _ ∧ _)) ?_; repeat first | with_reducible exact KH.out | with_reducible exact KI.out | with_reducible exact K2.out | with_reducible refine Keeps.drew ?_ | with_reducible refine Keeps.alloc ?_ _ | with_reducible refine Keeps.set ?_ (by have := sz.out; omega) (by intro b hb; have := sz.out; have := bs.out; simp at hb; rcases hb with rfl | rfl <;> simp <;> omega)))
        (first
          | (go_at_call 30; with_reducible refine (h3 _).mono ?_; rintro e w1 ⟨rfl, hb1⟩
             have K1 : Keeps w w1 [(B7, .int .i64 a', .int .i64 b'), (B6, .int .i64 a, .int .i64 b)] := by
               with_reducible first | exact KH.out.drew.below hb1 | exact (KH.out.alloc _).drew.below hb1 | exact ((KH.out.alloc _).alloc _).drew.below hb1 | exact (KH.out.drew.alloc _).below hb1 | exact ((KH.out.drew.alloc _).alloc _).below hb1
             obtain ⟨x0, x1, x2, x3⟩ := K1.two
             have o1' : Ow2 w1 (w.heap.size + 1 + 1) (.int .i64 0) (.int .i64 0) := by
               with_reducible first | exact HO.out.drew.below hb1 | exact (HO.out.alloc _).drew.below hb1 | exact ((HO.out.alloc _).alloc _).drew.below hb1
             have o1 := Lib.hid o1'
             have KI := Lib.hid K1
             clear K1 o1'
             have sza := hb1.size
             have sz1 : Hid (wc.heap.size ≤ w1.heap.size) := by
               first | with_reducible exact sza | (simp at sza; show _ ≤ _; omega)
             clear sza
             try (have n1' : Ow2 w1 wc.heap.size (.int .i64 0) (.int .i64 0) := by
                    with_reducible first | exact (Ow2.new wc _ _ _).drew.below hb1 | exact ((Ow2.new wc _ _ _).alloc _).drew.below hb1
                  have n1 := Lib.hid n1'
                  obtain ⟨⟨n10, n11, n12⟩, n13, n14⟩ := n1')
             try (have n2' : Ow2 w1 (wc.heap.size + 1) (.int .i64 0) (.int .i64 0) := by with_reducible exact (Ow2.new2 wc _ _ _ _).drew.below hb1
                  have n2 := Lib.hid n2'
                  obtain ⟨⟨n20, n21, n22⟩, n23, n24⟩ := n2'))
          | (go_at_call 30; with_reducible refine (h4 _).mono ?_; rintro e w2 ⟨rfl, hb2⟩
             have K2' : Keeps w w2 [(B7, .int .i64 a', .int .i64 b'), (B6, .int .i64 a, .int .i64 b)] := by
               with_reducible first | exact KI.out.below hb2 | exact (KI.out.alloc _).below hb2 | exact ((KI.out.alloc _).alloc _).below hb2
             have K2 := Lib.hid K2'
             clear K2'
             have o2' : Ow2 w2 (w.heap.size + 1 + 1) (.int .i64 0) (.int .i64 0) := by
               with_reducible first | exact o1.out.below hb2 | exact (o1.out.alloc _).below hb2 | exact ((o1.out.alloc _).alloc _).below hb2
             have o2 := Lib.hid o2'
             clear o2'
             have szb := hb2.size
             have sz : Hid (wc.heap.size ≤ w1.heap.size ∧ w1.heap.size ≤ w2.heap.size ∧ w.heap.size ≤ wc.heap.size) := by
               refine ⟨sz1.out, ?_, KH.out.size⟩
               first | with_reducible exact szb | (simp at szb; omega)
             clear szb
             try (have m1' : Ow2 w2 wc.heap.size (.int .i64 0) (.int .i64 0) := by
                    with_reducible first | exact n1.out.below hb2 | exact (n1.out.alloc _).below hb2 | exact ((n1.out.alloc _).alloc _).below hb2
                  have m1 := Lib.hid m1'
                  have l1 := Lib.hid n1.out.at.2.2
                  obtain ⟨⟨m10, m11, m12⟩, m13, m14⟩ := m1')
             try (have m2' : Ow2 w2 (wc.heap.size + 1) (.int .i64 0) (.int .i64 0) := by
                    with_reducible first | exact n2.out.below hb2 | exact (n2.out.alloc _).below hb2 | exact ((n2.out.alloc _).alloc _).below hb2
                  have m2 := Lib.hid m2'
                  have l2 := Lib.hid n2.out.at.2.2
                  obtain ⟨⟨m20, m21, m22⟩, m23, m24⟩ := m2')
             try (have q1' : Ow2 w2 w1.heap.size (.int .i64 0) (.int .i64 0) := by
                    with_reducible first | exact (Ow2.new w1 _ _ _).below hb2 | exact ((Ow2.new w1 _ _ _).alloc _).below hb2
                  have q1 := Lib.hid q1'
                  obtain ⟨⟨q10, q11, q12⟩, q13, q14⟩ := q1')
             try (have q2' : Ow2 w2 (w1.heap.size + 1) (.int .i64 0) (.int .i64 0) := by with_reducible exact (Ow2.new2 w1 _ _ _ _).below hb2
                  have q2 := Lib.hid q2'
                  obtain ⟨⟨q20, q21, q22⟩, q23, q24⟩ := q2')))
      all_goals (go_wp2_with fail)
      all_goals go_meet
      all_goals with_reducible refine ⟨_, _, rfl, rfl, ?_, ?_, ?_, ?_⟩
      all_goals (obtain ⟨sz1', sz2, sz3⟩ := sz.out)
      all_goals (have bs' := bs.out)
      all_goals (try have z1 := l1.out)
      all_goals (try have z2 := l2.out)
      all_goals (try have z3 := q1.out.at.2.2)
      all_goals (try have z4 := q2.out.at.2.2)
      all_goals (try have z5 := m1.out.at.2.2)
      all_goals (try have z6 := m2.out.at.2.2)
      all_goals repeat with_reducible first
        | exact K2.out | exact o2.out | exact m1.out.at | exact m2.out.at | exact q1.out.at | exact q2.out.at
        | refine Keeps.set ?_ (by omega) (by intro b hb; simp at hb; rcases hb with rfl | rfl <;> simp <;> omega)
        | refine Keeps.alloc ?_ _
        | refine Ow2.setne ?_ (by omega)
        | refine Ow2.alloc ?_ _
        | refine At2.put (p := .int .i64 0) (q := .int .i64 0) ?_
        | refine At2.new' (by simp [World.setCell])
        | refine At2.alloc ?_ _
        | refine At2.setne ?_ (by omega)
    case rest =>
      clear x0 x1 x2 x3
      obtain ⟨B8, B9, rfl, rfl, K, o, a8, a9⟩ := hcut
      clear KH
      replace K : Keeps w wc [(B9, .int .i64 qn, .int .i64 qd), (B8, .int .i64 pn, .int .i64 pd)] := ⟨K.1, by intro b hb; simp at hb; rcases hb with rfl | rfl <;> assumption⟩
      replace HO := Lib.hid o
      clear a8 a9 o
      obtain ⟨x0, x1, x2, x3⟩ := K.two
      go_wp2_with fail
      refine (h5 _).mono ?_; rintro e w5 ⟨rfl, hb5⟩
      replace K := K.below hb5
      obtain ⟨⟨o0, o1, o2⟩, f1, f2⟩ := HO.out.below hb5
      clear x0 x1 x2 x3 hb5
      go_wp2_with fail
      refine bodyPost_ret (v := .tuple #[.agg #[.int .i64 rn, .int .i64 rd], .int .i64 re]) (by simp [results, Try.results29, go_sem, o0, o1]) rfl ⟨rfl, ?_⟩
      exact below_set2 K.1 (by omega)
end Go.Proofs.Ytogckefmmjbapaa
