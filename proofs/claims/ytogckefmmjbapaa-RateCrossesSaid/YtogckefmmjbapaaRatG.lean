/-
  What ratio's own Times answers, for whatever rates. No conditions besides.
-/
import Derived.Test.YtogckefmmjbapaaRatF
namespace Go.Proofs.Ytogckefmmjbapaa
open Go.RowKit
set_option linter.unusedSimpArgs false
set_option linter.unusedVariables false

set_option maxHeartbeats 4000000 in
theorem c_times_no (n d m f : Int) (hab : ¬ (OkR n d ∧ OkR m f)) (w : World) :
    Calls Try.prog 29 #[.agg #[.int .i64 n, .int .i64 d], .agg #[.int .i64 m, .int .i64 f]] w fun e w' => e = .returned (.tuple #[.agg #[.int .i64 0, .int .i64 0], .int .i64 11]) ∧ Below w.heap.size w w' := by
  have h1 := c_norm n d; have h2 := c_norm m f
  have hq : (normn n d = 0 ∧ normd n d = 0) ∨ ((normn n d == 0) = false ∧ normn m f = 0 ∧ normd m f = 0) := by
    by_cases ha : OkR n d
    · have ka := norm_ok ha
      exact Or.inr ⟨by unfold OkR at ka; simp; omega, norm_no fun hb => hab ⟨ha, hb⟩⟩
    · exact Or.inl (norm_no ha)
  generalize normn n d = a at *; generalize normd n d = b at *; generalize normn m f = a' at *; generalize normd m f = b' at *
  clear hab
  have HQ := Lib.hid hq
  clear hq
  have K := ((Keeps.start w).new2 (.int .i64 n) (.int .i64 d) (.int .i64 m) (.int .i64 f) 24 24).alloc (.cells #[.int .i64 0, .int .i64 0] 24)
  have HO := Lib.hid (Ow2.new3 w (.cells #[.int .i64 n, .int .i64 d] 24) (.cells #[.int .i64 m, .int .i64 f] 24) (.int .i64 0) (.int .i64 0) 24)
  have bs : Hid (w.heap.size + 1 + 1 < (((w.alloc (.cells #[.int .i64 n, .int .i64 d] 24)).alloc (.cells #[.int .i64 m, .int .i64 f] 24)).alloc (.cells #[.int .i64 0, .int .i64 0] 24)).heap.size) := HO.out.at.2.2
  go_enter Try.func29, Try.ntmps29
  go_upto_region 1 with fail
  generalize (((w.alloc (.cells #[.int .i64 n, .int .i64 d] 24)).alloc (.cells #[.int .i64 m, .int .i64 f] 24)).alloc (.cells #[.int .i64 0, .int .i64 0] 24)) = W0 at *
  have KH := Lib.hid K
  clear K
  go_cut [6, 7] (fun s6 s7 wx => ∃ B6 B7, s6 = .pointer (some ⟨B6, 0, none⟩) ∧ s7 = .pointer (some ⟨B7, 0, none⟩) ∧ Keeps w wx [(w.heap.size + 1, .int .i64 m, .int .i64 f), (w.heap.size, .int .i64 n, .int .i64 d)] ∧ Ow2 wx (w.heap.size + 1 + 1) (.int .i64 0) (.int .i64 0) ∧ At2 wx B6 (.int .i64 a) (.int .i64 b) ∧ At2 wx B7 (.int .i64 a') (.int .i64 b'))
  case first =>
    obtain ⟨x0, x1, x2, x3⟩ := KH.out.two
    go_region_held3 (fun w' => w'.cell? ⟨w.heap.size + 1, 0, none⟩ = some (.int .i64 m) ∧ w'.cell? ⟨w.heap.size + 1, 1, none⟩ = some (.int .i64 f) ∧ w'.cell? ⟨w.heap.size, 0, none⟩ = some (.int .i64 n) ∧ w'.cell? ⟨w.heap.size, 1, none⟩ = some (.int .i64 d))
      ((refine (fun (h : Keeps w _ [(w.heap.size + 1, .int .i64 m, .int .i64 f), (w.heap.size, .int .i64 n, .int .i64 d)]) => (h.two : _ ∧ _)) ?_; repeat first | with_reducible exact KH.out | with_reducible exact KI.out | with_reducible exact K2.out | with_reducible refine Keeps.drew ?_ | with_reducible refine Keeps.alloc ?_ _ | with_reducible refine Keeps.set ?_ (by have := sz.out; omega) (by intro b hb; have := sz.out; have := bs.out; simp at hb; rcases hb with rfl | rfl <;> simp <;> omega)))
      (first
        | (go_at_call 41; with_reducible refine (h1 _).mono ?_; rintro e w1 ⟨rfl, hb1⟩
           have K1 : Keeps w w1 [(w.heap.size + 1, .int .i64 m, .int .i64 f), (w.heap.size, .int .i64 n, .int .i64 d)] := by
             with_reducible first | exact KH.out.drew.below hb1 | exact (KH.out.alloc _).drew.below hb1 | exact ((KH.out.alloc _).alloc _).drew.below hb1 | exact (KH.out.drew.alloc _).below hb1 | exact ((KH.out.drew.alloc _).alloc _).below hb1
           obtain ⟨x0, x1, x2, x3⟩ := K1.two
           have o1' : Ow2 w1 (w.heap.size + 1 + 1) (.int .i64 0) (.int .i64 0) := by
             with_reducible first | exact HO.out.drew.below hb1 | exact (HO.out.alloc _).drew.below hb1 | exact ((HO.out.alloc _).alloc _).drew.below hb1
           have o1 := Lib.hid o1'
           have KI := Lib.hid K1
           clear K1 o1'
           have sza := hb1.size
           have sz1 : Hid (W0.heap.size ≤ w1.heap.size) := by
             first | with_reducible exact sza | (simp at sza; show _ ≤ _; omega)
           clear sza
           try (have n1' : Ow2 w1 W0.heap.size (.int .i64 0) (.int .i64 0) := by
                  with_reducible first | exact (Ow2.new W0 _ _ _).drew.below hb1 | exact ((Ow2.new W0 _ _ _).alloc _).drew.below hb1
                have n1 := Lib.hid n1'
                obtain ⟨⟨n10, n11, n12⟩, n13, n14⟩ := n1')
           try (have n2' : Ow2 w1 (W0.heap.size + 1) (.int .i64 0) (.int .i64 0) := by with_reducible exact (Ow2.new2 W0 _ _ _ _).drew.below hb1
                have n2 := Lib.hid n2'
                obtain ⟨⟨n20, n21, n22⟩, n23, n24⟩ := n2'))
        | (go_at_call 41; with_reducible refine (h2 _).mono ?_; rintro e w2 ⟨rfl, hb2⟩
           have K2' : Keeps w w2 [(w.heap.size + 1, .int .i64 m, .int .i64 f), (w.heap.size, .int .i64 n, .int .i64 d)] := by
             with_reducible first | exact KI.out.below hb2 | exact (KI.out.alloc _).below hb2 | exact ((KI.out.alloc _).alloc _).below hb2
           have K2 := Lib.hid K2'
           clear K2'
           have o2' : Ow2 w2 (w.heap.size + 1 + 1) (.int .i64 0) (.int .i64 0) := by
             with_reducible first | exact o1.out.below hb2 | exact (o1.out.alloc _).below hb2 | exact ((o1.out.alloc _).alloc _).below hb2
           have o2 := Lib.hid o2'
           clear o2'
           have szb := hb2.size
           have sz : Hid (W0.heap.size ≤ w1.heap.size ∧ w1.heap.size ≤ w2.heap.size ∧ w.heap.size ≤ W0.heap.size) := by
             refine ⟨sz1.out, ?_, KH.out.size⟩
             first | with_reducible exact szb | (simp at szb; omega)
           clear szb
           try (have m1' : Ow2 w2 W0.heap.size (.int .i64 0) (.int .i64 0) := by
                  with_reducible first | exact n1.out.below hb2 | exact (n1.out.alloc _).below hb2 | exact ((n1.out.alloc _).alloc _).below hb2
                have m1 := Lib.hid m1'
                have l1 := Lib.hid n1.out.at.2.2
                obtain ⟨⟨m10, m11, m12⟩, m13, m14⟩ := m1')
           try (have m2' : Ow2 w2 (W0.heap.size + 1) (.int .i64 0) (.int .i64 0) := by
                  with_reducible first | exact n2.out.below hb2 | exact (n2.out.alloc _).below hb2 | exact ((n2.out.alloc _).alloc _).below hb2
                have m2 := Lib.hid m2'
                have l2 := Lib.hid n2.out.at.2.2
                obtain ⟨⟨m20, m21, m22⟩, m23, m24⟩ := m2')
           try (have q1' : Ow2 w2 w1.heap.size (.int .i64 0) (.int .i64 0) := by
                  with_reducible first | exact (Ow2.new w1 _ _ _).below hb2 | exact ((Ow2.new w1 _ _ _).alloc _).below hb2
                have q1 := Lib.hid q1'
                obtain ⟨⟨q10, q11, q12⟩, q13, q14⟩ := q1')
           try (have q2' : Ow2 w2 (w1.heap.size + 1) (.int .i64 0) (.int .i64 0) := by with_reducible exact (Ow2.new2 w1 _ _ _ _).below hb2
                have q2 := Lib.hid q2'
                obtain ⟨⟨q20, q21, q22⟩, q23, q24⟩ := q2')))
    all_goals (go_wp2_with fail)
    all_goals go_meet
    all_goals with_reducible refine ⟨_, _, rfl, rfl, ?_, ?_, ?_, ?_⟩
    all_goals (obtain ⟨sz1', sz2, sz3⟩ := sz.out)
    all_goals (have bs' := bs.out)
    all_goals (try have z1 := l1.out)
    all_goals (try have z2 := l2.out)
    all_goals (try have z3 := q1.out.at.2.2)
    all_goals (try have z4 := q2.out.at.2.2)
    all_goals (try have z5 := m1.out.at.2.2)
    all_goals (try have z6 := m2.out.at.2.2)
    all_goals repeat with_reducible first
      | exact K2.out | exact o2.out | exact m1.out.at | exact m2.out.at | exact q1.out.at | exact q2.out.at
      | refine Keeps.set ?_ (by omega) (by intro b hb; simp at hb; rcases hb with rfl | rfl <;> simp <;> omega)
      | refine Keeps.alloc ?_ _
      | refine Ow2.setne ?_ (by omega)
      | refine Ow2.alloc ?_ _
      | refine At2.put (p := .int .i64 0) (q := .int .i64 0) ?_
      | refine At2.new' (by simp [World.setCell])
      | refine At2.alloc ?_ _
      | refine At2.setne ?_ (by omega)
  case rest =>
    obtain ⟨B6, B7, rfl, rfl, K, o, a6, a7⟩ := hcut
    clear KH
    replace K : Keeps w wc [(B7, .int .i64 a', .int .i64 b'), (B6, .int .i64 a, .int .i64 b)] := ⟨K.1, by intro b hb; simp at hb; rcases hb with rfl | rfl <;> assumption⟩
    replace HO := Lib.hid o
    clear a6 a7 o
    rcases HQ.out with ⟨rfl, rfl⟩ | ⟨hz, rfl, rfl⟩
    · clear HQ
      obtain ⟨x0, x1, x2, x3⟩ := K.two
      obtain ⟨⟨o0, o1, o2⟩, f1, f2⟩ := HO.out
      go_wp2_with fail
      refine bodyPost_ret (v := .tuple #[.agg #[.int .i64 0, .int .i64 0], .int .i64 11]) (by simp [results, Try.results29, go_sem, o0, o1]) rfl ⟨rfl, ?_⟩
      exact below_set2 K.1 (by omega)
    · clear HQ
      obtain ⟨x0, x1, x2, x3⟩ := K.two
      obtain ⟨⟨o0, o1, o2⟩, f1, f2⟩ := HO.out
      go_wp2_with fail
      refine bodyPost_ret (v := .tuple #[.agg #[.int .i64 0, .int .i64 0], .int .i64 11]) (by simp [results, Try.results29, go_sem, o0, o1]) rfl ⟨rfl, ?_⟩
      exact below_set2 K.1 (by omega)

theorem c_times (n d m f : Int) (w : World) :
    Calls Try.prog 29 #[.agg #[.int .i64 n, .int .i64 d], .agg #[.int .i64 m, .int .i64 f]] w fun e w' => e = .returned (.tuple #[.agg #[.int .i64 (mulN n d m f), .int .i64 (mulD n d m f)], .int .i64 (mulE n d m f)]) ∧ Below w.heap.size w w' := by
  by_cases h : OkR n d ∧ OkR m f
  · exact c_times_ok n d m f h.1 h.2 w
  · unfold mulN mulD mulE
    rw [if_neg h, if_neg h, if_neg h]
    exact c_times_no n d m f h w
end Go.Proofs.Ytogckefmmjbapaa
