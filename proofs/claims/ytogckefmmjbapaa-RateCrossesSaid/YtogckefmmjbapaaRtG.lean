/-
  The landed Cross's closure: a rate of a leg, straight or turned round. The condition: at most 1000000 rates.
-/
import Derived.Test.YtogckefmmjbapaaRtF
import Derived.Test.YtogckefmmjbapaaRatI
import Derived.Deep.RegionWith
namespace Go.Proofs.Ytogckefmmjbapaa
open Go.RowKit
set_option linter.unusedSimpArgs false
set_option linter.unusedVariables false

theorem Keeps.bel {w0 w : World} {l : List (Nat × Value × Value)} (h : Keeps w0 w l) : Below w0.heap.size w0 w := h.1
theorem leg_not {L : List RtT} {k : RtT} {f t : Int} (h : fnd L (btw k f t) = none) : let o := (fnd L (btw k t f)).getD (0, 0);
    ((lgo L k f t).getD (0, 0)).1 = normn o.2 o.1 ∧ ((lgo L k f t).getD (0, 0)).2 = normd o.2 o.1 ∧ (lgo L k f t).isSome = (rc o.1 o.2 == 0) := by
  intro o
  cases h2 : fnd L (btw k t f) with
  | none =>
    have e : o = (0, 0) := by show (fnd L (btw k t f)).getD (0, 0) = _; rw [h2]; rfl
    rw [lgo_none h h2, e]
    have hn : ¬ OkR 0 0 := by unfold OkR; omega
    refine ⟨(norm_no hn).1.symm, (norm_no hn).2.symm, ?_⟩
    rw [rc_no hn]; rfl
  | some b =>
    have e : o = b := by show (fnd L (btw k t f)).getD (0, 0) = _; rw [h2]; rfl
    rw [e]
    by_cases hb : OkR b.1 b.2
    · rw [lgo_turned h h2 hb, rc_ok hb]; exact ⟨rfl, rfl, rfl⟩
    · have hn : ¬ OkR b.2 b.1 := fun q => hb (ok_flip q)
      rw [lgo_wrong h h2 hb]
      refine ⟨(norm_no hn).1.symm, (norm_no hn).2.symm, ?_⟩
      rw [rc_no hb]; rfl
set_option maxHeartbeats 8000000 in
set_option maxRecDepth 100000 in
theorem leg_c (bn bk : Nat) (a : Option Addr) (c : Nat) (N : List RtT) (k0 k1 k2 k3 k4 k5 f t : Int) (w : World) (hN : RdR w a N) (hn : N.length ≤ 1000000) (hbn : w.cell? ⟨bn, 0, none⟩ = some (.slice a N.length c)) (hk : Ow6 w bk (k0, k1, k2, k3, k4, k5)) :
    Calls Try.prog 27 #[.int .i64 f, .int .i64 t, .pointer (some ⟨bn, 0, none⟩), .pointer (some ⟨bk, 0, none⟩)] w fun e w' =>
      e = .returned (.tuple #[.agg #[.int .i64 ((lgo N (k0, k1, k2, k3, k4, k5) f t).getD (0, 0)).1, .int .i64 ((lgo N (k0, k1, k2, k3, k4, k5) f t).getD (0, 0)).2], .bool (lgo N (k0, k1, k2, k3, k4, k5) f t).isSome]) ∧ Below w.heap.size w w' := by
  have HS : Hid (∀ w', Below w.heap.size w w' → w'.cell? ⟨bn, 0, none⟩ = some (.slice a N.length c) ∧ w'.cell? ⟨bk, 0, none⟩ = some (.int .i64 k0) ∧ w'.cell? ⟨bk, 1, none⟩ = some (.int .i64 k1) ∧ w'.cell? ⟨bk, 2, none⟩ = some (.int .i64 k2) ∧ w'.cell? ⟨bk, 3, none⟩ = some (.int .i64 k3) ∧ w'.cell? ⟨bk, 4, none⟩ = some (.int .i64 k4) ∧ w'.cell? ⟨bk, 5, none⟩ = some (.int .i64 k5)) := fun w' hb => ⟨(hb.cell (p := ⟨bn, 0, none⟩) (World.block_lt_of_cell? w _ hbn)).trans hbn, (hk.below hb).letters⟩
  have hB1 := between_c k0 k1 k2 k3 k4 k5 f t
  have hB2 := between_c k0 k1 k2 k3 k4 k5 t f
  have HF1 : Hid (∀ w', Below w.heap.size w w' → Calls Try.prog 12 #[.slice a N.length c, .agg #[.int .i64 f, .int .i64 t, .int .i64 k2, .int .i64 k3, .int .i64 0, .int .i64 0]] w' fun e w'' => e = .returned (.tuple #[.agg #[.int .i64 ((fnd N (f, t, k2, k3, 0, 0)).getD (0, 0)).1, .int .i64 ((fnd N (f, t, k2, k3, 0, 0)).getD (0, 0)).2], .bool (fnd N (f, t, k2, k3, 0, 0)).isSome]) ∧ Below w'.heap.size w' w'') := fun w' hb => find_r a c N (f, t, k2, k3, 0, 0) w' (hN.below hb) hn
  have HF2 : Hid (∀ w', Below w.heap.size w w' → Calls Try.prog 12 #[.slice a N.length c, .agg #[.int .i64 t, .int .i64 f, .int .i64 k2, .int .i64 k3, .int .i64 0, .int .i64 0]] w' fun e w'' => e = .returned (.tuple #[.agg #[.int .i64 ((fnd N (t, f, k2, k3, 0, 0)).getD (0, 0)).1, .int .i64 ((fnd N (t, f, k2, k3, 0, 0)).getD (0, 0)).2], .bool (fnd N (t, f, k2, k3, 0, 0)).isSome]) ∧ Below w'.heap.size w' w'') := fun w' hb => find_r a c N (t, f, k2, k3, 0, 0) w' (hN.below hb) hn
  obtain ⟨W0, hW0⟩ : ∃ W0, w.alloc (.cells #[.int .i64 0, .int .i64 0] 24) = W0 := ⟨_, rfl⟩
  have HO : Hid (Ow2 W0 w.heap.size (.int .i64 0) (.int .i64 0)) := by rw [← hW0]; exact Ow2.new _ _ _ _
  have KH : Hid (Keeps w W0 []) := by rw [← hW0]; exact (Keeps.start w).alloc _
  have NN := Lib.hid (Ow2.new W0 (.int .i64 0) (.int .i64 0) 24)
  have HW := Lib.hid hW0
  obtain ⟨o1, ho1⟩ : ∃ o, fnd N (f, t, k2, k3, 0, 0) = o := ⟨_, rfl⟩
  rw [ho1] at HF1
  clear hN hbn hk hW0
  cases o1 with
  | some r =>
    obtain ⟨n1, d1⟩ := r
    have HV : Hid (lgo N (k0, k1, k2, k3, k4, k5) f t = some (n1, d1)) := lgo_straight (k := (k0, k1, k2, k3, k4, k5)) ho1
    have HF1 : Hid (∀ w', Below w.heap.size w w' → Calls Try.prog 12 #[.slice a N.length c, .agg #[.int .i64 f, .int .i64 t, .int .i64 k2, .int .i64 k3, .int .i64 0, .int .i64 0]] w' fun e w'' => e = .returned (.tuple #[.agg #[.int .i64 n1, .int .i64 d1], .bool true]) ∧ Below w'.heap.size w' w'') := HF1
    clear ho1
    rw [HV.out]
    show Calls _ _ _ _ fun e w' => e = .returned (.tuple #[.agg #[.int .i64 n1, .int .i64 d1], .bool true]) ∧ _
    go_enter Try.func27, Try.ntmps27
    go_upto_region 1 with fail
    rw [HW.out]
    go_cut [8, 9] (fun s8 s9 wx => ∃ B8, s8 = .pointer (some ⟨B8, 0, none⟩) ∧ s9 = .bool true ∧ Keeps w wx [] ∧ Ow2 wx w.heap.size (.int .i64 0) (.int .i64 0) ∧ At2 wx B8 (.int .i64 n1) (.int .i64 d1))
    case first =>
      go_region_held3 (fun w' => w'.cell? ⟨bn, 0, none⟩ = some (.slice a N.length c) ∧ w'.cell? ⟨bk, 0, none⟩ = some (.int .i64 k0) ∧ w'.cell? ⟨bk, 1, none⟩ = some (.int .i64 k1) ∧ w'.cell? ⟨bk, 2, none⟩ = some (.int .i64 k2) ∧ w'.cell? ⟨bk, 3, none⟩ = some (.int .i64 k3) ∧ w'.cell? ⟨bk, 4, none⟩ = some (.int .i64 k4) ∧ w'.cell? ⟨bk, 5, none⟩ = some (.int .i64 k5))
        ((refine (fun (h : Keeps w _ []) => (HS.out _ h.1 : _ ∧ _)) ?_; repeat first | with_reducible exact K2.out | with_reducible exact K1.out | with_reducible exact KH.out | with_reducible refine Keeps.drew ?_ | with_reducible refine Keeps.alloc ?_ _ | with_reducible refine Keeps.set ?_ KH.out.size KH.out.lt | with_reducible refine Keeps.set ?_ K1.out.size K1.out.lt))
        (first
          | (go_at_call 28; (with_reducible first | refine (hB1 _).mono ?_); rintro e w1 ⟨rfl, hbn⟩
             have K1' : Keeps w w1 [] := by with_reducible first | exact KH.out.drew.below hbn | exact (KH.out.alloc _).drew.below hbn | exact (KH.out.drew.alloc _).below hbn
             have K1 := Lib.hid K1'; clear K1'
             obtain ⟨y0, y1, y2, y3, y4, y5, y6⟩ := HS.out _ K1.out.1
             have o1' : Ow2 w1 w.heap.size (.int .i64 0) (.int .i64 0) := by with_reducible first | exact HO.out.drew.below hbn | exact (HO.out.alloc _).drew.below hbn | exact (HO.out.drew.alloc _).below hbn
             have o1 := Lib.hid o1'; clear o1'
             have s1 : Hid (w.heap.size < w1.heap.size) := o1.out.at.2.2
             try (with_reducible first | have n1' := NN.out.drew.below hbn
                  have n1 := Lib.hid n1'
                  obtain ⟨⟨p0, p1, p2⟩, p3, p4⟩ := n1')
             clear hbn)
          | (go_at_call 12; (with_reducible first | refine (HF1.out _ (Keeps.bel K1.out)).mono ?_ | refine (HF1.out _ (Keeps.bel (K1.out.alloc _))).mono ?_); rintro e w2 ⟨rfl, hbn⟩
             have K2' : Keeps w w2 [] := by with_reducible first | exact K1.out.below hbn | exact (K1.out.alloc _).below hbn
             have K2 := Lib.hid K2'; clear K2'
             obtain ⟨y0, y1, y2, y3, y4, y5, y6⟩ := HS.out _ K2.out.1
             have o2' : Ow2 w2 w.heap.size (.int .i64 0) (.int .i64 0) := by with_reducible first | exact o1.out.below hbn | exact (o1.out.alloc _).below hbn
             have o2 := Lib.hid o2'; clear o2'
             have s2 : Hid (w.heap.size < w2.heap.size) := o2.out.at.2.2
             try (with_reducible first | have n2' := n1.out.below hbn | have n2' := (Ow2.new w1 (.int .i64 0) (.int .i64 0) 24).below hbn
                  have n2 := Lib.hid n2'
                  obtain ⟨⟨p0, p1, p2⟩, p3, p4⟩ := n2')
             clear hbn))
      all_goals (go_wp2_with fail)
      all_goals go_meet
      all_goals refine ⟨_, rfl, rfl, ?_, ?_, ?_⟩
      all_goals (have z1 := s1.out; have z0 := HO.out.at.2.2)
      all_goals repeat with_reducible first
        | exact K2.out | exact o2.out | exact n2.out.at
        | refine Keeps.set ?_ KH.out.size KH.out.lt | refine Keeps.set ?_ K1.out.size K1.out.lt
        | refine Keeps.alloc ?_ _
        | refine Ow2.setne ?_ (by omega)
        | refine Ow2.alloc ?_ _
        | refine At2.put (p := .int .i64 0) (q := .int .i64 0) ?_
        | refine At2.new' (by simp [World.setCell])
        | refine At2.alloc ?_ _
    case rest =>
      clear HO KH NN
      obtain ⟨B8, rfl, rfl, K, o, a8⟩ := hcut
      have KE := Lib.hid K.1
      obtain ⟨⟨o0, o1, o2⟩, f1, f2⟩ := o
      obtain ⟨x0, x1, x2⟩ := a8
      have hne : B8 ≠ w.heap.size → True := fun _ => trivial
      clear K HW HF1 HF2 hB1 hB2
      go_wp2_with fail
      refine bodyPost_ret (v := .tuple #[.agg #[.int .i64 n1, .int .i64 d1], .bool true]) (by simp [results, Try.results27, go_sem, o0, o1]) rfl ⟨rfl, ?_⟩
      exact below_set2 KE.out (Nat.le_refl _)
  | none =>
    have HF1 : Hid (∀ w', Below w.heap.size w w' → Calls Try.prog 12 #[.slice a N.length c, .agg #[.int .i64 f, .int .i64 t, .int .i64 k2, .int .i64 k3, .int .i64 0, .int .i64 0]] w' fun e w'' => e = .returned (.tuple #[.agg #[.int .i64 0, .int .i64 0], .bool false]) ∧ Below w'.heap.size w' w'') := HF1
    have HV := Lib.hid (leg_not (L := N) (k := (k0, k1, k2, k3, k4, k5)) (f := f) (t := t) ho1)
    have HV : Hid (((lgo N (k0, k1, k2, k3, k4, k5) f t).getD (0, 0)).1 = normn ((fnd N (t, f, k2, k3, 0, 0)).getD (0, 0)).2 ((fnd N (t, f, k2, k3, 0, 0)).getD (0, 0)).1 ∧ ((lgo N (k0, k1, k2, k3, k4, k5) f t).getD (0, 0)).2 = normd ((fnd N (t, f, k2, k3, 0, 0)).getD (0, 0)).2 ((fnd N (t, f, k2, k3, 0, 0)).getD (0, 0)).1 ∧ (lgo N (k0, k1, k2, k3, k4, k5) f t).isSome = (rc ((fnd N (t, f, k2, k3, 0, 0)).getD (0, 0)).1 ((fnd N (t, f, k2, k3, 0, 0)).getD (0, 0)).2 == 0)) := HV
    clear ho1
    obtain ⟨o2, ho2⟩ : ∃ o, fnd N (t, f, k2, k3, 0, 0) = o := ⟨_, rfl⟩
    rw [ho2] at HF2 HV
    clear ho2
    obtain ⟨b2, hb2⟩ : ∃ b, o2.isSome = b := ⟨_, rfl⟩
    rw [hb2] at HF2
    clear hb2
    obtain ⟨⟨n2, d2⟩, hr2⟩ : ∃ r, o2.getD (0, 0) = r := ⟨_, rfl⟩
    rw [hr2] at HF2 HV
    clear hr2
    have HF2 : Hid (∀ w', Below w.heap.size w w' → Calls Try.prog 12 #[.slice a N.length c, .agg #[.int .i64 t, .int .i64 f, .int .i64 k2, .int .i64 k3, .int .i64 0, .int .i64 0]] w' fun e w'' => e = .returned (.tuple #[.agg #[.int .i64 n2, .int .i64 d2], .bool b2]) ∧ Below w'.heap.size w' w'') := HF2
    have hI := c_inverse n2 d2
    rw [HV.out.1, HV.out.2.1, HV.out.2.2]
    show Calls _ _ _ _ fun e w' => e = .returned (.tuple #[.agg #[.int .i64 (normn d2 n2), .int .i64 (normd d2 n2)], .bool (rc n2 d2 == 0)]) ∧ _
    clear HV
    generalize normn d2 n2 = p at *
    generalize normd d2 n2 = q at *
    generalize rc n2 d2 = e2 at *
    go_enter Try.func27, Try.ntmps27
    go_upto_region 1 with fail
    rw [HW.out]
    go_cut [8, 9] (fun s8 s9 wx => ∃ B8, s8 = .pointer (some ⟨B8, 0, none⟩) ∧ s9 = .bool false ∧ Keeps w wx [] ∧ Ow2 wx w.heap.size (.int .i64 0) (.int .i64 0) ∧ At2 wx B8 (.int .i64 0) (.int .i64 0))
    case first =>
      go_region_held3 (fun w' => w'.cell? ⟨bn, 0, none⟩ = some (.slice a N.length c) ∧ w'.cell? ⟨bk, 0, none⟩ = some (.int .i64 k0) ∧ w'.cell? ⟨bk, 1, none⟩ = some (.int .i64 k1) ∧ w'.cell? ⟨bk, 2, none⟩ = some (.int .i64 k2) ∧ w'.cell? ⟨bk, 3, none⟩ = some (.int .i64 k3) ∧ w'.cell? ⟨bk, 4, none⟩ = some (.int .i64 k4) ∧ w'.cell? ⟨bk, 5, none⟩ = some (.int .i64 k5))
        ((refine (fun (h : Keeps w _ []) => (HS.out _ h.1 : _ ∧ _)) ?_; repeat first | with_reducible exact K2.out | with_reducible exact K1.out | with_reducible exact KH.out | with_reducible refine Keeps.drew ?_ | with_reducible refine Keeps.alloc ?_ _ | with_reducible refine Keeps.set ?_ KH.out.size KH.out.lt | with_reducible refine Keeps.set ?_ K1.out.size K1.out.lt))
        (first
          | (go_at_call 28; (with_reducible first | refine (hB1 _).mono ?_); rintro e w1 ⟨rfl, hbn⟩
             have K1' : Keeps w w1 [] := by with_reducible first | exact KH.out.drew.below hbn | exact (KH.out.alloc _).drew.below hbn | exact (KH.out.drew.alloc _).below hbn
             have K1 := Lib.hid K1'; clear K1'
             obtain ⟨y0, y1, y2, y3, y4, y5, y6⟩ := HS.out _ K1.out.1
             have o1' : Ow2 w1 w.heap.size (.int .i64 0) (.int .i64 0) := by with_reducible first | exact HO.out.drew.below hbn | exact (HO.out.alloc _).drew.below hbn | exact (HO.out.drew.alloc _).below hbn
             have o1 := Lib.hid o1'; clear o1'
             have s1 : Hid (w.heap.size < w1.heap.size) := o1.out.at.2.2
             try (with_reducible first | have n1' := NN.out.drew.below hbn
                  have n1 := Lib.hid n1'
                  obtain ⟨⟨p0, p1, p2⟩, p3, p4⟩ := n1')
             clear hbn)
          | (go_at_call 12; (with_reducible first | refine (HF1.out _ (Keeps.bel K1.out)).mono ?_ | refine (HF1.out _ (Keeps.bel (K1.out.alloc _))).mono ?_); rintro e w2 ⟨rfl, hbn⟩
             have K2' : Keeps w w2 [] := by with_reducible first | exact K1.out.below hbn | exact (K1.out.alloc _).below hbn
             have K2 := Lib.hid K2'; clear K2'
             obtain ⟨y0, y1, y2, y3, y4, y5, y6⟩ := HS.out _ K2.out.1
             have o2' : Ow2 w2 w.heap.size (.int .i64 0) (.int .i64 0) := by with_reducible first | exact o1.out.below hbn | exact (o1.out.alloc _).below hbn
             have o2 := Lib.hid o2'; clear o2'
             have s2 : Hid (w.heap.size < w2.heap.size) := o2.out.at.2.2
             try (with_reducible first | have n2' := n1.out.below hbn | have n2' := (Ow2.new w1 (.int .i64 0) (.int .i64 0) 24).below hbn
                  have n2 := Lib.hid n2'
                  obtain ⟨⟨p0, p1, p2⟩, p3, p4⟩ := n2')
             clear hbn))
      all_goals (go_wp2_with fail)
      all_goals go_meet
      all_goals refine ⟨_, rfl, rfl, ?_, ?_, ?_⟩
      all_goals (have z1 := s1.out; have z0 := HO.out.at.2.2)
      all_goals repeat with_reducible first
        | exact K2.out | exact o2.out | exact n2.out.at
        | refine Keeps.set ?_ KH.out.size KH.out.lt | refine Keeps.set ?_ K1.out.size K1.out.lt
        | refine Keeps.alloc ?_ _
        | refine Ow2.setne ?_ (by omega)
        | refine Ow2.alloc ?_ _
        | refine At2.put (p := .int .i64 0) (q := .int .i64 0) ?_
        | refine At2.new' (by simp [World.setCell])
        | refine At2.alloc ?_ _
    case rest =>
      clear HO KH NN
      obtain ⟨B8, rfl, rfl, K, o, a8⟩ := hcut
      have KH := Lib.hid K
      have HO := Lib.hid o
      have NN := Lib.hid (Ow2.new wc (.int .i64 0) (.int .i64 0) 24)
      clear K o a8 HW HF1 hB1
      go_upto_region 4 with fail
      skip
      go_cut [10, 11] (fun s8 s9 wx => ∃ B8, s8 = .pointer (some ⟨B8, 0, none⟩) ∧ s9 = .bool b2 ∧ Keeps w wx [] ∧ Ow2 wx w.heap.size (.int .i64 0) (.int .i64 0) ∧ At2 wx B8 (.int .i64 n2) (.int .i64 d2))
      case first =>
        go_region_held3 (fun w' => w'.cell? ⟨bn, 0, none⟩ = some (.slice a N.length c) ∧ w'.cell? ⟨bk, 0, none⟩ = some (.int .i64 k0) ∧ w'.cell? ⟨bk, 1, none⟩ = some (.int .i64 k1) ∧ w'.cell? ⟨bk, 2, none⟩ = some (.int .i64 k2) ∧ w'.cell? ⟨bk, 3, none⟩ = some (.int .i64 k3) ∧ w'.cell? ⟨bk, 4, none⟩ = some (.int .i64 k4) ∧ w'.cell? ⟨bk, 5, none⟩ = some (.int .i64 k5))
          ((refine (fun (h : Keeps w _ []) => (HS.out _ h.1 : _ ∧ _)) ?_; repeat first | with_reducible exact K2.out | with_reducible exact K1.out | with_reducible exact KH.out | with_reducible refine Keeps.drew ?_ | with_reducible refine Keeps.alloc ?_ _ | with_reducible refine Keeps.set ?_ KH.out.size KH.out.lt | with_reducible refine Keeps.set ?_ K1.out.size K1.out.lt))
          (first
            | (go_at_call 28; (with_reducible first | refine (hB2 _).mono ?_); rintro e w1 ⟨rfl, hbn⟩
               have K1' : Keeps w w1 [] := by with_reducible first | exact KH.out.drew.below hbn | exact (KH.out.alloc _).drew.below hbn | exact (KH.out.drew.alloc _).below hbn
               have K1 := Lib.hid K1'; clear K1'
               obtain ⟨y0, y1, y2, y3, y4, y5, y6⟩ := HS.out _ K1.out.1
               have o1' : Ow2 w1 w.heap.size (.int .i64 0) (.int .i64 0) := by with_reducible first | exact HO.out.drew.below hbn | exact (HO.out.alloc _).drew.below hbn | exact (HO.out.drew.alloc _).below hbn
               have o1 := Lib.hid o1'; clear o1'
               have s1 : Hid (w.heap.size < w1.heap.size) := o1.out.at.2.2
               try (with_reducible first | have n1' := NN.out.drew.below hbn
                    have n1 := Lib.hid n1'
                    obtain ⟨⟨p0, p1, p2⟩, p3, p4⟩ := n1')
               clear hbn)
            | (go_at_call 12; (with_reducible first | refine (HF2.out _ (Keeps.bel K1.out)).mono ?_ | refine (HF2.out _ (Keeps.bel (K1.out.alloc _))).mono ?_); rintro e w2 ⟨rfl, hbn⟩
               have K2' : Keeps w w2 [] := by with_reducible first | exact K1.out.below hbn | exact (K1.out.alloc _).below hbn
               have K2 := Lib.hid K2'; clear K2'
               obtain ⟨y0, y1, y2, y3, y4, y5, y6⟩ := HS.out _ K2.out.1
               have o2' : Ow2 w2 w.heap.size (.int .i64 0) (.int .i64 0) := by with_reducible first | exact o1.out.below hbn | exact (o1.out.alloc _).below hbn
               have o2 := Lib.hid o2'; clear o2'
               have s2 : Hid (w.heap.size < w2.heap.size) := o2.out.at.2.2
               try (with_reducible first | have n2' := n1.out.below hbn | have n2' := (Ow2.new w1 (.int .i64 0) (.int .i64 0) 24).below hbn
                    have n2 := Lib.hid n2'
                    obtain ⟨⟨p0, p1, p2⟩, p3, p4⟩ := n2')
               clear hbn))
        all_goals (go_wp2_with fail)
        all_goals go_meet
        all_goals refine ⟨_, rfl, rfl, ?_, ?_, ?_⟩
        all_goals (have z1 := s1.out; have z0 := HO.out.at.2.2)
        all_goals repeat with_reducible first
          | exact K2.out | exact o2.out | exact n2.out.at
          | refine Keeps.set ?_ KH.out.size KH.out.lt | refine Keeps.set ?_ K1.out.size K1.out.lt
          | refine Keeps.alloc ?_ _
          | refine Ow2.setne ?_ (by omega)
          | refine Ow2.alloc ?_ _
          | refine At2.put (p := .int .i64 0) (q := .int .i64 0) ?_
          | refine At2.new' (by simp [World.setCell])
          | refine At2.alloc ?_ _
      case rest =>
        clear HO KH NN
        obtain ⟨B10, rfl, rfl, K, o, a8⟩ := hcut
        have KE := Lib.hid K
        have OI := Lib.hid o
        obtain ⟨⟨o0, o1, o2⟩, f1, f2⟩ := o
        obtain ⟨x0, x1, x2⟩ := a8
        clear K HF2 hB2
        go_wp2_with fail
        refine (hI _).mono ?_; clear hI; rintro e w5 ⟨rfl, hb5⟩
        have KB := Lib.hid (KE.out.below hb5)
        have hO5 := OI.out.below hb5
        clear o0 o1 o2 f1 f2 x0 x1 x2 hb5
        have OA := hO5.alloc (.cells #[.int .i64 p, .int .i64 q] 24)
        obtain ⟨⟨q0, q1, q2⟩, g1, g2⟩ := OA
        obtain ⟨y0, y1, y2⟩ := At2.new w5 (.int .i64 p) (.int .i64 q) 24
        have HBE := Lib.hid (KB.out.alloc (.cells #[.int .i64 p, .int .i64 q] 24)).1
        clear hO5
        go_wp2_with fail
        refine bodyPost_ret (v := .tuple #[.agg #[.int .i64 p, .int .i64 q], .bool (e2 == 0)]) (by simp [results, Try.results27, go_sem, q0, q1]) rfl ⟨rfl, ?_⟩
        exact below_set2 HBE.out (Nat.le_refl _)
end Go.Proofs.Ytogckefmmjbapaa
