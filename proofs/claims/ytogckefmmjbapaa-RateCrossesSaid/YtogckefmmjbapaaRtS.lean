/-
  RateSets of layer 21 returns true, whatever rates it is given. No conditions.
-/
import Derived.Test.YtogckefmmjbapaaRtT
namespace Go.Proofs.Ytogckefmmjbapaa
open Go.RowKit
set_option linter.unusedSimpArgs false
set_option linter.unusedVariables false

theorem eq_ratio (a b a' b' : Int) (w : World) : (Op.equalIn 10000 24 (.agg #[.int .i64 a, .int .i64 b]) (.agg #[.int .i64 a', .int .i64 b'])).run Try.prog w = .ok (a == a' && b == b') w := by
  simp [go_sem]
  by_cases h1 : a = a' <;> by_cases h2 : b = b' <;> simp [h1, h2]
set_option maxHeartbeats 8000000 in
set_option maxRecDepth 100000 in
theorem sets21 (a : Option Addr) (c : Nat) (L : List RtT) (r k : RtT) (w : World) (hr : Go.RowsIn.SixS w a c L) (hk : okT r) :
    Calls Try.prog 4 #[.slice a L.length c, encR r, encR k] w fun e w' => e = .returned (.bool true) ∧ Below w.heap.size w w' := by
  have HL := Lib.hid (rdR_in hr)
  have HB := Lib.hid (below2 w (objR r) (objR k))
  have HO := Lib.hid ((Ow6.new w r).alloc (objR k))
  have hko := Ow6.new (w.alloc (objR r)) k
  rw [World.size_alloc] at hko
  have HK := Lib.hid hko
  clear hr hko
  by_cases g1 : 100 < L.length
  · have d1 : decide ((100 : Int) < (L.length : Int)) = true := decide_eq_true (by omega)
    have d2 : decide (100 < L.length) = true := decide_eq_true g1
    clear g1
    go_enter Try.func4, Try.ntmps4
    go_wp2_with fail
    refine (awake21 _).mono ?_; rintro e w99 ⟨rfl, hb99⟩
    go_wp2_with fail
    go_ret
    exact ⟨rfl, HB.out.trans (hb99.mono HB.out.size)⟩
  · have d1 : decide ((100 : Int) < (L.length : Int)) = false := decide_eq_false (by omega)
    have d2 : decide (100 < L.length) = false := decide_eq_false g1
    have HN : Hid (L.length ≤ 100) := by show _ ≤ _; omega
    have hok := stL_ok HL.out.1.1 hk
    have HMI : Hid ((∀ s ∈ stL L r, okT s) ∧ (stL L r).length ≤ 1000000) := ⟨hok, Nat.le_trans (stL_len L r) (by omega)⟩
    have HS1 : Hid (∀ w', Below w.heap.size w w' → Calls Try.prog 9 #[.slice a L.length c, .agg #[.int .i64 r.1, .int .i64 r.2.1, .int .i64 r.2.2.1, .int .i64 r.2.2.2.1, .int .i64 r.2.2.2.2.1, .int .i64 r.2.2.2.2.2]] w' fun e w'' => ∃ v, e = .returned (.tuple #[v, .int .i64 (stE L r)]) ∧ OwnR w'' w'.heap.size v (stL L r) ∧ Below w'.heap.size w' w'') := fun w' h => set_r a c L r w' (HL.out.1.below h) (by have := HN.out; omega) HL.out.2.1 HL.out.2.2 hk
    obtain ⟨c0, c1, c2, c3, c4, c5⟩ := HO.out.cells
    by_cases hE : stE L r = 0
    · obtain ⟨f1, f2, f3, f4, f5⟩ := set_facts hE
      rw [hE] at HS1
      have HF5 := Lib.hid f5
      have hFL := fun (k : RtT) w' h => find_r a c L k w' (HL.out.1.below h) (by have := HN.out; omega)
      have hFM := fun (M : List RtT) (hM : M.length ≤ 1000000) (k : RtT) b d w' h => find_r b d M k w' h hM
      obtain ⟨M, hM⟩ : ∃ M, stL L r = M := ⟨_, rfl⟩
      rw [hM] at HMI HS1 f1 f2 f3 f4 HF5
      have hFM := hFM M HMI.out.2
      obtain ⟨m, hm⟩ : ∃ m, M.length = m := ⟨_, rfl⟩
      have HFR : Hid (∀ w' b d, RdR w' b M → Calls Try.prog 12 #[.slice b m d, .agg #[.int .i64 r.1, .int .i64 r.2.1, .int .i64 r.2.2.1, .int .i64 r.2.2.2.1, .int .i64 r.2.2.2.2.1, .int .i64 r.2.2.2.2.2]] w' fun e w'' => e = .returned (.tuple #[.agg #[.int .i64 r.2.2.2.2.1, .int .i64 r.2.2.2.2.2], .bool true]) ∧ Below w'.heap.size w' w'') := fun w' b d h => by
        have := hFM r b d w' h
        rw [f1, hm] at this; exact this
      obtain ⟨oL, hoL⟩ : ∃ o, fnd L k = o := ⟨_, rfl⟩
      obtain ⟨oM, hoM⟩ : ∃ o, fnd M k = o := ⟨_, rfl⟩
      have HEQ : Hid (onK r k = false → oM = oL) := fun q => by rw [← hoL, ← hoM]; exact HF5.out k q
      obtain ⟨⟨p1, q1⟩, h1⟩ : ∃ x, oL.getD (0, 0) = x := ⟨_, rfl⟩
      obtain ⟨⟨p2, q2⟩, h2⟩ : ∃ x, oM.getD (0, 0) = x := ⟨_, rfl⟩
      obtain ⟨s1, h3⟩ : ∃ x, oL.isSome = x := ⟨_, rfl⟩
      obtain ⟨s2, h4⟩ : ∃ x, oM.isSome = x := ⟨_, rfl⟩
      have HEQ : Hid (onK r k = false → p2 = p1 ∧ q2 = q1 ∧ s2 = s1) := fun q => by
        have e := HEQ.out q
        rw [e, h1] at h2; rw [e, h3] at h4
        cases h2; exact ⟨rfl, rfl, h4.symm⟩
      obtain ⟨⟨p0, q0⟩, h5⟩ : ∃ x, (fnd L r).getD (0, 0) = x := ⟨_, rfl⟩
      have HFK : Hid (∀ w', Below w.heap.size w w' → Calls Try.prog 12 #[.slice a L.length c, .agg #[.int .i64 k.1, .int .i64 k.2.1, .int .i64 k.2.2.1, .int .i64 k.2.2.2.1, .int .i64 k.2.2.2.2.1, .int .i64 k.2.2.2.2.2]] w' fun e w'' => e = .returned (.tuple #[.agg #[.int .i64 p1, .int .i64 q1], .bool s1]) ∧ Below w'.heap.size w' w'') := fun w' h => by
        have := hFL k w' h
        rw [hoL, h1, h3] at this; exact this
      have HFM : Hid (∀ w' b d, RdR w' b M → Calls Try.prog 12 #[.slice b m d, .agg #[.int .i64 k.1, .int .i64 k.2.1, .int .i64 k.2.2.1, .int .i64 k.2.2.2.1, .int .i64 k.2.2.2.2.1, .int .i64 k.2.2.2.2.2]] w' fun e w'' => e = .returned (.tuple #[.agg #[.int .i64 p2, .int .i64 q2], .bool s2]) ∧ Below w'.heap.size w' w'') := fun w' b d h => by
        have := hFM k b d w' h
        rw [hoM, h2, h4, hm] at this; exact this
      have HFW : Hid (∀ w', Below w.heap.size w w' → Calls Try.prog 12 #[.slice a L.length c, .agg #[.int .i64 r.1, .int .i64 r.2.1, .int .i64 r.2.2.1, .int .i64 r.2.2.2.1, .int .i64 r.2.2.2.2.1, .int .i64 r.2.2.2.2.2]] w' fun e w'' => e = .returned (.tuple #[.agg #[.int .i64 p0, .int .i64 q0], .bool (decide (m = L.length))]) ∧ Below w'.heap.size w' w'') := fun w' h => by
        have := hFL r w' h
        rw [f4, h5, hm] at this; exact this
      rw [hm] at f2 f3
      obtain ⟨l, hl⟩ : ∃ l, L.length = l := ⟨_, rfl⟩
      rw [hl] at f2 f3 HFW HFK HS1 d1 d2 HN ⊢
      have x1 : decide ((m : Int) < (l : Int)) = false := decide_eq_false (by omega)
      have x1' : decide (m < l) = false := decide_eq_false (by omega)
      have x3 : wrap64 ((l : Int) + 1) = (l : Int) + 1 := by unfold wrap64; have := HN.out; omega
      have x2 : decide ((l : Int) + 1 < (m : Int)) = false := decide_eq_false (by omega)
      have x4 : decide (m = l) = ((m : Int) == (l : Int)) := by by_cases q : m = l <;> simp [q]; omega
      have he1 := fun w' => eq_ratio r.2.2.2.2.1 r.2.2.2.2.2 r.2.2.2.2.1 r.2.2.2.2.2 w'
      have he1 : ∀ w', (Op.equalIn 10000 24 (.agg #[.int .i64 r.2.2.2.2.1, .int .i64 r.2.2.2.2.2]) (.agg #[.int .i64 r.2.2.2.2.1, .int .i64 r.2.2.2.2.2])).run Try.prog w' = .ok true w' := fun w' => (eq_ratio _ _ _ _ w').trans (by rw [beq_self_eq_true, beq_self_eq_true]; rfl)
      have he2 : Hid (∀ w', onK r k = false → (Op.equalIn 10000 24 (.agg #[.int .i64 p1, .int .i64 q1]) (.agg #[.int .i64 p2, .int .i64 q2])).run Try.prog w' = .ok true w') := fun w' q => by
        obtain ⟨e1, e2, _⟩ := HEQ.out q
        rw [e1, e2]
        exact (eq_ratio _ _ _ _ w').trans (by rw [beq_self_eq_true, beq_self_eq_true]; rfl)
      have HML := Lib.hid hm
      have HLL := Lib.hid hl
      have hone := fun wz => r21one r.1 r.2.1 r.2.2.1 r.2.2.2.1 r.2.2.2.2.1 r.2.2.2.2.2 k.1 k.2.1 k.2.2.1 k.2.2.2.1 k.2.2.2.2.1 k.2.2.2.2.2 wz
      obtain ⟨t, ht⟩ : ∃ t, onK r k = t := ⟨_, rfl⟩
      have HON : Hid (∀ wz, Calls Try.prog 13 #[.agg #[.int .i64 r.1, .int .i64 r.2.1, .int .i64 r.2.2.1, .int .i64 r.2.2.2.1, .int .i64 r.2.2.2.2.1, .int .i64 r.2.2.2.2.2], .agg #[.int .i64 k.1, .int .i64 k.2.1, .int .i64 k.2.2.1, .int .i64 k.2.2.2.1, .int .i64 k.2.2.2.2.1, .int .i64 k.2.2.2.2.2]] wz fun e w' => e = .returned (.bool t) ∧ Below wz.heap.size wz w') := by rw [← ht]; exact hone
      rw [ht] at HEQ he2
      clear g1 hok f1 f2 f3 f4 f5 hE hM hm hl hoL hoM h1 h2 h3 h4 h5 hFL hFM hone ht
      go_enter Try.func4, Try.ntmps4
      go_wp2_with fail
      refine (HS1.out _ HB.out).mono ?_; rintro e w1 ⟨v, rfl, ho, hb1⟩
      have HB1 := Lib.hid (HB.out.trans (hb1.mono HB.out.size))
      have HO1 := Lib.hid (HO.out.below hb1)
      have HK1 := Lib.hid (HK.out.below hb1)
      obtain ⟨ma, mc, hv, -, -, hMR⟩ := ho.reads HMI.out.1
      rw [HML.out] at hv
      subst hv
      have HM1 := Lib.hid hMR
      clear hb1 ho hMR c0 c1 c2 c3 c4 c5
      obtain ⟨c0, c1, c2, c3, c4, c5⟩ := HO1.out.cells
      go_wp2_with fail
      refine (HFR.out _ ma mc HM1.out).mono ?_; rintro e w2 ⟨rfl, hb2⟩
      have hbx2 := hb2.trans ((below1 w2 (.cells #[.int .i64 r.2.2.2.2.1, .int .i64 r.2.2.2.2.2] 24)).mono hb2.size)
      have HB2 := Lib.hid (HB1.out.trans (hbx2.mono HB1.out.size))
      have HO2 := Lib.hid (HO1.out.below hbx2)
      have HK2 := Lib.hid (HK1.out.below hbx2)
      have HM2 := Lib.hid (HM1.out.below hbx2)
      clear hb2 hbx2 c0 c1 c2 c3 c4 c5
      obtain ⟨c0, c1, c2, c3, c4, c5⟩ := HO2.out.cells
      go_wp2_with fail
      refine (HFW.out _ HB2.out).mono ?_; rintro e w3 ⟨rfl, hb3⟩
      have hbx3 := hb3.trans ((below1 w3 (.cells #[.int .i64 p0, .int .i64 q0] 24)).mono hb3.size)
      have HB3 := Lib.hid (HB2.out.trans (hbx3.mono HB2.out.size))
      have HO3 := Lib.hid (HO2.out.below hbx3)
      have HK3 := Lib.hid (HK2.out.below hbx3)
      have HM3 := Lib.hid (HM2.out.below hbx3)
      clear hb3 hbx3 c0 c1 c2 c3 c4 c5
      obtain ⟨k0, k1, k2, k3, k4, k5⟩ := HK3.out.cells
      go_wp2_with fail
      refine (HFK.out _ HB3.out).mono ?_; rintro e w4 ⟨rfl, hb4⟩
      have hbx4 := hb4.trans ((below1 w4 (.cells #[.int .i64 p1, .int .i64 q1] 24)).mono hb4.size)
      have HB4 := Lib.hid (HB3.out.trans (hbx4.mono HB3.out.size))
      have HO4 := Lib.hid (HO3.out.below hbx4)
      have HK4 := Lib.hid (HK3.out.below hbx4)
      have HM4 := Lib.hid (HM3.out.below hbx4)
      have HA4 := Lib.hid (At2.new w4 (.int .i64 p1) (.int .i64 q1) 24)
      clear hb4 hbx4 k0 k1 k2 k3 k4 k5
      obtain ⟨k0, k1, k2, k3, k4, k5⟩ := HK4.out.cells
      go_wp2_with fail
      refine (HFM.out _ ma mc HM4.out).mono ?_; rintro e w5 ⟨rfl, hb5⟩
      have hbx5 := hb5.trans ((below1 w5 (.cells #[.int .i64 p2, .int .i64 q2] 24)).mono hb5.size)
      have HB5 := Lib.hid (HB4.out.trans (hbx5.mono HB4.out.size))
      have HO5 := Lib.hid (HO4.out.below hbx5)
      have HK5 := Lib.hid (HK4.out.below hbx5)
      have HA5 := Lib.hid (HA4.out.below hbx5)
      have HD5 := Lib.hid (At2.new w5 (.int .i64 p2) (.int .i64 q2) 24)
      clear hb5 hbx5 k0 k1 k2 k3 k4 k5
      obtain ⟨k0, k1, k2, k3, k4, k5⟩ := HK5.out.cells
      obtain ⟨c0, c1, c2, c3, c4, c5⟩ := HO5.out.cells
      go_wp2_with fail
      refine (HON.out _).mono ?_; rintro e w6 ⟨rfl, hb6⟩
      have HB6 := Lib.hid (HB5.out.trans (hb6.mono HB5.out.size))
      have HA6 := Lib.hid (HA5.out.below hb6)
      have HD6 := Lib.hid (HD5.out.below hb6)
      clear hb6 c0 c1 c2 c3 c4 c5 k0 k1 k2 k3 k4 k5
      cases t with
      | true =>
        go_wp2_with fail
        refine (awake21 _).mono ?_; rintro e w99 ⟨rfl, hb99⟩
        go_wp2_with fail
        go_ret
        exact ⟨rfl, HB6.out.trans (hb99.mono HB6.out.size)⟩
      | false =>
        obtain ⟨e1, e2, e3⟩ := HEQ.out rfl
        have he3 := fun w' => he2.out w' rfl
        subst e1 e2 e3
        obtain ⟨y0, y1, -⟩ := HA6.out
        obtain ⟨y2, y3, -⟩ := HD6.out
        clear HEQ he2
        go_wp2_with fail
        refine (awake21 _).mono ?_; rintro e w99 ⟨rfl, hb99⟩
        go_wp2_with fail
        go_ret
        exact ⟨rfl, HB6.out.trans (hb99.mono HB6.out.size)⟩
    · have hM := stL_wrong hE
      rw [hM] at HS1
      obtain ⟨z, hz⟩ : ∃ z, stE L r = z := ⟨_, rfl⟩
      rw [hz] at HS1 hE
      have t0 : (z != 0) = true := by simpa using hE
      clear g1 hok hM hz hE
      go_enter Try.func4, Try.ntmps4
      go_wp2_with fail
      refine (HS1.out _ HB.out).mono ?_; rintro e w1 ⟨v, rfl, ho, hb1⟩
      have HB1 := Lib.hid (HB.out.trans (hb1.mono HB.out.size))
      obtain ⟨xa, xc, hv⟩ := (ownsRow_slc ho).form
      have hv : v = .slice xa 0 xc := hv
      subst hv
      clear hb1 ho c0 c1 c2 c3 c4 c5
      go_wp2_with fail
      refine (awake21 _).mono ?_; rintro e w99 ⟨rfl, hb99⟩
      go_wp2_with fail
      go_ret
      exact ⟨rfl, HB1.out.trans (hb99.mono HB1.out.size)⟩
end Go.Proofs.Ytogckefmmjbapaa
