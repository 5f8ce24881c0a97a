/-
  RateCrosses of layer 21 returns true, whatever rates it is given. No conditions.
-/
import Derived.Test.YtogckefmmjbapaaRtS
namespace Go.Proofs.Ytogckefmmjbapaa
open Go.RowKit
set_option linter.unusedSimpArgs false
set_option linter.unusedVariables false

set_option maxHeartbeats 8000000 in
set_option maxRecDepth 100000 in
theorem crosses21 (a : Option Addr) (c : Nat) (L : List RtT) (k : RtT) (w : World) (hr : Go.RowsIn.SixS w a c L) :
    Calls Try.prog 5 #[.slice a L.length c, encR k] w fun e w' => e = .returned (.bool true) ∧ Below w.heap.size w w' := by
  have HL := Lib.hid (rdR_in hr)
  have HB := Lib.hid (below1 w (objR k))
  have HO := Lib.hid (Ow6.new w k)
  clear hr
  by_cases g1 : 100 < L.length
  · have d1 : decide ((100 : Int) < (L.length : Int)) = true := decide_eq_true (by omega)
    have d2 : decide (100 < L.length) = true := decide_eq_true g1
    clear g1
    go_enter Try.func5, Try.ntmps5
    go_wp2_with fail
    refine (awake21 _).mono ?_; rintro e w99 ⟨rfl, hb99⟩
    go_wp2_with fail
    go_ret
    exact ⟨rfl, HB.out.trans (hb99.mono HB.out.size)⟩
  · have d1 : decide ((100 : Int) < (L.length : Int)) = false := decide_eq_false (by omega)
    have d2 : decide (100 < L.length) = false := decide_eq_false g1
    have hn : L.length ≤ 100 := by omega
    have HFB0 := fun w' h => find_r a c L (k.2.1, k.1, k.2.2.1, k.2.2.2.1, 0, 0) w' (HL.out.1.below h) (by omega)
    have HFK0 := fun w' h => find_r a c L k w' (HL.out.1.below h) (by omega)
    have HCK0 := fun w' h => cross_r a c L k w' (HL.out.1.below h) (by omega)
    have HCB0 := fun w' h => cross_r a c L (k.2.1, k.1, k.2.2.1, k.2.2.2.1, 0, 0) w' (HL.out.1.below h) (by omega)
    have HCH0 := fun w' h => check_r a c L w' (HL.out.1.below h) (by omega)
    have G1 : ∀ x, fnd L k = some x → crs L k = some x := fun x q => crs_straight q
    have G2 : rkE L = 0 → ∀ x, fnd L k = some x → fnd L (k.2.1, k.1, k.2.2.1, k.2.2.2.1, 0, 0) = none → crs L (k.2.1, k.1, k.2.2.1, k.2.2.2.1, 0, 0) = some (normn x.2 x.1, normd x.2 x.1) ∧ OkR x.1 x.2 := fun q x p r => ⟨crs_back (rkE_ok q) p r, fnd_ok (rkE_ok q) p⟩
    have G3 : rkE L = 0 → ∀ x, crs L k = some x → OkR x.1 x.2 := fun q x p => crs_ok (rkE_ok q) p
    obtain ⟨kv, hkv⟩ : ∃ z, rkV L = z := ⟨_, rfl⟩
    obtain ⟨ke, hke⟩ : ∃ z, rkE L = z := ⟨_, rfl⟩
    rw [hkv, hke] at HCH0
    rw [hke] at G2 G3
    obtain ⟨o1, h1⟩ : ∃ o, fnd L k = o := ⟨_, rfl⟩
    obtain ⟨o2, h2⟩ : ∃ o, fnd L (k.2.1, k.1, k.2.2.1, k.2.2.2.1, 0, 0) = o := ⟨_, rfl⟩
    obtain ⟨o3, h3⟩ : ∃ o, crs L k = o := ⟨_, rfl⟩
    obtain ⟨o4, h4⟩ : ∃ o, crs L (k.2.1, k.1, k.2.2.1, k.2.2.2.1, 0, 0) = o := ⟨_, rfl⟩
    rw [h1, h3] at G1
    rw [h1, h2, h4] at G2
    rw [h3] at G3
    rw [h1] at HFK0
    rw [h2] at HFB0
    rw [h3] at HCK0
    rw [h4] at HCB0
    clear h1 h2 h3 h4 hkv hke
    obtain ⟨⟨p1, q1⟩, e1⟩ : ∃ x, o1.getD (0, 0) = x := ⟨_, rfl⟩
    obtain ⟨⟨p2, q2⟩, e2⟩ : ∃ x, o2.getD (0, 0) = x := ⟨_, rfl⟩
    obtain ⟨⟨p3, q3⟩, e3⟩ : ∃ x, o3.getD (0, 0) = x := ⟨_, rfl⟩
    obtain ⟨⟨p4, q4⟩, e4⟩ : ∃ x, o4.getD (0, 0) = x := ⟨_, rfl⟩
    obtain ⟨s1, f1⟩ : ∃ x, o1.isSome = x := ⟨_, rfl⟩
    obtain ⟨s2, f2⟩ : ∃ x, o2.isSome = x := ⟨_, rfl⟩
    obtain ⟨s3, f3⟩ : ∃ x, o3.isSome = x := ⟨_, rfl⟩
    obtain ⟨s4, f4⟩ : ∃ x, o4.isSome = x := ⟨_, rfl⟩
    rw [e1, f1] at HFK0
    rw [e2, f2] at HFB0
    rw [e3, f3] at HCK0
    rw [e4, f4] at HCB0
    have HFK : Hid (∀ w', Below w.heap.size w w' → Calls Try.prog 12 #[.slice a L.length c, .agg #[.int .i64 k.1, .int .i64 k.2.1, .int .i64 k.2.2.1, .int .i64 k.2.2.2.1, .int .i64 k.2.2.2.2.1, .int .i64 k.2.2.2.2.2]] w' fun e w'' => e = .returned (.tuple #[.agg #[.int .i64 p1, .int .i64 q1], .bool s1]) ∧ Below w'.heap.size w' w'') := HFK0
    have HFB : Hid (∀ w', Below w.heap.size w w' → Calls Try.prog 12 #[.slice a L.length c, .agg #[.int .i64 k.2.1, .int .i64 k.1, .int .i64 k.2.2.1, .int .i64 k.2.2.2.1, .int .i64 0, .int .i64 0]] w' fun e w'' => e = .returned (.tuple #[.agg #[.int .i64 p2, .int .i64 q2], .bool s2]) ∧ Below w'.heap.size w' w'') := HFB0
    have HCK : Hid (∀ w', Below w.heap.size w w' → Calls Try.prog 14 #[.slice a L.length c, .agg #[.int .i64 k.1, .int .i64 k.2.1, .int .i64 k.2.2.1, .int .i64 k.2.2.2.1, .int .i64 k.2.2.2.2.1, .int .i64 k.2.2.2.2.2]] w' fun e w'' => e = .returned (.tuple #[.agg #[.int .i64 p3, .int .i64 q3], .bool s3]) ∧ Below w'.heap.size w' w'') := HCK0
    have HCB : Hid (∀ w', Below w.heap.size w w' → Calls Try.prog 14 #[.slice a L.length c, .agg #[.int .i64 k.2.1, .int .i64 k.1, .int .i64 k.2.2.1, .int .i64 k.2.2.2.1, .int .i64 0, .int .i64 0]] w' fun e w'' => e = .returned (.tuple #[.agg #[.int .i64 p4, .int .i64 q4], .bool s4]) ∧ Below w'.heap.size w' w'') := HCB0
    have HCH : Hid (∀ w', Below w.heap.size w w' → Calls Try.prog 7 #[.slice a L.length c] w' fun e w'' => e = .returned (.tuple #[.int .i64 kv, .int .i64 ke]) ∧ Below w'.heap.size w' w'') := HCH0
    have F1 : Hid (s1 = true → p3 = p1 ∧ q3 = q1 ∧ s3 = true) := fun q => by
      cases o1 with
      | none => rw [q] at f1; cases f1
      | some x =>
        have := G1 x rfl
        subst this
        cases e1; cases e3
        exact ⟨rfl, rfl, f3.symm⟩
    have F2 : Hid (ke = 0 → s1 = true → s2 = false → p4 = normn q1 p1 ∧ q4 = normd q1 p1 ∧ s4 = true ∧ rc p1 q1 = 0) := fun q r s => by
      cases o1 with
      | none => rw [r] at f1; cases f1
      | some x =>
        cases o2 with
        | some y => rw [s] at f2; cases f2
        | none =>
          obtain ⟨g1, g2⟩ := G2 q x rfl rfl
          subst g1
          cases e1; cases e4
          exact ⟨rfl, rfl, f4.symm, rc_ok g2⟩
    have F3 : Hid (ke = 0 → s3 = true → rc p3 q3 = 0) := fun q r => by
      cases o3 with
      | none => rw [r] at f3; cases f3
      | some x =>
        have := G3 q x rfl
        cases e3
        exact rc_ok this
    have HCR0 := c_check p3 q3
    have HIN0 := c_inverse p1 q1
    have heq := fun (x y : Int) w' => (eq_ratio x y x y w').trans (show Result.ok (x == x && y == y) w' = Result.ok true w' by rw [beq_self_eq_true, beq_self_eq_true]; rfl)
    clear HFK0 HFB0 HCK0 HCB0 HCH0 G1 G2 G3 e1 e2 e3 e4 f1 f2 f3 f4 g1 hn
    obtain ⟨c0, c1, c2, c3, c4, c5⟩ := HO.out.cells
    have hko := Ow6.new' (w.alloc (objR k)) k.2.1 k.1 k.2.2.1 k.2.2.2.1 0 0
    rw [World.size_alloc] at hko
    have HK := Lib.hid hko
    have hbb := below1 (w.alloc (objR k)) (objL k.2.1 k.1 k.2.2.1 k.2.2.2.1 0 0)
    have HO0 := Lib.hid (HO.out.below hbb)
    have HB0 := Lib.hid (HB.out.trans (hbb.mono HB.out.size))
    clear hko hbb HB
    go_enter Try.func5, Try.ntmps5
    go_upto_region 4 with fail
    clear c0 c1 c2 c3 c4 c5
    obtain ⟨c0, c1, c2, c3, c4, c5⟩ := HO0.out.cells
    go_wp2_with fail
    refine (HFK.out _ HB0.out).mono ?_; rintro e w1 ⟨rfl, hb1⟩
    have hbx1 := hb1.trans ((below1 w1 (.cells #[.int .i64 p1, .int .i64 q1] 24)).mono hb1.size)
    have HB1 := Lib.hid (HB0.out.trans (hbx1.mono HB0.out.size))
    have HO1 := Lib.hid (HO0.out.below hbx1)
    have HK1 := Lib.hid (HK.out.below hbx1)
    have HA1 := Lib.hid (At2.new w1 (.int .i64 p1) (.int .i64 q1) 24)
    clear hb1 hbx1 c0 c1 c2 c3 c4 c5
    obtain ⟨k0, k1, k2, k3, k4, k5⟩ := HK1.out.letters
    go_wp2_with fail
    refine (HFB.out _ HB1.out).mono ?_; rintro e w2 ⟨rfl, hb2⟩
    have hbx2 := hb2.trans ((below1 w2 (.cells #[.int .i64 p2, .int .i64 q2] 24)).mono hb2.size)
    have HB2 := Lib.hid (HB1.out.trans (hbx2.mono HB1.out.size))
    have HO2 := Lib.hid (HO1.out.below hbx2)
    have HK2 := Lib.hid (HK1.out.below hbx2)
    have HA2 := Lib.hid (HA1.out.below hbx2)
    clear hb2 hbx2 k0 k1 k2 k3 k4 k5
    obtain ⟨c0, c1, c2, c3, c4, c5⟩ := HO2.out.cells
    go_wp2_with fail
    refine (HCK.out _ HB2.out).mono ?_; rintro e w3 ⟨rfl, hb3⟩
    have hbx3 := hb3.trans ((below1 w3 (.cells #[.int .i64 p3, .int .i64 q3] 24)).mono hb3.size)
    have HB3 := Lib.hid (HB2.out.trans (hbx3.mono HB2.out.size))
    have HK3 := Lib.hid (HK2.out.below hbx3)
    have HA3 := Lib.hid (HA2.out.below hbx3)
    have HC3 := Lib.hid (At2.new w3 (.int .i64 p3) (.int .i64 q3) 24)
    clear hb3 hbx3 c0 c1 c2 c3 c4 c5
    obtain ⟨a0, a1, -⟩ := HA3.out
    obtain ⟨d0, d1, -⟩ := HC3.out
    by_cases hke : ke = 0
    · have t0 : (ke != 0) = false := by simpa using hke
      have HZ := Lib.hid hke
      cases s1 with
      | true =>
        obtain ⟨g1, g2, g3⟩ := F1.out rfl
        subst g1 g2 g3
        have HRC : Hid (rc p3 q3 = 0) := F3.out HZ.out rfl
        have HCR := Lib.hid HCR0
        rw [HRC.out] at HCR
        cases s2 with
        | true =>
          clear HIN0 HCR0 hke F1 F2 F3
          go_wp2_with fail
          refine (HCH.out _ HB3.out).mono ?_; rintro e w4 ⟨rfl, hb4⟩
          have HBY := Lib.hid (HB3.out.trans (hb4.mono HB3.out.size))
          have HK4 := Lib.hid (HK3.out.below hb4)
          have HA := Lib.hid (HA3.out.below hb4)
          have HC := Lib.hid (HC3.out.below hb4)
          clear hb4 a0 a1 d0 d1 HB3
          obtain ⟨z0, z1, -⟩ := HC.out
          go_wp2_with fail
          refine (HCR.out _).mono ?_; rintro e w8 ⟨rfl, hb8⟩
          have HBZ := Lib.hid (HBY.out.trans (hb8.mono HBY.out.size))
          clear hb8 z0 z1
          go_wp2_with fail
          refine (awake21 _).mono ?_; rintro e w99 ⟨rfl, hb99⟩
          go_wp2_with fail
          go_ret
          exact ⟨rfl, HBZ.out.trans (hb99.mono HBZ.out.size)⟩
        | false =>
          obtain ⟨g4, g5, g6, g7⟩ := F2.out HZ.out rfl rfl
          have HIN := Lib.hid HIN0
          rw [g7, ← g4, ← g5] at HIN
          subst g6
          clear HIN0 HCR0 hke F1 F2 F3 g4 g5 g7
          go_wp2_with fail
          refine (HCH.out _ HB3.out).mono ?_; rintro e w4 ⟨rfl, hb4⟩
          have HBY := Lib.hid (HB3.out.trans (hb4.mono HB3.out.size))
          have HK4 := Lib.hid (HK3.out.below hb4)
          have HA := Lib.hid (HA3.out.below hb4)
          have HC := Lib.hid (HC3.out.below hb4)
          clear hb4 a0 a1 d0 d1 HB3
          obtain ⟨k0, k1, k2, k3, k4, k5⟩ := HK4.out.letters
          go_wp2_with fail
          refine (HCB.out _ HBY.out).mono ?_; rintro e w5 ⟨rfl, hb5⟩
          have hbx5 := hb5.trans ((below1 w5 (.cells #[.int .i64 p4, .int .i64 q4] 24)).mono hb5.size)
          have HBY := Lib.hid (HBY.out.trans (hbx5.mono HBY.out.size))
          have HA := Lib.hid (HA.out.below hbx5)
          have HC := Lib.hid (HC.out.below hbx5)
          have HD := Lib.hid (At2.new w5 (.int .i64 p4) (.int .i64 q4) 24)
          clear hb5 hbx5 k0 k1 k2 k3 k4 k5
          obtain ⟨a0, a1, -⟩ := HA.out
          go_wp2_with fail
          refine (HIN.out _).mono ?_; rintro e w6 ⟨rfl, hb6⟩
          have hbx6 := hb6.trans ((below1 w6 (.cells #[.int .i64 p4, .int .i64 q4] 24)).mono hb6.size)
          have HBY := Lib.hid (HBY.out.trans (hbx6.mono HBY.out.size))
          have HC := Lib.hid (HC.out.below hbx6)
          have HD := Lib.hid (HD.out.below hbx6)
          have HE := Lib.hid (At2.new w6 (.int .i64 p4) (.int .i64 q4) 24)
          clear hb6 hbx6 a0 a1
          obtain ⟨x0, x1, -⟩ := HD.out
          obtain ⟨y0, y1, -⟩ := HE.out
          obtain ⟨z0, z1, -⟩ := HC.out
          go_wp2_with fail
          refine (HCR.out _).mono ?_; rintro e w8 ⟨rfl, hb8⟩
          have HBZ := Lib.hid (HBY.out.trans (hb8.mono HBY.out.size))
          clear hb8 z0 z1
          go_wp2_with fail
          refine (awake21 _).mono ?_; rintro e w99 ⟨rfl, hb99⟩
          go_wp2_with fail
          go_ret
          exact ⟨rfl, HBZ.out.trans (hb99.mono HBZ.out.size)⟩
      | false =>
        cases s3 with
        | true =>
          have HRC : Hid (rc p3 q3 = 0) := F3.out HZ.out rfl
          have HCR := Lib.hid HCR0
          rw [HRC.out] at HCR
          clear HIN0 HCR0 hke F1 F2 F3
          go_wp2_with fail
          refine (HCH.out _ HB3.out).mono ?_; rintro e w4 ⟨rfl, hb4⟩
          have HBY := Lib.hid (HB3.out.trans (hb4.mono HB3.out.size))
          have HK4 := Lib.hid (HK3.out.below hb4)
          have HA := Lib.hid (HA3.out.below hb4)
          have HC := Lib.hid (HC3.out.below hb4)
          clear hb4 a0 a1 d0 d1 HB3
          obtain ⟨z0, z1, -⟩ := HC.out
          go_wp2_with fail
          refine (HCR.out _).mono ?_; rintro e w8 ⟨rfl, hb8⟩
          have HBZ := Lib.hid (HBY.out.trans (hb8.mono HBY.out.size))
          clear hb8 z0 z1
          go_wp2_with fail
          refine (awake21 _).mono ?_; rintro e w99 ⟨rfl, hb99⟩
          go_wp2_with fail
          go_ret
          exact ⟨rfl, HBZ.out.trans (hb99.mono HBZ.out.size)⟩
        | false =>
          clear HIN0 HCR0 hke F1 F2 F3
          go_wp2_with fail
          refine (HCH.out _ HB3.out).mono ?_; rintro e w4 ⟨rfl, hb4⟩
          have HBY := Lib.hid (HB3.out.trans (hb4.mono HB3.out.size))
          have HK4 := Lib.hid (HK3.out.below hb4)
          have HA := Lib.hid (HA3.out.below hb4)
          have HC := Lib.hid (HC3.out.below hb4)
          clear hb4 a0 a1 d0 d1 HB3
          go_wp2_with fail
          refine (awake21 _).mono ?_; rintro e w99 ⟨rfl, hb99⟩
          go_wp2_with fail
          go_ret
          exact ⟨rfl, HBY.out.trans (hb99.mono HBY.out.size)⟩
    · have t0 : (ke != 0) = true := by simpa using hke
      clear HIN0 HCR0 hke F2 F3
      cases s1 with
      | true =>
        obtain ⟨g1, g2, g3⟩ := F1.out rfl
        subst g1 g2 g3
        clear F1
        go_wp2_with fail
        refine (HCH.out _ HB3.out).mono ?_; rintro e w4 ⟨rfl, hb4⟩
        have HBY := Lib.hid (HB3.out.trans (hb4.mono HB3.out.size))
        have HK4 := Lib.hid (HK3.out.below hb4)
        have HA := Lib.hid (HA3.out.below hb4)
        have HC := Lib.hid (HC3.out.below hb4)
        clear hb4 a0 a1 d0 d1 HB3
        go_wp2_with fail
        refine (awake21 _).mono ?_; rintro e w99 ⟨rfl, hb99⟩
        go_wp2_with fail
        go_ret
        exact ⟨rfl, HBY.out.trans (hb99.mono HBY.out.size)⟩
      | false =>
        clear F1
        go_wp2_with fail
        refine (HCH.out _ HB3.out).mono ?_; rintro e w4 ⟨rfl, hb4⟩
        have HBY := Lib.hid (HB3.out.trans (hb4.mono HB3.out.size))
        have HK4 := Lib.hid (HK3.out.below hb4)
        have HA := Lib.hid (HA3.out.below hb4)
        have HC := Lib.hid (HC3.out.below hb4)
        clear hb4 a0 a1 d0 d1 HB3
        go_wp2_with fail
        refine (awake21 _).mono ?_; rintro e w99 ⟨rfl, hb99⟩
        go_wp2_with fail
        go_ret
        exact ⟨rfl, HBY.out.trans (hb99.mono HBY.out.size)⟩
end Go.Proofs.Ytogckefmmjbapaa
