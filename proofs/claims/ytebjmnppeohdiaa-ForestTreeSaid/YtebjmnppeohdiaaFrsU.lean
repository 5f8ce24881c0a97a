/-
  ForestMeets of layer 19 returns true, whatever stakes and numbers it is given. No conditions.
-/
import Derived.Test.YtebjmnppeohdiaaFrsT
import Derived.Deep.QuietTactic
import Derived.BigQuiet
import Derived.WalkSmall
import Derived.Deep.DeepCutAuto
import Derived.Deep.RegionHeld3
namespace Go.Proofs.Ytebjmnppeohdiaa
open Go.RowKit
set_option linter.unusedSimpArgs false
set_option linter.unusedVariables false

set_option maxHeartbeats 1000000 in
set_option maxRecDepth 100000 in
theorem few19 (a : Option Addr) (c : Nat) (L : List K4) (n : Int) (w : World) :
    Calls Try.prog 23 #[.slice a L.length c, .int .i64 n] w fun e w' => e = .returned (.bool (decide (L.length ≤ 20) && decide (n ≤ 10))) ∧ w = w' := by
  by_cases h : L.length ≤ 20
  · have d1 : decide ((L.length : Int) ≤ 20) = true := decide_eq_true (by omega)
    rw [decide_eq_true h, Bool.true_and]
    clear h
    go_enter Try.func23, Try.ntmps23
    go_wp2_with fail
    go_ret
    exact ⟨rfl, rfl⟩
  · have d1 : decide ((L.length : Int) ≤ 20) = false := decide_eq_false (by omega)
    rw [decide_eq_false h, Bool.false_and]
    clear h
    go_enter Try.func23, Try.ntmps23
    go_wp2_with fail
    go_ret
    exact ⟨rfl, rfl⟩
set_option maxHeartbeats 32000000 in
set_option maxRecDepth 100000 in
theorem meets19 (a : Option Addr) (c : Nat) (L : List K4) (n p : Int) (w : World) (hr : Go.RowsIn.QuadS w a c L) :
    Calls Try.prog 4 #[.slice a L.length c, .int .i64 n, .int .i64 p] w fun e w' => e = .returned (.bool true) ∧ Below w.heap.size w w' := by
  have HL := Lib.hid (rdq_in19 hr)
  have HBW := Lib.hid (Below.refl w.heap.size w)
  have hfew := few19 a c L n w
  clear hr
  by_cases g1 : L.length ≤ 20 ∧ n ≤ 10
  · rw [decide_eq_true g1.1, decide_eq_true g1.2] at hfew
    have hl : L.length ≤ 1000000 := by omega
    by_cases he : atE L n p = 0
    · have HNB : Hid (0 ≤ n ∧ n ≤ 10) := by
        have := (atE_zero he).1
        exact ⟨by omega, g1.2⟩
      have hca := at19 a c L.length L n p w HL.out.1 rfl hl he
      have HRA : Hid (∀ wz, Below w.heap.size w wz → Calls Try.prog 9 #[.slice a L.length c, .int .i64 n, .int .i64 p] wz fun e w' => e = .returned (.tuple #[fV a c L n p, .int .i64 0]) ∧ Below wz.heap.size wz w') := fun wz q => r19at_yes a c L n p wz (HL.out.1.below q) hl HL.out.2.1 he
      have HFO : Hid (FOk n (pr L n p)) := pr_ok p (at_len he) (atE_zero he).2.2
      have HSO : Hid (∀ x, 0 ≤ sr L n p x ∧ sr L n p x ≤ 10000) := sr_ok p (at_len he) (atE_zero he).2.2
      have HLL := Lib.hid hl
      clear he g1 hl
      go_enter Try.func4, Try.ntmps4
      go_wp2_with fail
      refine hfew.mono ?_; clear hfew; rintro e w0 ⟨rfl, rfl⟩
      go_wp2_with fail
      refine hca.mono ?_; clear hca; rintro e w1 ⟨B, rfl, hFB, -, hb1⟩
      have HB1 := Lib.hid hb1
      have HFB1 := Lib.hid hFB
      have hra := HRA.out w1 hb1
      clear hFB hb1 HRA
      go_wp2_with fail
      refine hra.mono ?_; clear hra; rintro e w2 ⟨rfl, hb2⟩
      have HB2 : Hid (Below w.heap.size w w2) := HB1.out.trans (hb2.mono HB1.out.size)
      have hb3 := below1 w2 (fC a c L n p)
      have HFB := Lib.hid ((HFB1.out.below hb2).below hb3)
      have HY := Lib.hid (Lies.new w2 a c L n p)
      have HB3 : Hid (Below w.heap.size w (w2.alloc (fC a c L n p))) := HB2.out.trans (hb3.mono HB2.out.size)
      clear hb2 hb3 HB2 HB1 HFB1
      obtain ⟨c0, c1, c2⟩ := HY.out
      go_wp2_with fail
      generalize hW : w2.alloc (fC a c L n p) = W at *
      generalize hZ : w2.heap.size = z0 at *
      have HWZ := Lib.hid (And.intro hW hZ)
      clear hW hZ c0 c1 c2
      have HHA : Hid (∀ t x wz, Below W.heap.size W wz → Calls Try.prog 24 #[ptr B, .int .i64 t, .int .i64 x] wz fun e w' => e = .returned (.tuple #[.agg #[.int .i64 (hdv n (pr L n p) (sr L n p) t x).1, .int .i64 (hdv n (pr L n p) (sr L n p) t x).2.1], .int .i64 (hdv n (pr L n p) (sr L n p) t x).2.2]) ∧ Below wz.heap.size wz w') := fun t x wz q => held_c (HFB.out.below q) HFO.out HSO.out t x
      have HHB : Hid (∀ t x wz, Below W.heap.size W wz → Calls Try.prog 25 #[fV a c L n p, .int .i64 t, .int .i64 x] wz fun e w' => e = .returned (.tuple #[.agg #[.int .i64 (hdv n (pr L n p) (sr L n p) t x).1, .int .i64 (hdv n (pr L n p) (sr L n p) t x).2.1], .int .i64 (hdv n (pr L n p) (sr L n p) t x).2.2]) ∧ Below wz.heap.size wz w') := fun t x wz q => r19held a c L n p t x wz (HL.out.1.below (HB3.out.trans (q.mono HB3.out.size))) HLL.out (by have := HNB.out; omega) HFO.out HSO.out
      have HMA : Hid (∀ t x wz, Below W.heap.size W wz → Calls Try.prog 26 #[ptr B, .int .i64 t, .int .i64 x] wz fun e w' => e = .returned (.int .i64 (mt n (pr L n p) t x)) ∧ Below wz.heap.size wz w') := fun t x wz q => meet_c (HFB.out.below q) HFO.out t x
      have HMB : Hid (∀ t x wz, Below W.heap.size W wz → Calls Try.prog 27 #[fV a c L n p, .int .i64 t, .int .i64 x] wz fun e w' => e = .returned (.int .i64 (mt n (pr L n p) t x)) ∧ Below wz.heap.size wz w') := fun t x wz q => r19meet a c L n p t x wz (HL.out.1.below (HB3.out.trans (q.mono HB3.out.size))) HLL.out (by have := HNB.out; omega) HFO.out
      have heq := eq_ratio19
      have HEN : Hid (wrap64 (n + 1) = n + 1) := by have := HNB.out; show _ = _; unfold wrap64; omega
      go_loopw [11] (fun vi wr => ∃ k : Int, 0 ≤ k ∧ k ≤ n + 2 ∧ vi = .int .i64 k ∧ Below W.heap.size W wr) (fun vi _ => (n + 2 - RowKit.intOf vi).toNat)
      case atStart => exact ⟨0, by omega, by have := HNB.out; omega, rfl, by first | exact Below.refl _ _ | (rw [HWZ.out.1]; exact Below.refl _ _)⟩
      case round =>
        obtain ⟨k, hk0, hk1, rfl, hb⟩ := hrel
        have HBk := Lib.hid hb
        by_cases hlt : k ≤ n + 1
        · have t0 : decide (k ≤ wrap64 (n + 1)) = true := decide_eq_true (by rw [HEN.out]; exact hlt)
          have e1 : wrap64 (k + 1) = k + 1 := by have := HNB.out; unfold wrap64; omega
          have HRD : Hid (∀ w', Below W.heap.size W w' → ∃ k' : Int, 0 ≤ k' ∧ k' ≤ n + 2 ∧ Value.int .i64 (k + 1) = .int .i64 k' ∧ Below W.heap.size W w') := fun w' h => ⟨k + 1, by omega, by omega, rfl, h⟩
          have HM : Hid ((n + 2 - (k + 1)).toNat < (n + 2 - k).toNat) := by show _ < _; omega
          clear hb hlt hk0 hk1
          go_wp2_with fail
          go_loopw [12] (fun vi wr => ∃ j : Int, 0 ≤ j ∧ j ≤ n + 2 ∧ vi = .int .i64 j ∧ Below W.heap.size W wr) (fun vi _ => (n + 2 - RowKit.intOf vi).toNat)
          case atStart => exact ⟨0, by omega, by have := HNB.out; omega, rfl, HBk.out⟩
          case round =>
            clear HBk
            obtain ⟨j, hj0, hj1, rfl, hb⟩ := hrel
            have HBk := Lib.hid hb
            by_cases hlt : j ≤ n + 1
            · have t1 : decide (j ≤ wrap64 (n + 1)) = true := decide_eq_true (by rw [HEN.out]; exact hlt)
              have e2 : wrap64 (j + 1) = j + 1 := by have := HNB.out; unfold wrap64; omega
              have HRJ : Hid (∀ w', Below W.heap.size W w' → ∃ j' : Int, 0 ≤ j' ∧ j' ≤ n + 2 ∧ Value.int .i64 (j + 1) = .int .i64 j' ∧ Below W.heap.size W w') := fun w' h => ⟨j + 1, by omega, by omega, rfl, h⟩
              have HMJ : Hid ((n + 2 - (j + 1)).toNat < (n + 2 - j).toNat) := by show _ < _; omega
              have hha := HHA.out k j wr hb
              have HHBk := Lib.hid (fun wz q => HHB.out k j wz q)
              have HMAw := Lib.hid (fun wz q => HMA.out k j wz q)
              have HMBw := Lib.hid (fun wz q => HMB.out k j wz q)
              clear HHA HHB HMA HMB hb hlt hj0 hj1
              generalize (hdv n (pr L n p) (sr L n p) k j).1 = h1 at *
              generalize (hdv n (pr L n p) (sr L n p) k j).2.1 = h2 at *
              generalize (hdv n (pr L n p) (sr L n p) k j).2.2 = h3 at *
              generalize mt n (pr L n p) k j = m at *
              go_wp2_with fail
              refine hha.mono ?_; clear hha; rintro e w3 ⟨rfl, hb3⟩
              have hb3a := below1 w3 (.cells #[.int .i64 h1, .int .i64 h2] 43)
              have HQ3 := Lib.hid (Ow2.new w3 (.int .i64 h1) (.int .i64 h2) 43)
              have HK3 : Hid (Below W.heap.size W (w3.alloc (.cells #[.int .i64 h1, .int .i64 h2] 43))) := (HBk.out.trans (hb3.mono HBk.out.size)).trans (hb3a.mono (HBk.out.trans (hb3.mono HBk.out.size)).size)
              obtain ⟨c0, c1, c2⟩ := HY.out.below HK3.out
              clear hb3 hb3a HBk
              go_wp2_with fail
              generalize w3.alloc (.cells #[.int .i64 h1, .int .i64 h2] 43) = v3 at *
              generalize w3.heap.size = z3 at *
              refine (HHBk.out v3 HK3.out).mono ?_; rintro e w4 ⟨rfl, hb4⟩
              have hb4a := below1 w4 (.cells #[.int .i64 h1, .int .i64 h2] 43)
              have HQ4 := Lib.hid (Ow2.new w4 (.int .i64 h1) (.int .i64 h2) 43)
              have HQ34 := Lib.hid ((HQ3.out.below hb4).below hb4a)
              have HK4 : Hid (Below W.heap.size W (w4.alloc (.cells #[.int .i64 h1, .int .i64 h2] 43))) := (HK3.out.trans (hb4.mono HK3.out.size)).trans (hb4a.mono (HK3.out.trans (hb4.mono HK3.out.size)).size)
              clear hb4 hb4a HK3 HQ3 c0 c1 c2
              obtain ⟨c0, c1, c2⟩ := HY.out.below HK4.out
              obtain ⟨⟨x0, x1, -⟩, -⟩ := HQ34.out
              obtain ⟨⟨y0, y1, -⟩, -⟩ := HQ4.out
              go_wp2_with fail
              generalize w4.alloc (.cells #[.int .i64 h1, .int .i64 h2] 43) = V at *
              generalize w4.heap.size = z4 at *
              have HMAk : Hid (∀ wz, Below V.heap.size V wz → _) := fun wz q => HMAw.out wz (HK4.out.trans (q.mono HK4.out.size))
              have HMBk : Hid (∀ wz, Below V.heap.size V wz → _) := fun wz q => HMBw.out wz (HK4.out.trans (q.mono HK4.out.size))
              have HCE : Hid (∀ wz, Below V.heap.size V wz → (wz.cell? ⟨z0, 0, none⟩ = some (.slice a L.length c) ∧ wz.cell? ⟨z0, 1, none⟩ = some (.int .i64 n) ∧ wz.cell? ⟨z0, 2, none⟩ = some (.int .i64 p)) ∧ (wz.cell? ⟨z3, 0, none⟩ = some (.int .i64 h1) ∧ wz.cell? ⟨z3, 1, none⟩ = some (.int .i64 h2)) ∧ wz.cell? ⟨z4, 0, none⟩ = some (.int .i64 h1) ∧ wz.cell? ⟨z4, 1, none⟩ = some (.int .i64 h2)) := fun wz q => ⟨HY.out.below (HK4.out.trans (q.mono HK4.out.size)), ⟨(HQ34.out.below q).1.1, (HQ34.out.below q).1.2.1⟩, (HQ4.out.below q).1.1, (HQ4.out.below q).1.2.1⟩
              have K := Lib.hid (Below.refl V.heap.size V)
              go_region_held3 (fun wz => (wz.cell? ⟨z0, 0, none⟩ = some (.slice a L.length c) ∧ wz.cell? ⟨z0, 1, none⟩ = some (.int .i64 n) ∧ wz.cell? ⟨z0, 2, none⟩ = some (.int .i64 p)) ∧ (wz.cell? ⟨z3, 0, none⟩ = some (.int .i64 h1) ∧ wz.cell? ⟨z3, 1, none⟩ = some (.int .i64 h2)) ∧ wz.cell? ⟨z4, 0, none⟩ = some (.int .i64 h1) ∧ wz.cell? ⟨z4, 1, none⟩ = some (.int .i64 h2))
                (first | exact HCE.out _ K.out | exact HCE.out _ K.out.drew)
                (first
                  | (go_at_call 26; (with_reducible first | refine (HMAk.out _ K.out).mono ?_ | refine (HMAk.out _ K.out.drew).mono ?_); rintro e wn ⟨rfl, hbn⟩; (first | replace K := Lib.hid (K.out.trans (hbn.mono K.out.size)) | replace K := Lib.hid (K.out.drew.trans (hbn.mono K.out.drew.size))); clear hbn)
                  | (go_at_call 27; (with_reducible first | refine (HMBk.out _ K.out).mono ?_ | refine (HMBk.out _ K.out.drew).mono ?_); rintro e wn ⟨rfl, hbn⟩; (first | replace K := Lib.hid (K.out.trans (hbn.mono K.out.size)) | replace K := Lib.hid (K.out.drew.trans (hbn.mono K.out.drew.size))); clear hbn)
                  )
              all_goals go_wp2_with fail
              all_goals go_roundw
              · (first | exact HRJ.out _ (by first | exact HK4.out.trans (K.out.mono HK4.out.size) | exact HK4.out.trans (K.out.drew.mono HK4.out.size)) | (rw [e2]; exact HRJ.out _ (by first | exact HK4.out.trans (K.out.mono HK4.out.size) | exact HK4.out.trans (K.out.drew.mono HK4.out.size))))
              · (first | exact HMJ.out | (rw [e2]; exact HMJ.out))
            · have t1 : decide (j ≤ wrap64 (n + 1)) = false := decide_eq_false (by rw [HEN.out]; exact hlt)
              clear hb hlt hj0 hj1
              go_wp2_with fail
              all_goals go_roundw
              · (first | exact HRD.out _ HBk.out | (rw [e1]; exact HRD.out _ HBk.out))
              · (first | exact HM.out | (rw [e1]; exact HM.out))
        · have t0 : decide (k ≤ wrap64 (n + 1)) = false := decide_eq_false (by rw [HEN.out]; exact hlt)
          clear hb hlt hk0 hk1
          go_wp2_with fail
          refine (awake19 _).mono ?_; rintro e w9 ⟨rfl, hb9⟩
          go_wp2_with fail
          go_ret
          exact ⟨rfl, HB3.out.trans ((HBk.out.trans (hb9.mono HBk.out.size)).mono HB3.out.size)⟩
    · have d5 : (atE L n p != 0) = true := by simpa using he
      have hca := atno19 a c L.length L n p (atE L n p) w HL.out.1 rfl hl rfl he
      have HRA : Hid (∀ wz, Below w.heap.size w wz → Calls Try.prog 9 #[.slice a L.length c, .int .i64 n, .int .i64 p] wz fun e w' => e = .returned (.tuple #[.agg #[.slice none 0 0, .int .i64 0, .int .i64 0], .int .i64 (atE L n p)]) ∧ Below wz.heap.size wz w') := fun wz q => r19at_no a c L n p wz (HL.out.1.below q) hl HL.out.2.1 he
      generalize atE L n p = en at *
      clear he g1 hl
      go_enter Try.func4, Try.ntmps4
      go_wp2_with fail
      refine hfew.mono ?_; clear hfew; rintro e w0 ⟨rfl, rfl⟩
      go_wp2_with fail
      refine hca.mono ?_; clear hca; rintro e w1 ⟨rfl, hb1⟩
      have HB1 := Lib.hid hb1
      have hra := HRA.out w1 hb1
      clear hb1 HRA
      go_wp2_with fail
      refine hra.mono ?_; clear hra; rintro e w2 ⟨rfl, hb2⟩
      have HB2 : Hid (Below w.heap.size w w2) := HB1.out.trans (hb2.mono HB1.out.size)
      have HB3 : Hid (Below w.heap.size w (w2.alloc (.cells #[.slice none 0 0, .int .i64 0, .int .i64 0] 29))) := HB2.out.trans ((below1 w2 _).mono HB2.out.size)
      clear hb2
      go_wp2_with fail
      refine (awake19 _).mono ?_; rintro e w9 ⟨rfl, hb9⟩
      go_wp2_with fail
      go_ret
      exact ⟨rfl, HB3.out.trans (hb9.mono HB3.out.size)⟩
  · have hd : (decide (L.length ≤ 20) && decide (n ≤ 10)) = false := by
      rw [Bool.and_eq_false_iff]
      by_cases q : L.length ≤ 20
      · exact Or.inr (decide_eq_false fun r => g1 ⟨q, r⟩)
      · exact Or.inl (decide_eq_false q)
    rw [hd] at hfew
    clear hd g1
    go_enter Try.func4, Try.ntmps4
    go_wp2_with fail
    refine hfew.mono ?_; clear hfew; rintro e w0 ⟨rfl, rfl⟩
    go_wp2_with fail
    refine (awake19 _).mono ?_; rintro e w9 ⟨rfl, hb9⟩
    go_wp2_with fail
    go_ret
    exact ⟨rfl, HBW.out.trans (hb9.mono HBW.out.size)⟩
end Go.Proofs.Ytebjmnppeohdiaa
