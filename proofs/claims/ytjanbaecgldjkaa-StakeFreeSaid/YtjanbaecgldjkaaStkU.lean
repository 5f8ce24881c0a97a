/-
  StakeFree of layer 18 returns true, whatever stakes and numbers it is given. No conditions.
-/
import Derived.Test.YtjanbaecgldjkaaStkT
import Derived.Test.YtjanbaecgldjkaaStkX
import Derived.Deep.QuietTactic
import Derived.BigQuiet
import Derived.WalkSmall
import Derived.Deep.DeepCutAuto
import Derived.Deep.RegionHeld3
namespace Go.Proofs.Ytjanbaecgldjkaa
open Go.RowKit
set_option linter.unusedSimpArgs false
set_option linter.unusedVariables false

set_option maxHeartbeats 8000000 in
set_option maxRecDepth 100000 in
theorem free18 (a : Option Addr) (c : Nat) (L : List K4) (n p : Int) (w : World) (hr : Go.RowsIn.QuadS w a c L) (hn0 : InR n) :
    Calls Try.prog 5 #[.slice a L.length c, .int .i64 n, .int .i64 p] w fun e w' => e = .returned (.bool true) ∧ Below w.heap.size w w' := by
  have HL := Lib.hid (rdq_in hr)
  clear hr
  by_cases h1 : 30 < L.length
  · have d1 : decide ((30 : Int) < (L.length : Int)) = true := decide_eq_true (by omega)
    have d2 : decide (30 < L.length) = true := decide_eq_true h1
    go_enter Try.func5, Try.ntmps5
    go_wp2_with fail
    refine (awake18 _).mono ?_; rintro e w2 ⟨rfl, hb2⟩
    go_wp2_with fail
    go_ret
    exact ⟨rfl, hb2⟩
  · have d1 : decide ((30 : Int) < (L.length : Int)) = false := decide_eq_false (by omega)
    have d2 : decide (30 < L.length) = false := decide_eq_false h1
    by_cases h2 : 40 < n
    · have d3 : decide (40 < n) = true := decide_eq_true h2
      go_enter Try.func5, Try.ntmps5
      go_wp2_with fail
      refine (awake18 _).mono ?_; rintro e w2 ⟨rfl, hb2⟩
      go_wp2_with fail
      go_ret
      exact ⟨rfl, hb2⟩
    · have d3 : decide (40 < n) = false := decide_eq_false h2
      have hn : L.length ≤ 1000000 := by omega
      have hck := check_s a c L n w HL.out.1 hn
      have HZ : Hid (chE L n = 0 → (∀ q x, x ≠ 0 → ¬ Back (nx L q) x) ∧ ∀ x q, (0 ≤ upv L x q ∧ (upv L x q = 0 ∨ upv L x q ≤ n)) ∧ 0 ≤ shv L x q ∧ shv L x q ≤ 10000) := fun q => by
        have h := chE_zero (by omega) q
        exact ⟨fun q x hx => free_all h q hx, fun x q => upv_in (mem_wrg h) x q⟩
      have HAT : Hid (∀ wr x, Below w.heap.size w wr → Calls Try.prog 14 #[.slice a L.length c, .int .i64 x, .int .i64 p] wr fun e w' => e = .returned (.tuple #[.int .i64 (upv L x p), .int .i64 (shv L x p)]) ∧ Below wr.heap.size wr w') := fun wr x h => at_s a c L x p wr (HL.out.1.below h) hn
      generalize chV L n = cv at *
      generalize chE L n = ce at *
      by_cases h3 : ce = 0
      · have HFR := Lib.hid (HZ.out h3).1
        have HIN := Lib.hid (HZ.out h3).2
        subst h3
        clear HZ
        go_enter Try.func5, Try.ntmps5
        go_wp2_with fail
        refine hck.mono ?_; clear hck; rintro e w2 ⟨rfl, hb2⟩
        have HB2 := Lib.hid hb2
        clear hb2 d1 d2 d3
        go_wp2_with fail
        go_loopw [9] (fun i wr => ∃ k : Int, 1 ≤ k ∧ (k ≤ n + 1 ∨ k = 1) ∧ i = .int .i64 k ∧ Below w.heap.size w wr) (fun i _ => (n + 1 - RowKit.intOf i).toNat)
        case atStart => exact ⟨1, Int.le_refl _, Or.inr rfl, rfl, HB2.out⟩
        case round =>
          clear HB2
          obtain ⟨k, hk1, hk2, rfl, hb⟩ := hrel
          have HB := Lib.hid hb; clear hb
          by_cases hlt : k ≤ n
          · have i0 : decide (k ≤ n) = true := decide_eq_true hlt
            have e1 : wrap64 (k + 1) = k + 1 := by unfold wrap64; omega
            have hk0 : k ≠ 0 := by omega
            have hat := HAT.out wr k HB.out
            have HRD : Hid (∀ w', Below w.heap.size w w' → ∃ k' : Int, 1 ≤ k' ∧ (k' ≤ n + 1 ∨ k' = 1) ∧ Value.int .i64 (k + 1) = .int .i64 k' ∧ Below w.heap.size w w') := fun w' h => ⟨k + 1, by omega, Or.inl (by omega), rfl, h⟩
            rw [← nx_ne hk0] at hat
            have HW1 : Hid (nx L p k = way (nx L p) (0 + 1) k ∧ shv L k p = shv L (way (nx L p) 0 k) p) := ⟨rfl, rfl⟩
            generalize nx L p k = z1 at *
            generalize shv L k p = s1 at *
            have HK := Lib.hid (And.intro hk0 (And.intro hk1 hlt))
            have hkb : k < 50 := by omega
            clear hk0
            go_wp2_with fail
            refine hat.mono ?_; clear hat; rintro e w3 ⟨rfl, hb3⟩
            have HB3 : Hid (Below w.heap.size w w3) := HB.out.trans (hb3.mono HB.out.size)
            clear hb3
            go_wp2_with fail
            go_loopw [10, 11, 12] (fun va vs vt wr => ∃ m : Nat, va = .int .i64 (way (nx L p) (m + 1) k) ∧ vs = .int .i64 (shv L (way (nx L p) m k) p) ∧ vt = .int .i64 (m : Int) ∧ (∀ j, j ≤ m → way (nx L p) j k ≠ 0) ∧ Below w.heap.size w wr) (fun _ _ i _ => (n + 1 - RowKit.intOf i).toNat)
            case atStart => exact ⟨0, by rw [HW1.out.1], by rw [HW1.out.2], rfl, fun j hj => by rw [show j = 0 by omega]; exact HK.out.1, HB3.out⟩
            case round =>
              clear HB3 HW1
              obtain ⟨m, rfl, rfl, rfl, hway, hb⟩ := hrel
              have HB := Lib.hid hb; clear hb
              have hin := (HIN.out (way (nx L p) m k) p).2
              have hst := way_stop (f := nx L p) (n := n) (fun y hy => HFR.out p y hy) (fun y => by
                unfold nx
                split
                · exact ⟨Int.le_refl _, Or.inl rfl⟩
                · exact (HIN.out y p).1) ⟨HK.out.2.1, HK.out.2.2⟩ hway
              have hmn : way (nx L p) (m + 1) k = upv L (way (nx L p) m k) p := nx_ne (hway m (Nat.le_refl _))
              have hui := (HIN.out (way (nx L p) m k) p).1
              rw [← hmn] at hui
              have HWY := Lib.hid hway
              generalize shv L (way (nx L p) m k) p = sh at *
              clear hmn hway
              by_cases h0 : way (nx L p) (m + 1) k = 0
              · rw [h0]
                clear h0 hui hin
                go_wp2_with fail
                go_roundw
                · exact HRD.out _ HB.out
                · simp [RowKit.intOf]; omega
              · have t0 : (way (nx L p) (m + 1) k != 0) = true := by simpa using h0
                have t1 : decide ((m : Int) ≤ n) = true := decide_eq_true (by omega)
                have t2 : (way (nx L p) (m + 1) k == k) = false := by
                  simp only [beq_eq_false_iff_ne]
                  exact fun q => HFR.out p k HK.out.1 ⟨m + 1, by omega, q⟩
                have t3 : decide (way (nx L p) (m + 1) k < 1) = false := decide_eq_false (by omega)
                have t4 : decide (n < way (nx L p) (m + 1) k) = false := decide_eq_false (by omega)
                have t5 : decide (sh < 0) = false := decide_eq_false (by omega)
                have t6 : decide (10000 < sh) = false := decide_eq_false (by omega)
                have e2 : wrap64 ((m : Int) + 1) = (m : Int) + 1 := by unfold wrap64; omega
                have hat := HAT.out wr (way (nx L p) (m + 1) k) HB.out
                rw [← nx_ne h0] at hat
                have HST : Hid (∀ w', Below w.heap.size w w' → ∃ m' : Nat, Value.int .i64 (nx L p (way (nx L p) (m + 1) k)) = .int .i64 (way (nx L p) (m' + 1) k) ∧ Value.int .i64 (shv L (way (nx L p) (m + 1) k) p) = .int .i64 (shv L (way (nx L p) m' k) p) ∧ Value.int .i64 ((m : Int) + 1) = .int .i64 (m' : Int) ∧ (∀ j, j ≤ m' → way (nx L p) j k ≠ 0) ∧ Below w.heap.size w w') := fun w' h => ⟨m + 1, rfl, rfl, by rw [show ((m + 1 : Nat) : Int) = (m : Int) + 1 by omega], fun j hj => by
                  rcases Nat.lt_or_ge j (m + 1) with q | q
                  · exact HWY.out j (by omega)
                  · rw [show j = m + 1 by omega]; exact h0, h⟩
                have HMN : Hid ((m : Int) + 1 ≤ n) := hst
                have hmb : (m : Int) < 50 := by omega
                have hmb2 : m < 50 := by omega
                generalize nx L p (way (nx L p) (m + 1) k) = z2 at *
                generalize shv L (way (nx L p) (m + 1) k) p = s2 at *
                generalize way (nx L p) (m + 1) k = z at *
                clear h0 hui hin hst
                go_wp2_with fail
                refine hat.mono ?_; clear hat; rintro e w4 ⟨rfl, hb4⟩
                have HB4 : Hid (Below w.heap.size w w4) := HB.out.trans (hb4.mono HB.out.size)
                clear hb4 t0 t1 t2 t3 t4 t5 t6
                go_wp2_with fail
                go_roundw
                · (first | exact HST.out _ HB4.out | (rw [e2]; exact HST.out _ HB4.out))
                · have := HMN.out; simp [RowKit.intOf]; omega
          · have i0 : decide (k ≤ n) = false := decide_eq_false hlt
            go_wp2_with fail
            refine (awake18 _).mono ?_; rintro e w7 ⟨rfl, hb7⟩
            have HB7 : Hid (Below w.heap.size w w7) := HB.out.trans (hb7.mono HB.out.size)
            clear hb7
            go_wp2_with fail
            go_ret
            exact ⟨rfl, HB7.out⟩
      · have e0 : (ce != 0) = true := by simpa using h3
        clear h3 HZ
        go_enter Try.func5, Try.ntmps5
        go_wp2_with fail
        refine hck.mono ?_; clear hck; rintro e w2 ⟨rfl, hb2⟩
        have HB2 := Lib.hid hb2
        clear hb2
        go_wp2_with fail
        refine (awake18 _).mono ?_; rintro e w7 ⟨rfl, hb7⟩
        have HB7 : Hid (Below w.heap.size w w7) := HB2.out.trans (hb7.mono HB2.out.size)
        clear hb7
        go_wp2_with fail
        go_ret
        exact ⟨rfl, HB7.out⟩
end Go.Proofs.Ytjanbaecgldjkaa
