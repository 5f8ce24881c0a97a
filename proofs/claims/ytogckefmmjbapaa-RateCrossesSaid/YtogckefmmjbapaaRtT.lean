/-
  RateTells of layer 21 returns true, whatever rates and rate it is given. No conditions.
-/
import Derived.Test.YtogckefmmjbapaaRtW
import Derived.Test.YtogckefmmjbapaaRowX
namespace Go.Proofs.Ytogckefmmjbapaa
open Go.RowKit
set_option linter.unusedSimpArgs false
set_option linter.unusedVariables false

theorem rdR_in {w : World} {a : Option Addr} {c : Nat} {L : List RtT} (h : Go.RowsIn.SixS w a c L) : RdR w a L ∧ L.length ≤ c ∧ (a = none → c = 0) := by
  refine ⟨⟨fun s hs => ?_, fun i hi => ?_⟩, h.1, h.2.1⟩
  · obtain ⟨j, hj, rfl⟩ := List.getElem_of_mem hs
    obtain ⟨b, off, _, _, _, _, _, _, _, r⟩ := h.2.2 j hj
    rw [show L.getD j Go.RowsIn.zQ6 = L[j] from getR hj] at r
    exact r
  · obtain ⟨b, off, k1, k2, k3, k4, k5, k6, k7, _⟩ := h.2.2 i hi
    exact ⟨b, off, k1, k2, k3, k4, k5, k6, k7⟩
theorem stL_len (L : List RtT) (r : RtT) : (stL L r).length ≤ L.length + 1 := by
  unfold stL
  split
  · simp
  · split
    · simp
    · split <;> simp
set_option maxHeartbeats 8000000 in
set_option maxRecDepth 100000 in
theorem tells21 (a : Option Addr) (c : Nat) (L : List RtT) (r : RtT) (w : World) (hr : Go.RowsIn.SixS w a c L) (hk : okT r) :
    Calls Try.prog 3 #[.slice a L.length c, encR r] w fun e w' => e = .returned (.bool true) ∧ Below w.heap.size w w' := by
  have HL := Lib.hid (rdR_in hr)
  have HB := Lib.hid (below1 w (objR r))
  have HO := Lib.hid (Ow6.new w r)
  clear hr
  by_cases g1 : 2100 < L.length
  · have d1 : decide ((2100 : Int) < (L.length : Int)) = true := decide_eq_true (by omega)
    have d2 : decide (2100 < L.length) = true := decide_eq_true g1
    clear g1
    go_enter Try.func3, Try.ntmps3
    go_wp2_with fail
    refine (awake21 _).mono ?_; rintro e w99 ⟨rfl, hb99⟩
    go_wp2_with fail
    go_ret
    exact ⟨rfl, HB.out.trans (hb99.mono HB.out.size)⟩
  · have d1 : decide ((2100 : Int) < (L.length : Int)) = false := decide_eq_false (by omega)
    have d2 : decide (2100 < L.length) = false := decide_eq_false g1
    have HN : Hid (L.length ≤ 2100) := by show _ ≤ _; omega
    have hok := stL_ok HL.out.1.1 hk
    have HMI : Hid ((∀ s ∈ stL L r, okT s) ∧ (stL L r).length ≤ 1000000) := ⟨hok, Nat.le_trans (stL_len L r) (by omega)⟩
    have HC1 : Hid (∀ w', Below w.heap.size w w' → Calls Try.prog 7 #[.slice a L.length c] w' fun e w'' => e = .returned (.tuple #[.int .i64 (rkV L), .int .i64 (rkE L)]) ∧ Below w'.heap.size w' w'') := fun w' h => check_r a c L w' (HL.out.1.below h) (by have := HN.out; omega)
    have HC2 : Hid (∀ w', Below w.heap.size w w' → Calls Try.prog 8 #[.slice a L.length c] w' fun e w'' => e = .returned (.tuple #[.int .i64 (rkV L), .int .i64 (rkE L)]) ∧ Below w'.heap.size w' w'') := fun w' h => r21check a c L w' (HL.out.1.below h) (by have := HN.out; omega)
    have HS1 : Hid (∀ w', Below w.heap.size w w' → Calls Try.prog 9 #[.slice a L.length c, .agg #[.int .i64 r.1, .int .i64 r.2.1, .int .i64 r.2.2.1, .int .i64 r.2.2.2.1, .int .i64 r.2.2.2.2.1, .int .i64 r.2.2.2.2.2]] w' fun e w'' => ∃ v, e = .returned (.tuple #[v, .int .i64 (stE L r)]) ∧ OwnR w'' w'.heap.size v (stL L r) ∧ Below w'.heap.size w' w'') := fun w' h => set_r a c L r w' (HL.out.1.below h) (by have := HN.out; omega) HL.out.2.1 HL.out.2.2 hk
    have HS2 : Hid (∀ w', Below w.heap.size w w' → Calls Try.prog 10 #[.slice a L.length c, .agg #[.int .i64 r.1, .int .i64 r.2.1, .int .i64 r.2.2.1, .int .i64 r.2.2.2.1, .int .i64 r.2.2.2.2.1, .int .i64 r.2.2.2.2.2]] w' fun e w'' => ∃ v, e = .returned (.tuple #[v, .int .i64 (stE L r)]) ∧ OwnR w'' w'.heap.size v (stL L r) ∧ Below w'.heap.size w' w'') := fun w' h => r21set a c L r w' (HL.out.1.below h) (by have := HN.out; omega) HL.out.2.1 HL.out.2.2 hk
    have HSM : Hid (∀ w' (b b' : Option Addr) (d d' : Nat), RdR w' b (stL L r) → RdR w' b' (stL L r) → Calls Try.prog 11 #[.slice b (stL L r).length d, .slice b' (stL L r).length d'] w' fun e w'' => e = .returned (.bool true) ∧ Below w'.heap.size w' w'') := fun w' b b' d d' h h' => by
      have := r21same b b' d d' (stL L r) (stL L r) w' h h' HMI.out.2
      rwa [decide_eq_true rfl] at this
    generalize stL L r = M at *
    generalize stE L r = E at *
    generalize rkV L = kv at *
    generalize rkE L = ke at *
    clear g1 hok
    obtain ⟨c0, c1, c2, c3, c4, c5⟩ := HO.out.cells
    go_enter Try.func3, Try.ntmps3
    go_wp2_with fail
    refine (HC1.out _ HB.out).mono ?_; rintro e w1 ⟨rfl, hb1⟩
    have HB1 := Lib.hid (HB.out.trans (hb1.mono HB.out.size))
    have HO1 := Lib.hid (HO.out.below hb1)
    clear hb1 c0 c1 c2 c3 c4 c5
    go_wp2_with fail
    refine (HC2.out _ HB1.out).mono ?_; rintro e w2 ⟨rfl, hb2⟩
    have HB2 := Lib.hid (HB1.out.trans (hb2.mono HB1.out.size))
    have HO2 := Lib.hid (HO1.out.below hb2)
    obtain ⟨c0, c1, c2, c3, c4, c5⟩ := HO2.out.cells
    clear hb2
    go_wp2_with fail
    refine (HS1.out _ HB2.out).mono ?_; rintro e w3 ⟨v3, rfl, ho3, hb3⟩
    have HB3 := Lib.hid (HB2.out.trans (hb3.mono HB2.out.size))
    have HO3 := Lib.hid (HO2.out.below hb3)
    obtain ⟨ma, mc, rfl, -, -, hM⟩ := ho3.reads HMI.out.1
    have HM3 := Lib.hid hM
    clear hb3 ho3 hM c0 c1 c2 c3 c4 c5
    obtain ⟨c0, c1, c2, c3, c4, c5⟩ := HO3.out.cells
    go_wp2_with fail
    refine (HS2.out _ HB3.out).mono ?_; rintro e w4 ⟨v4, rfl, ho4, hb4⟩
    have HB4 := Lib.hid (HB3.out.trans (hb4.mono HB3.out.size))
    have HM4 := Lib.hid (HM3.out.below hb4)
    obtain ⟨na, nc, rfl, -, -, hN⟩ := ho4.reads HMI.out.1
    have HN4 := Lib.hid hN
    clear hb4 ho4 hN c0 c1 c2 c3 c4 c5
    go_wp2_with fail
    refine (HSM.out _ ma na mc nc HM4.out HN4.out).mono ?_; rintro e w5 ⟨rfl, hb5⟩
    have HB5 := Lib.hid (HB4.out.trans (hb5.mono HB4.out.size))
    clear hb5
    go_wp2_with fail
    refine (awake21 _).mono ?_; rintro e w99 ⟨rfl, hb99⟩
    go_wp2_with fail
    go_ret
    exact ⟨rfl, HB5.out.trans (hb99.mono HB5.out.size)⟩
end Go.Proofs.Ytogckefmmjbapaa
