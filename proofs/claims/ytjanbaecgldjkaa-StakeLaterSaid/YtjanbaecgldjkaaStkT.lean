/-
  StakeHolds and StakeTells of layer 18 return true, whatever stakes and numbers they are given. No conditions.
-/
import Derived.Test.YtjanbaecgldjkaaStkW
import Derived.Test.YtjanbaecgldjkaaStkE
import Derived.Test.YtjanbaecgldjkaaRowQ
import Derived.Deep.QuietTactic
import Derived.BigQuiet
import Derived.WalkSmall
import Derived.Deep.DeepCutAuto
import Derived.Deep.RegionHeld3
namespace Go.Proofs.Ytjanbaecgldjkaa
open Go.RowKit
set_option linter.unusedSimpArgs false
set_option linter.unusedVariables false

theorem rdq_in {w : World} {a : Option Addr} {c : Nat} {L : List K4} (h : Go.RowsIn.QuadS w a c L) : RdQ w a L ∧ L.length ≤ c ∧ (a = none → c = 0) := by
  refine ⟨⟨fun s hs => ?_, fun i hi => ?_⟩, h.1, h.2.1⟩
  · obtain ⟨j, hj, rfl⟩ := List.getElem_of_mem hs
    obtain ⟨b, off, _, _, _, _, _, r1, r2, r3, r4⟩ := h.2.2 j hj
    rw [show L.getD j (0, 0, 0, 0) = L[j] from get4 hj] at r1 r2 r3 r4
    exact ⟨r1, r2, r3, r4⟩
  · obtain ⟨b, off, k1, k2, k3, k4, k5, _⟩ := h.2.2 i hi
    exact ⟨b, off, k1, k2, k3, k4, k5⟩
theorem frm_in {L : List K4} (hL : ∀ s ∈ L, ok4 s) (x : Int) : ∀ z ∈ frm L x, InR z := rise_in fun z hz => by
  obtain ⟨s, hs, rfl⟩ := List.mem_map.1 hz
  exact (hL s (mem_ofE.1 hs).1).2.2.2
theorem frm_len (L : List K4) (x : Int) : (frm L x).length ≤ L.length := Nat.le_trans (rise_len _) (by rw [List.length_map]; exact List.length_filter_le _ _)
set_option maxHeartbeats 4000000 in
set_option maxRecDepth 100000 in
theorem holds18 (a : Option Addr) (c : Nat) (L : List K4) (x p : Int) (w : World) (hr : Go.RowsIn.QuadS w a c L) :
    Calls Try.prog 4 #[.slice a L.length c, .int .i64 x, .int .i64 p] w fun e w' => e = .returned (.bool true) ∧ Below w.heap.size w w' := by
  have HL := Lib.hid (rdq_in hr)
  clear hr
  by_cases h1 : 100 < L.length
  · have d1 : decide ((100 : Int) < (L.length : Int)) = true := decide_eq_true (by omega)
    have d2 : decide (100 < L.length) = true := decide_eq_true h1
    go_enter Try.func4, Try.ntmps4
    go_wp2_with fail
    refine (awake18 _).mono ?_; rintro e w2 ⟨rfl, hb2⟩
    go_wp2_with fail
    go_ret
    exact ⟨rfl, hb2⟩
  · have d1 : decide ((100 : Int) < (L.length : Int)) = false := decide_eq_false (by omega)
    have d2 : decide (100 < L.length) = false := decide_eq_false h1
    have hn : L.length ≤ 1000000 := by omega
    have HFI : Hid (∀ z ∈ frm L x, InR z) := frm_in HL.out.1.1 x
    have HFL : Hid ((frm L x).length ≤ 1000000) := by have := frm_len L x; show _ ≤ _; omega
    have hat := at_s a c L x p w HL.out.1 hn
    have HRT : Hid (∀ wr, Below w.heap.size w wr → Calls Try.prog 15 #[.slice a L.length c, .int .i64 x, .int .i64 p] wr fun e w' => e = .returned (.tuple #[.int .i64 (upv L x p), .int .i64 (shv L x p)]) ∧ Below wr.heap.size wr w') := fun wr h => r18at a c L x p wr (HL.out.1.below h) hn
    have HFA : Hid (∀ wr, Below w.heap.size w wr → Calls Try.prog 17 #[.slice a L.length c, .int .i64 x] wr fun e w' => ∃ v, e = .returned v ∧ Sl w' v (frm L x) ∧ Below wr.heap.size wr w') := fun wr h => froms_s a c L x wr (HL.out.1.below h) hn
    have HFB : Hid (∀ wr, Below w.heap.size w wr → Calls Try.prog 18 #[.slice a L.length c, .int .i64 x] wr fun e w' => ∃ v, e = .returned v ∧ Sl w' v (frm L x) ∧ Below wr.heap.size wr w') := fun wr h => r18froms a c L x wr (HL.out.1.below h) hn
    generalize upv L x p = u at *
    generalize shv L x p = s at *
    generalize frm L x = F at *
    go_enter Try.func4, Try.ntmps4
    go_wp2_with fail
    refine hat.mono ?_; clear hat; rintro e w2 ⟨rfl, hb2⟩
    have HB2 := Lib.hid hb2
    clear hb2 d1 d2
    go_wp2_with fail
    refine (HRT.out _ HB2.out).mono ?_; rintro e w3 ⟨rfl, hb3⟩
    have HB3 : Hid (Below w.heap.size w w3) := HB2.out.trans (hb3.mono HB2.out.size)
    clear hb3
    go_wp2_with fail
    refine (HFA.out _ HB3.out).mono ?_; rintro e w4 ⟨v4, rfl, hs4, hb4⟩
    have HB4 : Hid (Below w.heap.size w w4) := HB3.out.trans (hb4.mono HB3.out.size)
    obtain ⟨a4, c4, rfl, -, -, hr4⟩ := hs4
    have HR4 := Lib.hid hr4
    clear hb4 hr4
    go_wp2_with fail
    refine (HFB.out _ HB4.out).mono ?_; rintro e w5 ⟨v5, rfl, hs5, hb5⟩
    have HB5 : Hid (Below w.heap.size w w5) := HB4.out.trans (hb5.mono HB4.out.size)
    have HR45 := Lib.hid (HR4.out.below hb5)
    obtain ⟨a5, c5, rfl, -, -, hr5⟩ := hs5
    have HR5 := Lib.hid hr5
    clear hb5 hr5
    go_wp2_with fail
    refine (same18 a4 a5 c4 c5 _ _ F F _ HR45.out HR5.out rfl rfl rfl HFL.out).mono ?_; rintro e w6 ⟨rfl, hb6⟩
    have HB6 : Hid (Below w.heap.size w w6) := HB5.out.trans (hb6.mono HB5.out.size)
    clear hb6
    go_wp2_with fail
    refine (awake18 _).mono ?_; rintro e w7 ⟨rfl, hb7⟩
    have HB7 : Hid (Below w.heap.size w w7) := HB6.out.trans (hb7.mono HB6.out.size)
    clear hb7
    go_wp2_with fail
    go_ret
    exact ⟨rfl, HB7.out⟩
set_option maxHeartbeats 8000000 in
set_option maxRecDepth 100000 in
theorem tells18 (a : Option Addr) (c : Nat) (L : List K4) (s : K4) (n : Int) (w : World) (hr : Go.RowsIn.QuadS w a c L) (hs : ok4 s) :
    Calls Try.prog 3 #[.slice a L.length c, .agg #[.int .i64 s.1, .int .i64 s.2.1, .int .i64 s.2.2.1, .int .i64 s.2.2.2], .int .i64 n] w fun e w' => e = .returned (.bool true) ∧ Below w.heap.size w w' := by
  have HL := Lib.hid (rdq_in hr)
  have HS := Lib.hid hs
  have HBX := Lib.hid (below1 w (.cells #[.int .i64 s.1, .int .i64 s.2.1, .int .i64 s.2.2.1, .int .i64 s.2.2.2] 24))
  obtain ⟨g0, g1, g2, g3⟩ := new4 (w := w) (s := s) (Below.refl _ _)
  have hlx : w.heap.size < (w.alloc (.cells #[.int .i64 s.1, .int .i64 s.2.1, .int .i64 s.2.2.1, .int .i64 s.2.2.2] 24)).heap.size := by simp
  clear hr hs
  by_cases h30 : 30 < L.length
  · have d1a : decide (30 < L.length) = true := decide_eq_true (by omega)
    have d1b : decide ((30 : Int) < (L.length : Int)) = true := decide_eq_true (by omega)
    by_cases h400 : L.length < 400
    · have d2a : decide (L.length < 400) = true := decide_eq_true (by omega)
      have d2b : decide ((L.length : Int) < (400 : Int)) = true := decide_eq_true (by omega)
      clear HL HS g0 g1 g2 g3
      go_enter Try.func3, Try.ntmps3
      go_wp2_with fail
      refine (awake18 _).mono ?_; rintro e w2 ⟨rfl, hb2⟩
      go_wp2_with fail
      go_ret
      exact ⟨rfl, HBX.out.trans (hb2.mono HBX.out.size)⟩
    · have d2a : decide (L.length < 400) = false := decide_eq_false (by omega)
      have d2b : decide ((L.length : Int) < (400 : Int)) = false := decide_eq_false (by omega)
      by_cases h420 : 420 < L.length
      · have d3a : decide (420 < L.length) = true := decide_eq_true (by omega)
        have d3b : decide ((420 : Int) < (L.length : Int)) = true := decide_eq_true (by omega)
        clear HL HS g0 g1 g2 g3
        go_enter Try.func3, Try.ntmps3
        go_wp2_with fail
        refine (awake18 _).mono ?_; rintro e w2 ⟨rfl, hb2⟩
        go_wp2_with fail
        go_ret
        exact ⟨rfl, HBX.out.trans (hb2.mono HBX.out.size)⟩
      · have d3a : decide (420 < L.length) = false := decide_eq_false (by omega)
        have d3b : decide ((420 : Int) < (L.length : Int)) = false := decide_eq_false (by omega)
        by_cases h60 : 60 < n
        · have d4 : decide (60 < n) = true := decide_eq_true h60
          clear HL HS g0 g1 g2 g3
          go_enter Try.func3, Try.ntmps3
          go_wp2_with fail
          refine (awake18 _).mono ?_; rintro e w2 ⟨rfl, hb2⟩
          go_wp2_with fail
          go_ret
          exact ⟨rfl, HBX.out.trans (hb2.mono HBX.out.size)⟩
        · have d4 : decide (60 < n) = false := decide_eq_false h60
          have hn : L.length ≤ 1000000 := by omega
          have HA : Hid (∀ wr, Below w.heap.size w wr → Calls Try.prog 9 #[.slice a L.length c, .agg #[.int .i64 s.1, .int .i64 s.2.1, .int .i64 s.2.2.1, .int .i64 s.2.2.2], .int .i64 n] wr fun e w' => ∃ v, e = .returned (.tuple #[v, .int .i64 (adE L s n)]) ∧ OwnS w' wr.heap.size v (adL L s n) ∧ Below wr.heap.size wr w') := fun wr h => add_s a c L s n wr (HL.out.1.below h) hn HL.out.2.1 HL.out.2.2 HS.out
          have HB : Hid (∀ wr, Below w.heap.size w wr → Calls Try.prog 10 #[.slice a L.length c, .agg #[.int .i64 s.1, .int .i64 s.2.1, .int .i64 s.2.2.1, .int .i64 s.2.2.2], .int .i64 n] wr fun e w' => ∃ v, e = .returned (.tuple #[v, .int .i64 (adE L s n)]) ∧ OwnS w' wr.heap.size v (adL L s n) ∧ Below wr.heap.size wr w') := fun wr h => r18add a c L s n wr (HL.out.1.below h) hn HL.out.2.1 HL.out.2.2 HS.out
          have HC : Hid (∀ wr, Below w.heap.size w wr → Calls Try.prog 12 #[.slice a L.length c, .int .i64 n] wr fun e w' => e = .returned (.tuple #[.int .i64 (chV L n), .int .i64 (chE L n)]) ∧ Below wr.heap.size wr w') := fun wr h => check_s a c L n wr (HL.out.1.below h) hn
          have HD : Hid (∀ wr, Below w.heap.size w wr → Calls Try.prog 13 #[.slice a L.length c, .int .i64 n] wr fun e w' => e = .returned (.tuple #[.int .i64 (chV L n), .int .i64 (chE L n)]) ∧ Below wr.heap.size wr w') := fun wr h => r18check a c L n wr (HL.out.1.below h) hn HL.out.2.1
          have HAO : Hid ((∀ t ∈ adL L s n, ok4 t) ∧ (adL L s n).length ≤ 1000000) := by
            unfold adL
            split
            · exact ⟨fun t ht => (by cases ht), by simp⟩
            · split
              · exact ⟨ok4_snoc HL.out.1.1 HS.out, by simp; omega⟩
              · exact ⟨fun t ht => (by cases ht), by simp⟩
          generalize adL L s n = M at *
          generalize adE L s n = ae at *
          generalize chV L n = cv at *
          generalize chE L n = ce at *
          have HG : Hid (∀ wr, Below (w.alloc (.cells #[.int .i64 s.1, .int .i64 s.2.1, .int .i64 s.2.2.1, .int .i64 s.2.2.2] 24)).heap.size (w.alloc (.cells #[.int .i64 s.1, .int .i64 s.2.1, .int .i64 s.2.2.1, .int .i64 s.2.2.2] 24)) wr → wr.cell? ⟨w.heap.size, 0, none⟩ = some (.int .i64 s.1) ∧ wr.cell? ⟨w.heap.size, 1, none⟩ = some (.int .i64 s.2.1) ∧ wr.cell? ⟨w.heap.size, 2, none⟩ = some (.int .i64 s.2.2.1) ∧ wr.cell? ⟨w.heap.size, 3, none⟩ = some (.int .i64 s.2.2.2)) := fun wr h => ⟨(h.cell (p := ⟨w.heap.size, 0, none⟩) hlx).trans g0, (h.cell (p := ⟨w.heap.size, 1, none⟩) hlx).trans g1, (h.cell (p := ⟨w.heap.size, 2, none⟩) hlx).trans g2, (h.cell (p := ⟨w.heap.size, 3, none⟩) hlx).trans g3⟩
          go_enter Try.func3, Try.ntmps3
          go_wp2_with fail
          generalize hW : w.alloc (.cells #[.int .i64 s.1, .int .i64 s.2.1, .int .i64 s.2.2.1, .int .i64 s.2.2.2] 24) = W at *
          clear hW
          refine (HA.out _ HBX.out).mono ?_; rintro e w2 ⟨v2, rfl, ho2, hb2⟩
          have HB2 : Hid (Below W.heap.size W w2) := hb2
          obtain ⟨a2, c2, rfl, -, -, hr2⟩ := ho2.reads HAO.out.1
          have HR2 := Lib.hid hr2
          clear hb2 ho2 hr2 g0 g1 g2 g3
          obtain ⟨g0, g1, g2, g3⟩ := HG.out _ HB2.out
          go_wp2_with fail
          refine (HB.out _ (HBX.out.trans (HB2.out.mono HBX.out.size))).mono ?_; rintro e w3 ⟨v3, rfl, ho3, hb3⟩
          have HB3 : Hid (Below W.heap.size W w3) := HB2.out.trans (hb3.mono HB2.out.size)
          have HR23 := Lib.hid (HR2.out.below hb3)
          obtain ⟨a3, c3, rfl, -, -, hr3⟩ := ho3.reads HAO.out.1
          have hsm := r18same a2 a3 c2 c3 M M w3 HR23.out hr3 HAO.out.2
          rw [decide_eq_true (rfl : M = M)] at hsm
          clear hb3 ho3 hr3 g0 g1 g2 g3
          go_wp2_with fail
          refine hsm.mono ?_; clear hsm; rintro e w4 ⟨rfl, hb4⟩
          have HB4 : Hid (Below W.heap.size W w4) := HB3.out.trans (hb4.mono HB3.out.size)
          clear hb4
          by_cases h4 : L.length = 400
          · have t1 : ((L.length : Int) == 400) = true := by simp; omega
            go_wp2_with fail
            refine (awake18 _).mono ?_; rintro e w5 ⟨rfl, hb5⟩
            have HB5 : Hid (Below W.heap.size W w5) := HB4.out.trans (hb5.mono HB4.out.size)
            clear hb5
            go_wp2_with fail
            go_ret
            exact ⟨rfl, HBX.out.trans (HB5.out.mono HBX.out.size)⟩
          · have t1 : ((L.length : Int) == 400) = false := by simp; omega
            clear h4
            go_wp2_with fail
            refine (HC.out _ (HBX.out.trans (HB4.out.mono HBX.out.size))).mono ?_; rintro e w5 ⟨rfl, hb5⟩
            have HB5 : Hid (Below W.heap.size W w5) := HB4.out.trans (hb5.mono HB4.out.size)
            clear hb5
            go_wp2_with fail
            refine (HD.out _ (HBX.out.trans (HB5.out.mono HBX.out.size))).mono ?_; rintro e w6 ⟨rfl, hb6⟩
            have HB6 : Hid (Below W.heap.size W w6) := HB5.out.trans (hb6.mono HB5.out.size)
            clear hb6
            go_wp2_with fail
            refine (awake18 _).mono ?_; rintro e w7 ⟨rfl, hb7⟩
            have HB7 : Hid (Below W.heap.size W w7) := HB6.out.trans (hb7.mono HB6.out.size)
            clear hb7
            go_wp2_with fail
            go_ret
            exact ⟨rfl, HBX.out.trans (HB7.out.mono HBX.out.size)⟩
  · have d1a : decide (30 < L.length) = false := decide_eq_false (by omega)
    have d1b : decide ((30 : Int) < (L.length : Int)) = false := decide_eq_false (by omega)
    have d3a : decide (420 < L.length) = false := decide_eq_false (by omega)
    have d3b : decide ((420 : Int) < (L.length : Int)) = false := decide_eq_false (by omega)
    by_cases h60 : 60 < n
    · have d4 : decide (60 < n) = true := decide_eq_true h60
      clear HL HS g0 g1 g2 g3
      go_enter Try.func3, Try.ntmps3
      go_wp2_with fail
      refine (awake18 _).mono ?_; rintro e w2 ⟨rfl, hb2⟩
      go_wp2_with fail
      go_ret
      exact ⟨rfl, HBX.out.trans (hb2.mono HBX.out.size)⟩
    · have d4 : decide (60 < n) = false := decide_eq_false h60
      have hn : L.length ≤ 1000000 := by omega
      have HA : Hid (∀ wr, Below w.heap.size w wr → Calls Try.prog 9 #[.slice a L.length c, .agg #[.int .i64 s.1, .int .i64 s.2.1, .int .i64 s.2.2.1, .int .i64 s.2.2.2], .int .i64 n] wr fun e w' => ∃ v, e = .returned (.tuple #[v, .int .i64 (adE L s n)]) ∧ OwnS w' wr.heap.size v (adL L s n) ∧ Below wr.heap.size wr w') := fun wr h => add_s a c L s n wr (HL.out.1.below h) hn HL.out.2.1 HL.out.2.2 HS.out
      have HB : Hid (∀ wr, Below w.heap.size w wr → Calls Try.prog 10 #[.slice a L.length c, .agg #[.int .i64 s.1, .int .i64 s.2.1, .int .i64 s.2.2.1, .int .i64 s.2.2.2], .int .i64 n] wr fun e w' => ∃ v, e = .returned (.tuple #[v, .int .i64 (adE L s n)]) ∧ OwnS w' wr.heap.size v (adL L s n) ∧ Below wr.heap.size wr w') := fun wr h => r18add a c L s n wr (HL.out.1.below h) hn HL.out.2.1 HL.out.2.2 HS.out
      have HC : Hid (∀ wr, Below w.heap.size w wr → Calls Try.prog 12 #[.slice a L.length c, .int .i64 n] wr fun e w' => e = .returned (.tuple #[.int .i64 (chV L n), .int .i64 (chE L n)]) ∧ Below wr.heap.size wr w') := fun wr h => check_s a c L n wr (HL.out.1.below h) hn
      have HD : Hid (∀ wr, Below w.heap.size w wr → Calls Try.prog 13 #[.slice a L.length c, .int .i64 n] wr fun e w' => e = .returned (.tuple #[.int .i64 (chV L n), .int .i64 (chE L n)]) ∧ Below wr.heap.size wr w') := fun wr h => r18check a c L n wr (HL.out.1.below h) hn HL.out.2.1
      have HAO : Hid ((∀ t ∈ adL L s n, ok4 t) ∧ (adL L s n).length ≤ 1000000) := by
        unfold adL
        split
        · exact ⟨fun t ht => (by cases ht), by simp⟩
        · split
          · exact ⟨ok4_snoc HL.out.1.1 HS.out, by simp; omega⟩
          · exact ⟨fun t ht => (by cases ht), by simp⟩
      generalize adL L s n = M at *
      generalize adE L s n = ae at *
      generalize chV L n = cv at *
      generalize chE L n = ce at *
      have HG : Hid (∀ wr, Below (w.alloc (.cells #[.int .i64 s.1, .int .i64 s.2.1, .int .i64 s.2.2.1, .int .i64 s.2.2.2] 24)).heap.size (w.alloc (.cells #[.int .i64 s.1, .int .i64 s.2.1, .int .i64 s.2.2.1, .int .i64 s.2.2.2] 24)) wr → wr.cell? ⟨w.heap.size, 0, none⟩ = some (.int .i64 s.1) ∧ wr.cell? ⟨w.heap.size, 1, none⟩ = some (.int .i64 s.2.1) ∧ wr.cell? ⟨w.heap.size, 2, none⟩ = some (.int .i64 s.2.2.1) ∧ wr.cell? ⟨w.heap.size, 3, none⟩ = some (.int .i64 s.2.2.2)) := fun wr h => ⟨(h.cell (p := ⟨w.heap.size, 0, none⟩) hlx).trans g0, (h.cell (p := ⟨w.heap.size, 1, none⟩) hlx).trans g1, (h.cell (p := ⟨w.heap.size, 2, none⟩) hlx).trans g2, (h.cell (p := ⟨w.heap.size, 3, none⟩) hlx).trans g3⟩
      go_enter Try.func3, Try.ntmps3
      go_wp2_with fail
      generalize hW : w.alloc (.cells #[.int .i64 s.1, .int .i64 s.2.1, .int .i64 s.2.2.1, .int .i64 s.2.2.2] 24) = W at *
      clear hW
      refine (HA.out _ HBX.out).mono ?_; rintro e w2 ⟨v2, rfl, ho2, hb2⟩
      have HB2 : Hid (Below W.heap.size W w2) := hb2
      obtain ⟨a2, c2, rfl, -, -, hr2⟩ := ho2.reads HAO.out.1
      have HR2 := Lib.hid hr2
      clear hb2 ho2 hr2 g0 g1 g2 g3
      obtain ⟨g0, g1, g2, g3⟩ := HG.out _ HB2.out
      go_wp2_with fail
      refine (HB.out _ (HBX.out.trans (HB2.out.mono HBX.out.size))).mono ?_; rintro e w3 ⟨v3, rfl, ho3, hb3⟩
      have HB3 : Hid (Below W.heap.size W w3) := HB2.out.trans (hb3.mono HB2.out.size)
      have HR23 := Lib.hid (HR2.out.below hb3)
      obtain ⟨a3, c3, rfl, -, -, hr3⟩ := ho3.reads HAO.out.1
      have hsm := r18same a2 a3 c2 c3 M M w3 HR23.out hr3 HAO.out.2
      rw [decide_eq_true (rfl : M = M)] at hsm
      clear hb3 ho3 hr3 g0 g1 g2 g3
      go_wp2_with fail
      refine hsm.mono ?_; clear hsm; rintro e w4 ⟨rfl, hb4⟩
      have HB4 : Hid (Below W.heap.size W w4) := HB3.out.trans (hb4.mono HB3.out.size)
      clear hb4
      by_cases h4 : L.length = 400
      · have t1 : ((L.length : Int) == 400) = true := by simp; omega
        go_wp2_with fail
        refine (awake18 _).mono ?_; rintro e w5 ⟨rfl, hb5⟩
        have HB5 : Hid (Below W.heap.size W w5) := HB4.out.trans (hb5.mono HB4.out.size)
        clear hb5
        go_wp2_with fail
        go_ret
        exact ⟨rfl, HBX.out.trans (HB5.out.mono HBX.out.size)⟩
      · have t1 : ((L.length : Int) == 400) = false := by simp; omega
        clear h4
        go_wp2_with fail
        refine (HC.out _ (HBX.out.trans (HB4.out.mono HBX.out.size))).mono ?_; rintro e w5 ⟨rfl, hb5⟩
        have HB5 : Hid (Below W.heap.size W w5) := HB4.out.trans (hb5.mono HB4.out.size)
        clear hb5
        go_wp2_with fail
        refine (HD.out _ (HBX.out.trans (HB5.out.mono HBX.out.size))).mono ?_; rintro e w6 ⟨rfl, hb6⟩
        have HB6 : Hid (Below W.heap.size W w6) := HB5.out.trans (hb6.mono HB5.out.size)
        clear hb6
        go_wp2_with fail
        refine (awake18 _).mono ?_; rintro e w7 ⟨rfl, hb7⟩
        have HB7 : Hid (Below W.heap.size W w7) := HB6.out.trans (hb7.mono HB6.out.size)
        clear hb7
        go_wp2_with fail
        go_ret
        exact ⟨rfl, HBX.out.trans (HB7.out.mono HBX.out.size)⟩
end Go.Proofs.Ytjanbaecgldjkaa
