/-
  StakeSpans of layer 18 returns true, whatever stakes and number it is given. No conditions.
-/
import Derived.Test.YtjanbaecgldjkaaStkT
import Derived.Deep.QuietTactic
import Derived.BigQuiet
import Derived.WalkSmall
import Derived.Deep.DeepCutAuto
import Derived.Deep.RegionHeld3
namespace Go.Proofs.Ytjanbaecgldjkaa
open Go.RowKit
set_option linter.unusedSimpArgs false
set_option linter.unusedVariables false

abbrev K4p (t : K4) : Int := t.2.2.1
abbrev K4s (t : K4) : Int := t.2.2.2
set_option maxHeartbeats 8000000 in
set_option maxRecDepth 100000 in
theorem spans_law (a : Option Addr) (c : Nat) (L : List K4) (x : Int) (w : World) (hr : Go.RowsIn.QuadS w a c L) :
    Calls Try.prog 7 #[.slice a L.length c, .int .i64 x] w fun e w' => e = .returned (.bool true) ∧ Below w.heap.size w w' := by
  have HL := Lib.hid (rdq_in hr)
  clear hr
  by_cases h1 : 60 < L.length
  · have d1 : decide ((60 : Int) < (L.length : Int)) = true := decide_eq_true (by omega)
    have d2 : decide (60 < L.length) = true := decide_eq_true h1
    go_enter Try.func7, Try.ntmps7
    go_wp2_with fail
    refine (awake18 _).mono ?_; rintro e w2 ⟨rfl, hb2⟩
    go_wp2_with fail
    go_ret
    exact ⟨rfl, hb2⟩
  · have d1 : decide ((60 : Int) < (L.length : Int)) = false := decide_eq_false (by omega)
    have d2 : decide (60 < L.length) = false := decide_eq_false h1
    have hn : L.length ≤ 1000000 := by omega
    have hsp := spans_s a c L x w HL.out.1 hn
    have HRS : Hid (∀ wr, Below w.heap.size w wr → Calls Try.prog 20 #[.slice a L.length c, .int .i64 x] wr fun e w' => ∃ v, e = .returned v ∧ w'.ownsRow wr.heap.size 50 4 v (spn L x 24).length (row4 (spn L x 24)) ∧ Below wr.heap.size wr w') := fun wr h => r18spans a c L x wr (HL.out.1.below h) hn
    have HCV : Hid (Cov (spn L x 24) 24) := spn_cov L x 24
    have HOK : Hid (∀ q ∈ spn L x 24, ok4 q) := spn_in HL.out.1.1 x 24 (Nat.le_refl _)
    generalize spn L x 24 = R at *
    have hRl : R.length ≤ 24 := HCV.out.le
    go_enter Try.func7, Try.ntmps7
    go_wp2_with fail
    refine hsp.mono ?_; clear hsp; rintro e w2 ⟨v2, rfl, ho2, hb2⟩
    have HB2 := Lib.hid hb2
    have hs2 := ownsRow_slc ho2
    obtain ⟨a2, c2, rfl⟩ := hs2.form
    have HR2 := Lib.hid (rdq_of hs2 HOK.out)
    clear ho2 hb2 hs2 d1 d2
    go_wp2_with fail
    refine (HRS.out _ HB2.out).mono ?_; rintro e w3 ⟨v3, rfl, ho3, hb3⟩
    have HB3 : Hid (Below w.heap.size w w3) := HB2.out.trans (hb3.mono HB2.out.size)
    have HR23 := Lib.hid (HR2.out.below hb3)
    have hs3 := ownsRow_slc ho3
    obtain ⟨a3, c3, rfl⟩ := hs3.form
    have HR3 := Lib.hid (rdq_of hs3 HOK.out)
    have hes := eq_span
    clear ho3 hb3 hs3
    go_wp2_with fail
    go_loopw [7, 8] (fun u i wr => ∃ k : Nat, k ≤ R.length ∧ i = .int .i64 (k : Int) ∧ u = .int .i64 (nxv R k) ∧ Below w3.heap.size w3 wr) (fun _ i _ => R.length - (RowKit.intOf i).toNat)
    case atStart => exact ⟨0, Nat.zero_le _, rfl, rfl, Below.refl _ _⟩
    case round =>
      obtain ⟨k, hk, rfl, rfl, hb⟩ := hrel
      by_cases hlt : k < R.length
      · obtain ⟨b, off, rfl, c0, c1, c2', c3'⟩ := (HR23.out.below hb).2 k hlt
        obtain ⟨b', off', rfl, e0, e1', e2, e3⟩ := (HR3.out.below hb).2 k hlt
        have i0 : (0 : Int) ≤ (k : Int) := by omega
        have i1 : (k : Int) < (R.length : Int) := by omega
        have e1 : wrap64 ((k : Int) + 1) = (k : Int) + 1 := by unfold wrap64; omega
        obtain ⟨q1, q2, q3, q4⟩ := HCV.out.at' k hlt
        have HNX : Hid (nxv R (k + 1) = (R.getD k z4).2.1 + 1) := rfl
        have HBR := Lib.hid hb
        have HLT := Lib.hid hlt
        rw [← q1]
        have hw : wrap64 ((R.getD k z4).2.1 + 1) = (R.getD k z4).2.1 + 1 := by unfold wrap64; omega
        have t3 : decide ((R.getD k z4).2.1 < (R.getD k z4).1) = false := decide_eq_false (by omega)
        have hne : ∀ j, k = j + 1 → ∃ t, (∃ d doff, some (⟨b, off, none⟩ : Addr) = some ⟨d, doff, none⟩ ∧ wr.cell? ⟨d, doff + j * 4 + 2, none⟩ = some (.int .i64 (K4p t)) ∧ wr.cell? ⟨d, doff + j * 4 + 3, none⟩ = some (.int .i64 (K4s t))) ∧ ¬ ((R.getD k z4).2.2.1 = K4p t ∧ (R.getD k z4).2.2.2 = K4s t) := by
          intro j hj
          subst hj
          obtain ⟨d, doff, h1, _, _, h3, h4⟩ := (HR23.out.below hb).2 j (by omega)
          exact ⟨R.getD j z4, ⟨d, doff, h1, h3, h4⟩, HCV.out.ne j (by omega)⟩
        clear hb q1 q2 q3 q4
        generalize R.getD k z4 = s at *
        have hT : (!(s.1 == s.1 && (s.2.1 == s.2.1 && (s.2.2.1 == s.2.2.1 && s.2.2.2 == s.2.2.2)))) = false := by simp
        rcases Nat.eq_zero_or_pos k with hk0 | hk0
        · have g1 : decide (0 < k) = false := decide_eq_false (by omega)
          have g2 : decide ((0 : Int) < (k : Int)) = false := decide_eq_false (by omega)
          clear hne hk0
          go_wp2_with fail
          go_quiet (fail)
          go_wp2_with fail
          go_quiet (fail)
          go_wp2_with fail
          go_roundw
          · exact ⟨k + 1, HLT.out, by go_num, by rw [hw, HNX.out], below_drewN HBR.out _⟩
          · have := HLT.out; simp [RowKit.intOf]; omega
        · obtain ⟨j, hj⟩ : ∃ j, k = j + 1 := ⟨k - 1, by omega⟩
          obtain ⟨t, ⟨d, doff, hd, y2, y3⟩, hne⟩ := hne j hj
          cases hd
          have g1 : decide (0 < k) = true := decide_eq_true hk0
          have g2 : decide ((0 : Int) < (k : Int)) = true := decide_eq_true (by omega)
          have w1 : wrap64 ((k : Int) - 1) = (j : Int) := by unfold wrap64; omega
          have w2' : IntKind.i64.wrap ((k : Int) - 1) = (j : Int) := by simp [IntKind.wrap, IntKind.signed, IntKind.bits]; omega
          have j0 : (0 : Int) ≤ (j : Int) := by omega
          have j1 : (j : Int) < (R.length : Int) := by omega
          have j2 : j < R.length := by omega
          generalize K4p t = tp at *
          generalize K4s t = ts at *
          clear hj
          by_cases m1 : s.2.2.1 = tp
          · have m2 : ¬ s.2.2.2 = ts := fun q => hne ⟨m1, q⟩
            have p1 : (s.2.2.1 == tp) = true := by simpa using m1
            have p2 : (s.2.2.2 == ts) = false := by simpa using m2
            clear hne m1 m2
            go_wp2_with fail
            go_quiet (fail)
            go_wp2_with fail
            go_quiet (fail)
            go_wp2_with fail
            go_roundw
            · exact ⟨k + 1, HLT.out, by go_num, by rw [hw, HNX.out], below_drewN HBR.out _⟩
            · have := HLT.out; simp [RowKit.intOf]; omega
          · have p1 : (s.2.2.1 == tp) = false := by simpa using m1
            clear hne m1
            go_wp2_with fail
            go_quiet (fail)
            go_wp2_with fail
            go_quiet (fail)
            go_wp2_with fail
            go_roundw
            · exact ⟨k + 1, HLT.out, by go_num, by rw [hw, HNX.out], below_drewN HBR.out _⟩
            · have := HLT.out; simp [RowKit.intOf]; omega
      · obtain rfl : k = R.length := by omega
        have hd0 : decide ((R.length : Int) < (R.length : Int)) = false := decide_eq_false (by omega)
        have hN := HCV.out.end'
        rw [hN]
        have HBR := Lib.hid hb
        clear hb hN
        go_wp2_with fail
        refine (awake18 _).mono ?_; rintro e w7 ⟨rfl, hb7⟩
        have HB7 : Hid (Below w.heap.size w w7) := (HB3.out.trans (HBR.out.mono HB3.out.size)).trans (hb7.mono (Nat.le_trans HB3.out.size HBR.out.size))
        clear hb7
        go_wp2_with fail
        go_ret
        exact ⟨rfl, HB7.out⟩
end Go.Proofs.Ytjanbaecgldjkaa
