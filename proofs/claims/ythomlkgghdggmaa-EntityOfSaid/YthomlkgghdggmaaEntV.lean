/-
  EntityOf of layer 17 returns true, whatever row and number it is given. No conditions.
-/
import Derived.Test.YthomlkgghdggmaaEntW
import Derived.Test.YthomlkgghdggmaaRefHs1
import Derived.Test.YthomlkgghdggmaaRowB
namespace Go.Proofs.Ythomlkgghdggmaa
open Go.RowKit
set_option linter.unusedSimpArgs false
set_option linter.unusedVariables false

theorem of_mem {L : List Int} {z : Int} {k : Nat} (hk : k < L.length) : (((k : Int) + 1) ∈ ofL L [z]) ↔ L.getD k 0 = z := by
  unfold ofL
  rw [mem_ofK]
  constructor
  · rintro ⟨j, hj, he, hm⟩
    obtain rfl : j = k := by omega
    simpa using hm
  · intro h
    exact ⟨k, hk, rfl, by simpa using h⟩
theorem of_bd {L : List Int} {M : List Int} {i : Nat} (h : i < (ofL L M).length) : 1 ≤ (ofL L M).getD i 0 ∧ (ofL L M).getD i 0 ≤ (L.length : Int) := by
  have hm : (ofL L M).getD i 0 ∈ ofL L M := by rw [getD_lt _ _ h]; exact List.getElem_mem h
  obtain ⟨j, hj, he, _⟩ := (mem_ofK L.length).1 hm
  omega
theorem of_up {L : List Int} {M : List Int} {i : Nat} (h : i + 1 < (ofL L M).length) : (ofL L M).getD i 0 < (ofL L M).getD (i + 1) 0 := by
  have hr : (ofL L M).Pairwise (· < ·) := ofK_rise (L := L) (M := M) L.length
  rw [getD_lt _ _ h, getD_lt _ _ (by omega)]
  exact List.pairwise_iff_getElem.1 hr i (i + 1) (by omega) h (by omega)

set_option maxHeartbeats 4000000 in
set_option maxRecDepth 100000 in
theorem of_law (a : Option Addr) (c : Nat) (L : List Int) (z : Int) (w : World) (hr : Go.RowsIn.IntS w a c L) (hz : InR z) :
    Calls Try.prog 5 #[.slice a L.length c, .int .i64 z] w fun e w' => e = .returned (.bool true) ∧ Below w.heap.size w w' := by
  have HL : Hid (Reads w a L) := reads_of hr
  clear hr
  by_cases h1 : 200 < L.length
  · have d1 : decide ((200 : Int) < (L.length : Int)) = true := decide_eq_true (by omega)
    have d2 : decide (200 < L.length) = true := decide_eq_true h1
    go_enter Try.func5, Try.ntmps5
    go_wp2_with fail
    refine (awake17 _).mono ?_; rintro e w2 ⟨rfl, hb2⟩
    go_wp2_with fail
    go_ret
    exact ⟨rfl, hb2⟩
  · have d1 : decide ((200 : Int) < (L.length : Int)) = false := decide_eq_false (by omega)
    have d2 : decide (200 < L.length) = false := decide_eq_false h1
    have hln : L.length ≤ 200 := by omega
    have hb1 := below1 w (.cells #[.int .i64 z] 3)
    have hof := of17 a c L.length (some ⟨w.heap.size, 0, none⟩) 1 1 L [z] (ofL L [z]) (w.alloc (.cells #[.int .i64 z] 3)) (HL.out.below hb1) (lit17 w [z] (by simpa using hz)) rfl rfl (by omega) (by omega) rfl
    have HB1 := Lib.hid hb1; clear hb1
    have HIN : Hid (∀ y ∈ ofL L [z], InR y) := ofK_in (by omega)
    have HMEM : Hid (∀ k, k < L.length → (((k : Int) + 1) ∈ ofL L [z] ↔ L.getD k 0 = z)) := fun k hk => of_mem hk
    have HBD : Hid (∀ i, i < (ofL L [z]).length → 1 ≤ (ofL L [z]).getD i 0 ∧ (ofL L [z]).getD i 0 ≤ (L.length : Int)) := fun i hi => of_bd hi
    have HUP : Hid (∀ i, i + 1 < (ofL L [z]).length → (ofL L [z]).getD i 0 < (ofL L [z]).getD (i + 1) 0) := fun i hi => of_up hi
    have hRl : (ofL L [z]).length ≤ L.length := ofK_len L [z] L.length
    obtain ⟨R, hR⟩ : ∃ R, R = ofL L [z] := ⟨_, rfl⟩
    rw [← hR] at hof HIN HMEM HBD HUP hRl
    clear hR
    go_enter Try.func5, Try.ntmps5
    go_wp2_with fail
    refine hof.mono ?_; rintro e w2 ⟨v2, rfl, ho2, hb2⟩
    have HB2 : Hid (Below w.heap.size w w2) := HB1.out.trans (hb2.mono HB1.out.size)
    obtain ⟨a2, c2, rfl, -, hR2⟩ := ho2.reads HIN.out
    have HR2 := Lib.hid hR2
    clear ho2 hb2 hR2 hof HB1 d1 d2
    go_wp2_with fail
    go_loopw [6] (fun i wr => ∃ k : Nat, k ≤ R.length ∧ i = .int .i64 (k : Int) ∧ Below w2.heap.size w2 wr) (fun i _ => R.length - (RowKit.intOf i).toNat)
    case atStart => exact ⟨0, Nat.zero_le _, rfl, Below.refl _ _⟩
    case round =>
      obtain ⟨k, hk, rfl, hb⟩ := hrel
      by_cases hlt : k < R.length
      · obtain ⟨b, off, rfl, hc⟩ := (HR2.out.below hb).2 k hlt
        have i0 : (0 : Int) ≤ (k : Int) := by omega
        have i1 : (k : Int) < (R.length : Int) := by omega
        have e1 : wrap64 ((k : Int) + 1) = (k : Int) + 1 := by unfold wrap64; omega
        by_cases hk0 : k = 0
        · subst hk0
          have HBR := Lib.hid hb; clear hb
          go_wp2_with fail
          go_quiet (fail)
          go_wp2_with fail
          go_roundw
          · exact ⟨1, by omega, by go_num, below_drewN HBR.out _⟩
          · simp [RowKit.intOf]; omega
        · obtain ⟨j, rfl⟩ : ∃ j, k = j + 1 := ⟨k - 1, by omega⟩
          have hc0 := (HR2.out.below hb).2 j (by omega)
          obtain ⟨b', off', hq, hc0⟩ := hc0
          cases hq
          have hup := HUP.out j hlt
          have HBR := Lib.hid hb; clear hb
          generalize R.getD j 0 = y0 at *
          generalize R.getD (j + 1) 0 = y1 at *
          have d3 : decide (y1 ≤ y0) = false := decide_eq_false (by omega)
          have d4 : decide ((0 : Int) < ((j + 1 : Nat) : Int)) = true := decide_eq_true (by omega)
          have d5 : decide ((0 : Int) < (j : Int) + 1) = true := decide_eq_true (by omega)
          have d6 : decide (0 < j + 1) = true := decide_eq_true (by omega)
          have e2 : wrap64 ((j : Int) + 1 - 1) = (j : Int) := by unfold wrap64; omega
          have e3 : IntKind.i64.wrap ((j : Int) + 1 - 1) = (j : Int) := by simp [IntKind.wrap, IntKind.signed, IntKind.bits]; omega
          clear hup
          go_wp2_with fail
          go_quiet (fail)
          go_wp2_with fail
          go_roundw
          · exact ⟨j + 1 + 1, by omega, by go_num, below_drewN HBR.out _⟩
          · simp [RowKit.intOf]; omega
      · obtain rfl : k = R.length := by omega
        have hd0 : decide ((R.length : Int) < (R.length : Int)) = false := decide_eq_false (by omega)
        have HB3 : Hid (Below w.heap.size w wr) := HB2.out.trans (hb.mono HB2.out.size)
        have HR3 : Hid (Reads wr a2 R) := HR2.out.below hb
        clear hb HB2 HR2 HUP
        go_wp2_with fail
        clear hd0
        go_loopw [7] (fun i wq => ∃ k : Nat, k ≤ L.length ∧ i = .int .i64 ((k : Int) + 1) ∧ Below wr.heap.size wr wq) (fun i _ => L.length + 1 - (RowKit.intOf i).toNat)
        case atStart => exact ⟨0, Nat.zero_le _, rfl, Below.refl _ _⟩
        case round =>
          obtain ⟨k, hk, rfl, hb⟩ := hrel
          have HB4 : Hid (Below w.heap.size w wr) := HB3.out.trans (hb.mono HB3.out.size)
          have HR4 : Hid (Reads wr a2 R) := HR3.out.below hb
          have HBR := Lib.hid hb
          clear hb
          by_cases hlt : k < L.length
          · have d3 : decide ((k : Int) + 1 ≤ (L.length : Int)) = true := decide_eq_true (by omega)
            have e1 : wrap64 ((k : Int) + 1 + 1) = (k : Int) + 1 + 1 := by unfold wrap64; omega
            have hcu := cur17 a c L.length L ((k : Int) + 1) (L.getD k 0) 0 wr (HL.out.below HB4.out) rfl (by omega) (by unfold InR; omega)
              (by unfold curV; rw [if_pos (by omega), show ((k : Int) + 1 - 1).toNat = k by omega]) (by unfold curE; rw [if_pos (by omega)])
            have hmem := HMEM.out k hlt
            have HRN : Hid ((R.length : Int) ≤ 9223372036854775807) := by show _ ≤ _; omega
            by_cases hq : L.getD k 0 = z
            · have hh : ∀ w', Reads w' a2 R → _ := fun w' h => has_any a2 c2 R ((k : Int) + 1) w' h HRN.out
              rw [decide_eq_true (hmem.2 hq)] at hh
              have HH := Lib.hid hh
              have hq1 : (L.getD k 0 == z) = true := by simpa using hq
              clear hh hq hmem
              generalize L.getD k 0 = y at *
              go_wp2_with fail
              refine hcu.mono ?_; rintro e w5 ⟨rfl, hb5⟩
              clear hcu
              have HB5 : Hid (Below wr.heap.size wr w5) := hb5
              have HB6 := HBR.out.trans (hb5.mono HBR.out.size)
              have HB6 := Lib.hid HB6
              have HR5 : Hid (Reads w5 a2 R) := HR4.out.below hb5
              clear hb5
              go_wp2_with fail
              refine (HH.out _ HR5.out).mono ?_; rintro e w6 ⟨rfl, rfl⟩
              go_wp2_with fail
              go_roundw
              · exact ⟨k + 1, by omega, by go_num, HB6.out⟩
              · simp [RowKit.intOf]; omega
            · have hh : ∀ w', Reads w' a2 R → _ := fun w' h => has_any a2 c2 R ((k : Int) + 1) w' h HRN.out
              rw [decide_eq_false (fun r => hq (hmem.1 r))] at hh
              have HH := Lib.hid hh
              have hq1 : (L.getD k 0 == z) = false := by simpa using hq
              clear hh hq hmem
              generalize L.getD k 0 = y at *
              go_wp2_with fail
              refine hcu.mono ?_; rintro e w5 ⟨rfl, hb5⟩
              clear hcu
              have HB6 := HBR.out.trans (hb5.mono HBR.out.size)
              have HB6 := Lib.hid HB6
              have HR5 : Hid (Reads w5 a2 R) := HR4.out.below hb5
              clear hb5
              go_wp2_with fail
              refine (HH.out _ HR5.out).mono ?_; rintro e w6 ⟨rfl, rfl⟩
              go_wp2_with fail
              go_roundw
              · exact ⟨k + 1, by omega, by go_num, HB6.out⟩
              · simp [RowKit.intOf]; omega
          · obtain rfl : k = L.length := by omega
            have d3 : decide ((L.length : Int) + 1 ≤ (L.length : Int)) = false := decide_eq_false (by omega)
            clear HBR HB3 HR3 HMEM
            by_cases h0 : R.length = 0
            · have hr0 : ((R.length : Int) == 0) = true := by rw [h0]; rfl
              clear h0
              go_wp2_with fail
              refine (awake17 _).mono ?_; rintro e w7 ⟨rfl, hb7⟩
              go_wp2_with fail
              go_ret
              exact ⟨rfl, HB4.out.trans (hb7.mono HB4.out.size)⟩
            · have hr0 : ((R.length : Int) == 0) = false := by simpa using (by omega : ¬ (R.length : Int) = 0)
              obtain ⟨j, hj⟩ : ∃ j, R.length = j + 1 := ⟨R.length - 1, by omega⟩
              obtain ⟨b, off, rfl, hc0⟩ := HR4.out.2 0 (by omega)
              obtain ⟨b', off', hq, hc1⟩ := HR4.out.2 j (by omega)
              cases hq
              have f0 := (HBD.out 0 (by omega)).1
              have f1 := (HBD.out j (by omega)).2
              have i1 : (0 : Int) < (R.length : Int) := by omega
              have i2 : wrap64 ((R.length : Int) - 1) = (j : Int) := by unfold wrap64; omega
              have i3 : IntKind.i64.wrap ((R.length : Int) - 1) = (j : Int) := by simp [IntKind.wrap, IntKind.signed, IntKind.bits]; omega
              have i4 : (j : Int) < (R.length : Int) := by omega
              rw [Nat.add_zero] at hc0
              clear HR4 HBD
              generalize R.getD 0 0 = y0 at *
              generalize R.getD j 0 = y1 at *
              have d4 : decide (1 ≤ y0) = true := decide_eq_true f0
              have d5 : decide (y1 ≤ (L.length : Int)) = true := decide_eq_true f1
              clear hj h0
              go_wp2_with fail
              refine (awake17 _).mono ?_; rintro e w7 ⟨rfl, hb7⟩
              go_wp2_with fail
              go_ret
              exact ⟨rfl, HB4.out.trans (hb7.mono HB4.out.size)⟩
end Go.Proofs.Ythomlkgghdggmaa
