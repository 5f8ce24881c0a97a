/-
  BitsPlay of layer 11 answers true over the landed set, for whatever number and calls. The condition: the library's table lies as it was laid.
-/
import Derived.Test.YtiolicadnomagaaDoorBtD
import Derived.Deep.DeepCutAuto
import Derived.Deep.RegionHeld3
namespace Go.Proofs.YtiolicadnomagaaDoor
open Go.RowKit
set_option linter.unusedSimpArgs false
set_option linter.unusedVariables false

/-- A slice of pairs of numbers reads so. -/
def ReadsP (w : World) (a : Option Addr) (l : List (Int × Int)) : Prop := ∀ i, i < l.length → ∃ b off, a = some ⟨b, off, none⟩ ∧ w.cell? ⟨b, off + i * 2, none⟩ = some (.int .i64 (l.getD i (0, 0)).1) ∧ w.cell? ⟨b, off + i * 2 + 1, none⟩ = some (.int .i64 (l.getD i (0, 0)).2) ∧ InR (l.getD i (0, 0)).1 ∧ InR (l.getD i (0, 0)).2
/-- What holds at the loop's head. -/
structure PyRel (w : World) (B : Nat) (F : Nat → Prop) (z : Nat) (v i : Value) (wr : World) : Prop where
  out : ∃ (k : Nat) (S : List Int), k ≤ z ∧ i = .int .i64 (k : Int) ∧ OneS w wr B S F ∧ Sl wr v S

set_option maxHeartbeats 8000000 in
set_option maxRecDepth 100000 in
theorem plays11 (m : Int) (a : Option Addr) (c : Nat) (l : List (Int × Int)) (w : World) (hl : ReadsP w a l) (hm : InR m) (hbig : (l.length : Int) ≤ 9223372036854775807) (hT : TabD w) :
    Calls Tryd.prog 3 #[.slice a l.length c, .int .i64 m] w fun e w' => e = .returned (.bool true) ∧ Below w.heap.size w w' := by
  have hnw := new_s w
  have HT := Lib.hid hT
  by_cases h100 : 100 < l.length
  · clear hl hm hbig hT
    go_enter Tryd.func3, Tryd.ntmps3
    go_wp2_with fail
    refine hnw.mono ?_; rintro e w1 ⟨B, F, rfl, hR1, hb1, hF1⟩
    go_wp2_with fail
    refine (b_awake w1 (HT.out.below hb1)).mono ?_; rintro e w2 ⟨rfl, hb2⟩
    go_wp2_with fail
    go_ret
    exact ⟨rfl, hb1.trans (hb2.mono hb1.size)⟩
  · have HL := Lib.hid hl; have HM := Lib.hid hm; have H1 := Lib.hid h100
    have d100 : decide (100 < (l.length : Int)) = false := decide_eq_false (by omega)
    clear hl hm hbig hT h100
    go_enter Tryd.func3, Tryd.ntmps3
    go_wp2_with fail
    refine hnw.mono ?_; rintro e w1 ⟨B, F, rfl, hR1, hb1, hF1⟩
    have H0 : Hid (PyRel w B F l.length (.slice none 0 0) (.int .i64 0) w1) := ⟨⟨0, [], Nat.zero_le _, rfl, ⟨hR1, hb1, hF1⟩, sl_nil11 _⟩⟩
    clear hR1 hb1 hF1 hnw
    go_wp2_with fail
    go_loopw [6, 7] (fun v i wr => PyRel w B F l.length v i wr) (fun _ i _ => l.length - (intOf i).toNat)
    case atStart => exact H0.out
    case round =>
      clear H0
      obtain ⟨k, S, hk, rfl, hO, hV⟩ := hrel.out
      clear hrel
      by_cases hlt : k < l.length
      · obtain ⟨b, off, rfl, hc1, hc2, r1, r2⟩ := HL.out k hlt
        have hbw : b < w.heap.size := World.block_lt_of_cell? w _ hc1
        generalize (l.getD k (0, 0)).1 = d at *
        generalize (l.getD k (0, 0)).2 = n at *
        have HC : Hid (∀ wy, Below w.heap.size w wy → wy.cell? ⟨b, off + k * 2, none⟩ = some (.int .i64 d) ∧ wy.cell? ⟨b, off + k * 2 + 1, none⟩ = some (.int .i64 n)) := fun wy h => ⟨(h.cell (p := ⟨b, _, none⟩) hbw).trans hc1, (h.cell (p := ⟨b, _, none⟩) hbw).trans hc2⟩
        obtain ⟨c1, c2⟩ := HC.out _ hO.b
        have i0 : (0 : Int) ≤ (k : Int) := by omega
        have i1 : (k : Int) < (l.length : Int) := by omega
        have hu1 : wrap64 ((k : Int) + 1) = ((k + 1 : Nat) : Int) := by have := H1.out; unfold wrap64; omega
        have hu2 : IntKind.i64.wrap ((k : Int) + 1) = ((k + 1 : Nat) : Int) := by have := H1.out; simp [IntKind.wrap, IntKind.signed, IntKind.bits]; omega
        have hdo := do11 hO.r d n r2
        have HO := Lib.hid hO; have HV := Lib.hid hV; have HR2 := Lib.hid r2; have HLT := Lib.hid hlt
        obtain ⟨av, cv, rfl, _⟩ := hV
        clear hc1 hc2 r1 r2 hO hlt hk
        go_wp2_with fail
        refine hdo.mono ?_; rintro e w3 ⟨rfl, hr3, ht3⟩
        have H3 := Lib.hid (HO.out.turn hr3 ht3)
        have V3 := Lib.hid (HO.out.sl ht3 HV.out)
        have hrf := ref11 _ S d n w3 V3.out HR2.out (by have := HO.out.r.short; omega)
        clear hdo hr3 ht3 c1 c2 HO HV
        obtain ⟨c1, c2⟩ := HC.out _ H3.out.b
        go_wp2_with fail
        refine hrf.mono ?_; rintro e w4 ⟨u, rfl, hu, hb4⟩
        have H4 := Lib.hid (H3.out.below hb4)
        have V4 := Lib.hid hu
        obtain ⟨a4, c4, rfl, _⟩ := hu
        clear hrf hb4 H3 V3 c1 c2
        generalize boE S d n = e1 at *
        generalize boK S d n = S4 at *
        obtain ⟨c1, c2⟩ := HC.out _ H4.out.b
        have hsh : S4.length ≤ 65536 := H4.out.r.short
        obtain ⟨_, _, he4, _, _, hrd4⟩ := V4.out
        cases he4
        have HLN := Lib.hid (fun wz (hb : Below w4.heap.size w4 wz) => len_s (H4.out.below hb).r)
        have HHM := Lib.hid (fun wz (hb : Below w4.heap.size w4 wz) => has_s (H4.out.below hb).r m HM.out)
        have HHN := Lib.hid (fun wz (hb : Below w4.heap.size w4 wz) => has_s (H4.out.below hb).r n HR2.out)
        have HRM := Lib.hid (fun wz (hb : Below w4.heap.size w4 wz) => has_any a4 c4 S4 m wz (hrd4.below hb) (by omega))
        have HRN := Lib.hid (fun wz (hb : Below w4.heap.size w4 wz) => has_any a4 c4 S4 n wz (hrd4.below hb) (by omega))
        have HAL := Lib.hid (fun wz (hb : Below w4.heap.size w4 wz) => all_s (H4.out.below hb).r (HT.out.below (H4.out.below hb).b))
        have HSM : Hid (∀ a2 c2 wz, Reads wz a2 S4 → Below w4.heap.size w4 wz → Calls Tryd.prog 13 #[.slice a2 S4.length c2, .slice a4 S4.length c4] wz fun e w' => e = .returned (.bool true) ∧ Below wz.heap.size wz w') := fun a2 c2 wz h hb => by
          have := same_any a2 a4 c2 c4 S4 S4 wz h (hrd4.below hb) (by omega)
          rwa [decide_eq_true rfl] at this
        have HC2 : Hid (∀ wz, Below w4.heap.size w4 wz → wz.cell? ⟨b, off + k * 2 + 1, none⟩ = some (.int .i64 n)) := fun wz hb => (HC.out _ (H4.out.below hb).b).2
        have K := Lib.hid (Below.refl w4.heap.size w4)
        clear hrd4 hsh
        go_wp2_with fail
        go_region_held3 (fun wz => wz.cell? ⟨b, off + k * 2 + 1, none⟩ = some (.int .i64 n))
          (first | exact HC2.out _ K.out | exact HC2.out _ K.out.drew)
          (first
            | (go_at_call 10; (with_reducible first | refine (HLN.out _ K.out).mono ?_ | refine (HLN.out _ K.out.drew).mono ?_); rintro e wn ⟨rfl, hbn⟩; (first | replace K := Lib.hid (K.out.trans (hbn.mono K.out.size)) | replace K := Lib.hid (K.out.drew.trans (hbn.mono K.out.drew.size))); clear hbn)
            | (go_at_call 11; (with_reducible first | refine (HHM.out _ K.out).mono ?_ | refine (HHM.out _ K.out.drew).mono ?_ | refine (HHN.out _ K.out).mono ?_ | refine (HHN.out _ K.out.drew).mono ?_); rintro e wn ⟨rfl, hbn⟩; (first | replace K := Lib.hid (K.out.trans (hbn.mono K.out.size)) | replace K := Lib.hid (K.out.drew.trans (hbn.mono K.out.drew.size))); clear hbn)
            | (go_at_call 12; (with_reducible first | refine (HRM.out _ K.out).mono ?_ | refine (HRM.out _ K.out.drew).mono ?_ | refine (HRN.out _ K.out).mono ?_ | refine (HRN.out _ K.out.drew).mono ?_); rintro e wn ⟨rfl, rfl⟩)
            | (go_at_call 14; (with_reducible refine (HAL.out _ K.out).mono ?_); rintro e wn ⟨u2, rfl, hu2, hbn⟩; (first | replace K := Lib.hid (K.out.trans (hbn.mono K.out.size)) | replace K := Lib.hid (K.out.drew.trans (hbn.mono K.out.drew.size))); obtain ⟨a2, c2', rfl, _, _, hrd2⟩ := hu2; have U := Lib.hid hrd2; clear hbn hrd2)
            | (go_at_call 13; (with_reducible refine (HSM.out _ _ _ U.out K.out).mono ?_); rintro e wn ⟨rfl, hbn⟩; replace K := Lib.hid (K.out.trans (hbn.mono K.out.size)); clear hbn))
        all_goals go_wp2_with fail
        all_goals go_roundw
        · exact ⟨⟨k + 1, S4, by have := HLT.out; omega, by first | with_reducible rfl | go_num, H4.out.below K.out, V4.out.below K.out⟩⟩
        · have := HLT.out; simp [intOf]; omega
      · obtain rfl : k = l.length := by omega
        have hbb := hO.b
        have haw := b_awake wr (HT.out.below hO.b)
        obtain ⟨av, cv, rfl, _⟩ := hV
        clear hO hlt hk
        go_wp2_with fail
        refine haw.mono ?_; rintro e w5 ⟨rfl, hb5⟩
        go_wp2_with fail
        go_ret
        exact ⟨rfl, hbb.trans (hb5.mono hbb.size)⟩
end Go.Proofs.YtiolicadnomagaaDoor
