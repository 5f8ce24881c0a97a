/-
  What the document's own Reach (gavelkindref13) answers, for whatever graph. The conditions: what a graph's rows always are; 10^6 numbers.
-/
import Derived.Test.YtpjnpmdpabnjkaaR13a
namespace Go.Proofs.Ytpjnpmdpabnjkaa
open Go.RowKit
set_option linter.unusedSimpArgs false
set_option linter.unusedVariables false

set_option maxHeartbeats 4000000 in
set_option maxRecDepth 100000 in
theorem r13reach {w : World} {x : Value} {R : List (List Int)} (h : GRef w x R) (hI : GrI R) (a : Option Addr) (c : Nat) (L : List Int) (hr : Reads w a L) (hn : L.length ≤ 1000000) :
    Calls Try.prog 11 #[x, .slice a L.length c] w fun e w' => ∃ u I, e = .returned u ∧ Own w' w.heap.size u (lst I) ∧ I.length = R.length ∧ (∀ v, v < R.length → (I.getD v false = true ↔ ∃ k, Way R.length (nUp R) L k v)) ∧ Below w.heap.size w w' := by
  have hx := h
  obtain ⟨ga, gc, us, rfl, h2, h3, h4, h5, h6⟩ := hx
  have hR := hI.hi
  have hb := below1 w (.cells #[.slice ga R.length gc] 29)
  have hbx : (w.alloc (.cells #[.slice ga R.length gc] 29)).cell? ⟨w.heap.size, 0, none⟩ = some (.slice ga R.length gc) := by simp
  have hsz : w.heap.size < (w.alloc (.cells #[.slice ga R.length gc] 29)).heap.size := by simp
  have hbe := r13begun (h.below hb) hR a c L (hr.below hb) hn
  have HAT := Lib.hid (fun v (hv : v < R.length) => GRef.at h4 h5 h6 hv)
  have HB := Lib.hid hb; have HI := Lib.hid hI
  clear hr hb h h2 h3 h4 h5 h6 hI
  go_enter Try.func11, Try.ntmps11
  go_wp2_with fail
  generalize w.alloc (.cells #[.slice ga R.length gc] 29) = W at *
  refine hbe.mono ?_; clear hbe; rintro e w1 ⟨u, rfl, ho, hb1⟩
  have hlo := HI.out.lo
  obtain ⟨g, cp, rfl, hg⟩ := ho.form (by rw [begn_len]; omega)
  rw [begn_len] at ho ⊢
  have HO1 := Lib.hid ho; have HB1 := Lib.hid hb1
  clear ho hb1
  go_wp2_with fail
  go_loopw [6] (fun i wr => ∃ (r : Nat) (I : List Bool), r ≤ R.length ∧ i = .int .i64 (r : Int) ∧ RchV R L I r 0 ∧ OwnB wr W.heap.size (.slice (some ⟨g, 0, none⟩) R.length cp) I ∧ Below W.heap.size W wr) (fun i _ => R.length - (intOf i).toNat)
  case atStart => exact ⟨0, _, Nat.zero_le _, rfl, RchV.begin R L, HO1.out, HB1.out⟩
  case round =>
    clear HO1 HB1
    obtain ⟨r, I, hrn, rfl, hV, hO, hBw⟩ := hrel
    by_cases hlt : r < R.length
    · have hd1 : decide ((r : Int) < (R.length : Int)) = true := decide_eq_true (by omega)
      have HV := Lib.hid hV; have HO := Lib.hid hO; have HBW := Lib.hid hBw
      clear hV hO hBw
      go_wp2_with fail
      go_loopw [7] (fun i wr => ∃ (v : Nat) (I : List Bool), v ≤ R.length ∧ i = .int .i64 (v : Int) ∧ RchV R L I r v ∧ OwnB wr W.heap.size (.slice (some ⟨g, 0, none⟩) R.length cp) I ∧ Below W.heap.size W wr) (fun i _ => R.length - (intOf i).toNat)
      case atStart => exact ⟨0, _, Nat.zero_le _, rfl, HV.out, HO.out, HBW.out⟩
      case round =>
        clear HV HO HBW
        obtain ⟨v, I, hvn, rfl, hV, hO, hBw⟩ := hrel
        by_cases hlv : v < R.length
        · have hd2 : decide ((v : Int) < (R.length : Int)) = true := decide_eq_true (by omega)
          have HV : Hid (RchI R L I r v 0) := ⟨hV, hlv, fun i hi => absurd hi (Nat.not_lt_zero i)⟩
          obtain ⟨rb, ro, sa, sc, hga, hcell, _, _, hrd⟩ := HAT.out v hlv
          have HCL := Lib.hid hcell; have HRD := Lib.hid hrd; have HGA := Lib.hid hga
          have HO := Lib.hid hO; have HBW := Lib.hid hBw
          have hlen := HI.out.len v
          clear hV hO hBw hcell hrd hga
          go_wp2_with fail
          go_loopw [8] (fun i wr => ∃ (k : Nat) (I : List Bool), k ≤ (gR R v).length ∧ i = .int .i64 (k : Int) ∧ RchI R L I r v k ∧ OwnB wr W.heap.size (.slice (some ⟨g, 0, none⟩) R.length cp) I ∧ Below W.heap.size W wr) (fun i _ => (gR R v).length - (intOf i).toNat)
          case atStart => exact ⟨0, _, Nat.zero_le _, rfl, HV.out, HO.out, HBW.out⟩
          case round =>
            clear HV HO HBW
            obtain ⟨k, I, hkn, rfl, hV, hO, hBw⟩ := hrel
            have hc0 := (hBw.cell (p := ⟨w.heap.size, 0, none⟩) hsz).trans hbx
            have hc1 := (hBw.cell (World.block_lt_of_cell? _ _ (HB.out.cell (World.block_lt_of_cell? _ _ HCL.out) |>.trans HCL.out))).trans ((HB.out.cell (World.block_lt_of_cell? _ _ HCL.out)).trans HCL.out)
            obtain rfl := HGA.out
            have i0 : (0 : Int) ≤ (v : Int) := by omega
            have i1 : (v : Int) < (R.length : Int) := by omega
            by_cases hlk : k < (gR R v).length
            · have j0 : (0 : Int) ≤ (k : Int) := by omega
              have j1 : (k : Int) < ((gR R v).length : Int) := by omega
              obtain ⟨sb, so, hsa, hcy⟩ := HRD.out.2 k hlk
              obtain ⟨hyq, hyl⟩ := gY_is HI.out hlk
              have hstep := hV.step HI.out hlk
              have hil := hV.t.len
              obtain ⟨hcv, hzv⟩ := hO.at hil hlv
              obtain ⟨hcz, _⟩ := hO.at hil hyl
              rw [hyq] at hcy
              have hcy := (hBw.cell (World.block_lt_of_cell? _ _ (HB.out.cell (World.block_lt_of_cell? _ _ hcy) |>.trans hcy))).trans ((HB.out.cell (World.block_lt_of_cell? _ _ hcy)).trans hcy)
              have y0 : (0 : Int) ≤ ((gY R v k : Nat) : Int) := by omega
              have y1 : ((gY R v k : Nat) : Int) < (R.length : Int) := by omega
              have hnx := fun b => hO.store hil v b
              have hbs := fun b => hBw.setCell (p := ⟨g, v, none⟩) hg (.bool b)
              have HNX := Lib.hid hnx; have HBS := Lib.hid hbs
              subst hsa
              generalize gY R v k = y at *
              generalize I.getD y false = b2 at *
              clear hnx hbs hyq hO hV
              cases hbv : I.getD v false with
              | true =>
                rw [hbv] at hcv hstep
                rw [Bool.true_or] at hstep
                have HST := Lib.hid hstep
                clear hstep hbv
                go_wp2_with fail
                go_roundw
                · exact ⟨k + 1, _, by omega, by go_num, HST.out, HNX.out true, HBS.out true⟩
                · simp [intOf]; omega
              | false =>
                rw [hbv] at hcv hstep
                rw [Bool.false_or] at hstep
                have HST := Lib.hid hstep
                clear hstep hbv
                go_wp2_with fail
                go_roundw
                · exact ⟨k + 1, _, by omega, by go_num, HST.out, HNX.out b2, HBS.out b2⟩
                · simp [intOf]; omega
            · obtain rfl : k = (gR R v).length := by omega
              have hd0 : decide (((gR R v).length : Int) < ((gR R v).length : Int)) = false := decide_eq_false (by omega)
              have HV := Lib.hid hV.leave; have HO := Lib.hid hO; have HBW := Lib.hid hBw
              clear hV hO hBw
              go_wp2_with fail
              go_roundw
              · exact ⟨v + 1, _, by omega, by go_num, HV.out, HO.out, HBW.out⟩
              · simp [intOf]; omega
        · obtain rfl : v = R.length := by omega
          have hd0 : decide ((R.length : Int) < (R.length : Int)) = false := decide_eq_false (by omega)
          have HV := Lib.hid hV.next; have HO := Lib.hid hO; have HBW := Lib.hid hBw
          clear hV hO hBw
          go_wp2_with fail
          go_roundw
          · exact ⟨r + 1, _, by omega, by go_num, HV.out, HO.out, HBW.out⟩
          · simp [intOf]; omega
    · obtain rfl : r = R.length := by omega
      have hd0 : decide ((R.length : Int) < (R.length : Int)) = false := decide_eq_false (by omega)
      have HV := Lib.hid hV; have HBW := Lib.hid hBw
      have hil := hV.len
      have hls := r13listed (some ⟨g, 0, none⟩) cp I wr hO.rd (by omega)
      rw [hil] at hls
      clear hV hO hBw
      go_wp2_with fail
      refine hls.mono ?_; clear hls; rintro e w5 ⟨u, rfl, ho, hb5⟩
      go_wp2_with fail
      go_ret
      exact ⟨u, I, rfl, own_low ho (Nat.le_trans (Nat.le_of_lt hsz) HBW.out.size), hil, HV.out.final, HB.out.trans ((HBW.out.trans (hb5.mono HBW.out.size)).mono (Nat.le_of_lt hsz))⟩
end Go.Proofs.Ytpjnpmdpabnjkaa
