/-
  What the document's own Steps (gavelkindref13) answers, for whatever graph. The conditions: what a graph's rows always are; 10^6 numbers.
-/
import Derived.Test.YtpjnpmdpabnjkaaR13a
namespace Go.Proofs.Ytpjnpmdpabnjkaa
open Go.RowKit
set_option linter.unusedSimpArgs false
set_option linter.unusedVariables false

theorem Own.at {w : World} {base g c : Nat} {S : List Int} {n : Nat} (h : Own w base (.slice (some ⟨g, 0, none⟩) n c) S) (hn : S.length = n) {v : Nat} (hv : v < n) : w.cell? ⟨g, v, none⟩ = some (.int .i64 (S.getD v 0)) ∧ w.frozen? ⟨g, v, none⟩ = false := by
  subst hn
  refine ⟨?_, World.ownsRow.frozenAt h v⟩
  rw [World.ownsRow.cellAt h v (by omega)]
  simp [List.getD, hv]
theorem Own.store {w : World} {base g c : Nat} {S : List Int} {n : Nat} (h : Own w base (.slice (some ⟨g, 0, none⟩) n c) S) (hn : S.length = n) (v : Nat) (z : Int) : Own (w.setCell ⟨g, v, none⟩ (.int .i64 z)) base (.slice (some ⟨g, 0, none⟩) n c) (S.set v z) := by
  subst hn
  have := (World.ownsRow.stored h v (.int .i64 z)).1
  unfold Own
  rw [List.map_set, List.length_set]; exact this
theorem Own.formG {w : World} {base : Nat} {v : Value} {S : List Int} (h : Own w base v S) (hn : 0 < S.length) : ∃ g c, v = .slice (some ⟨g, 0, none⟩) S.length c ∧ base ≤ g := by
  rcases h.2 with ⟨_, q⟩ | ⟨g, cap, cur, q1, q2, _⟩
  · omega
  · exact ⟨g, cap, q1, q2⟩
theorem stp0_len (n : Nat) (L : List Int) : (stp0 n L).length = n := by simp [stp0]
theorem stp0_step (k : Nat) (L : List Int) : stp0 (k + 1) L = stp0 k L ++ [if ((k : Nat) : Int) ∈ L then 0 else -1] := by simp [stp0, List.range_succ]
set_option maxHeartbeats 4000000 in
set_option maxRecDepth 100000 in
theorem r13steps {w : World} {x : Value} {R : List (List Int)} (h : GRef w x R) (hI : GrI R) (a : Option Addr) (c : Nat) (L : List Int) (hr : Reads w a L) (hn : L.length ≤ 1000000) :
    Calls Try.prog 15 #[x, .slice a L.length c] w fun e w' => ∃ u S, e = .returned u ∧ Own w' w.heap.size u S ∧ IsSt R.length (nUp R) L S ∧ Below w.heap.size w w' := by
  have hx := h
  obtain ⟨ga, gc, us, rfl, h2, h3, h4, h5, h6⟩ := hx
  have hR := hI.hi
  have hb := below1 w (.cells #[.slice ga R.length gc] 29)
  have hbx : (w.alloc (.cells #[.slice ga R.length gc] 29)).cell? ⟨w.heap.size, 0, none⟩ = some (.slice ga R.length gc) := by simp
  have hsz : w.heap.size < (w.alloc (.cells #[.slice ga R.length gc] 29)).heap.size := by simp
  have HAT := Lib.hid (fun v (hv : v < R.length) => GRef.at h4 h5 h6 hv)
  have HR := Lib.hid (hr.below hb)
  have HB := Lib.hid hb; have HI := Lib.hid hI
  clear hr hb h h2 h3 h4 h5 h6 hI
  go_enter Try.func15, Try.ntmps15
  go_wp2_with fail
  generalize w.alloc (.cells #[.slice ga R.length gc] 29) = W at *
  have hlo := HI.out.lo
  go_loopw [5, 6] (fun v i wr => ∃ k : Nat, k ≤ R.length ∧ i = .int .i64 (k : Int) ∧ Own wr W.heap.size v (stp0 k L) ∧ Below W.heap.size W wr) (fun _ i _ => R.length - (intOf i).toNat)
  case atStart => exact ⟨0, Nat.zero_le _, rfl, Own.nil _ _, Below.refl _ _⟩
  case round =>
    obtain ⟨k, hk, rfl, hown, hbw⟩ := hrel
    have hc := (hbw.cell (p := ⟨w.heap.size, 0, none⟩) hsz).trans hbx
    by_cases hlt : k < R.length
    · have i1 : decide ((k : Int) < (R.length : Int)) = true := decide_eq_true (by omega)
      have hhas := has_any a c L (k : Int) wr (HR.out.below hbw) (by omega)
      have hst := stp0_step k L
      have hle := stp0_len k L
      have HO := Lib.hid hown; have HBW := Lib.hid hbw
      have hs2 : W.heap.size ≤ wr.heap.size := hbw.size
      clear hown hbw
      by_cases hm : ((k : Nat) : Int) ∈ L
      · rw [decide_eq_true hm] at hhas
        rw [if_pos hm] at hst
        have HST := Lib.hid hst
        clear hst hm
        go_wp2_with fail
        refine hhas.mono ?_; clear hhas; rintro e w2 ⟨rfl, rfl⟩
        go_wp2_with
          (at_builtin
           refine wp_push wr rfl (.tmp 21) (.tmp 22) rfl W.heap.size _ (stp0 k L) 0 rfl HO.out rfl (by omega) hs2 ?_
           intro v4 w4 o4 b4
           have O4 := Lib.hid o4; have B4 := Lib.hid (HBW.out.trans b4)
           clear o4 b4)
        go_roundw
        · exact ⟨k + 1, by omega, by go_num, by rw [HST.out]; exact O4.out, B4.out⟩
        · simp [intOf]; omega
      · rw [decide_eq_false hm] at hhas
        rw [if_neg hm] at hst
        have HST := Lib.hid hst
        clear hst hm
        go_wp2_with fail
        refine hhas.mono ?_; clear hhas; rintro e w2 ⟨rfl, rfl⟩
        go_wp2_with
          (at_builtin
           refine wp_push wr rfl (.tmp 24) (.tmp 25) rfl W.heap.size _ (stp0 k L) (-1) rfl HO.out rfl (by omega) hs2 ?_
           intro v4 w4 o4 b4
           have O4 := Lib.hid o4; have B4 := Lib.hid (HBW.out.trans b4)
           clear o4 b4)
        go_roundw
        · exact ⟨k + 1, by omega, by go_num, by rw [HST.out]; exact O4.out, B4.out⟩
        · simp [intOf]; omega
    · obtain rfl : k = R.length := by omega
      have hd0 : decide ((R.length : Int) < (R.length : Int)) = false := decide_eq_false (by omega)
      obtain ⟨g, cp, rfl, hg⟩ := hown.formG (by rw [stp0_len]; omega)
      rw [stp0_len] at hown ⊢
      have HO1 := Lib.hid hown; have HB1 := Lib.hid hbw
      clear hown hbw hk
      go_wp2_with fail
      go_loopw [7] (fun i wr => ∃ (r : Nat) (I : List Int), r ≤ R.length ∧ i = .int .i64 (r : Int) ∧ StpV R L I r 0 ∧ Own wr W.heap.size (.slice (some ⟨g, 0, none⟩) R.length cp) I ∧ Below W.heap.size W wr) (fun i _ => R.length - (intOf i).toNat)
      case atStart => exact ⟨0, _, Nat.zero_le _, rfl, StpV.begin R L, HO1.out, HB1.out⟩
      case round =>
        clear HO1 HB1
        obtain ⟨r, I, hrn, rfl, hV, hO, hBw⟩ := hrel
        by_cases hlt : r < R.length
        · have hd1 : decide ((r : Int) < (R.length : Int)) = true := decide_eq_true (by omega)
          have HV := Lib.hid hV; have HO := Lib.hid hO; have HBW := Lib.hid hBw
          clear hV hO hBw
          go_wp2_with fail
          go_loopw [8] (fun i wr => ∃ (v : Nat) (I : List Int), v ≤ R.length ∧ i = .int .i64 (v : Int) ∧ StpV R L I r v ∧ Own wr W.heap.size (.slice (some ⟨g, 0, none⟩) R.length cp) I ∧ Below W.heap.size W wr) (fun i _ => R.length - (intOf i).toNat)
          case atStart => exact ⟨0, _, Nat.zero_le _, rfl, HV.out, HO.out, HBW.out⟩
          case round =>
            clear HV HO HBW
            obtain ⟨v, I, hvn, rfl, hV, hO, hBw⟩ := hrel
            by_cases hlv : v < R.length
            · have hd2 : decide ((v : Int) < (R.length : Int)) = true := decide_eq_true (by omega)
              have HV : Hid (StpI R L I r v 0) := ⟨hV, hlv, fun i hi => absurd hi (Nat.not_lt_zero i)⟩
              obtain ⟨rb, ro, sa, sc, hga, hcell, _, _, hrd⟩ := HAT.out v hlv
              have HCL := Lib.hid hcell; have HRD := Lib.hid hrd; have HGA := Lib.hid hga
              have HO := Lib.hid hO; have HBW := Lib.hid hBw
              have hlen := HI.out.len v
              clear hV hO hBw hcell hrd hga
              go_wp2_with fail
              go_loopw [9] (fun i wr => ∃ (k : Nat) (I : List Int), k ≤ (gR R v).length ∧ i = .int .i64 (k : Int) ∧ StpI R L I r v k ∧ Own wr W.heap.size (.slice (some ⟨g, 0, none⟩) R.length cp) I ∧ Below W.heap.size W wr) (fun i _ => (gR R v).length - (intOf i).toNat)
              case atStart => exact ⟨0, _, Nat.zero_le _, rfl, HV.out, HO.out, HBW.out⟩
              case round =>
                clear HV HO HBW
                obtain ⟨k, I, hkn, rfl, hV, hO, hBw⟩ := hrel
                have hc0 := (hBw.cell (p := ⟨w.heap.size, 0, none⟩) hsz).trans hbx
                have hc1 := (hBw.cell (World.block_lt_of_cell? _ _ (HB.out.cell (World.block_lt_of_cell? _ _ HCL.out) |>.trans HCL.out))).trans ((HB.out.cell (World.block_lt_of_cell? _ _ HCL.out)).trans HCL.out)
                obtain rfl := HGA.out
                have i0 : (0 : Int) ≤ (v : Int) := by omega
                have i1 : (v : Int) < (R.length : Int) := by omega
                by_cases hlk : k < (gR R v).length
                · have j0 : (0 : Int) ≤ (k : Int) := by omega
                  have j1 : (k : Int) < ((gR R v).length : Int) := by omega
                  obtain ⟨sb, so, hsa, hcy⟩ := HRD.out.2 k hlk
                  obtain ⟨hyq, hyl⟩ := gY_is HI.out hlk
                  have hil := hV.t.len
                  obtain ⟨hcv, hzv⟩ := hO.at hil hlv
                  obtain ⟨hcz, _⟩ := hO.at hil hyl
                  rw [hyq] at hcy
                  have hcy := (hBw.cell (World.block_lt_of_cell? _ _ (HB.out.cell (World.block_lt_of_cell? _ _ hcy) |>.trans hcy))).trans ((HB.out.cell (World.block_lt_of_cell? _ _ hcy)).trans hcy)
                  have y0 : (0 : Int) ≤ ((gY R v k : Nat) : Int) := by omega
                  have y1 : ((gY R v k : Nat) : Int) < (R.length : Int) := by omega
                  have hzl := hV.t.lt hyl
                  have hzg : -1 ≤ I.getD (gY R v k) 0 := by
                    rcases hV.t.snd _ hyl with q | ⟨d, q, _⟩ <;> omega
                  have hst1 := hV.stay HI.out hlk
                  have hst2 := hV.turn HI.out hlk
                  have HNX := Lib.hid (fun b => hO.store hil v b)
                  have HBS := Lib.hid (fun b => hBw.setCell (p := ⟨g, v, none⟩) hg (.int .i64 b))
                  have HO := Lib.hid hO; have HBW := Lib.hid hBw
                  subst hsa
                  unfold nearer at hst1 hst2
                  generalize gY R v k = y at *
                  generalize I.getD y 0 = z at *
                  generalize hsv : I.getD v 0 = s at *
                  clear hyq hO hV hBw hsv
                  have e1 : wrap64 (z + 1) = z + 1 := by unfold wrap64; omega
                  have e2 : IntKind.i64.wrap (z + 1) = z + 1 := by simp [IntKind.wrap, IntKind.signed, IntKind.bits]; omega
                  by_cases hz0 : 0 ≤ z
                  · have dz : decide (0 ≤ z) = true := decide_eq_true hz0
                    rw [dz, Bool.true_and] at hst1 hst2
                    by_cases hs0 : s < 0
                    · have ds : decide (s < 0) = true := decide_eq_true hs0
                      rw [ds, Bool.true_or] at hst2
                      have HST := Lib.hid (hst2 rfl)
                      clear hst1 hst2
                      go_wp2_with fail
                      go_roundw
                      · exact ⟨k + 1, _, by omega, by go_num, HST.out, HNX.out _, HBS.out _⟩
                      · simp [intOf]; omega
                    · have ds : decide (s < 0) = false := decide_eq_false hs0
                      rw [ds, Bool.false_or] at hst1 hst2
                      by_cases hsz : z + 1 < s
                      · have dq : decide (z + 1 < s) = true := decide_eq_true hsz
                        have HST := Lib.hid (hst2 dq)
                        clear hst1 hst2
                        go_wp2_with fail
                        go_roundw
                        · exact ⟨k + 1, _, by omega, by go_num, HST.out, HNX.out _, HBS.out _⟩
                        · simp [intOf]; omega
                      · have dq : decide (z + 1 < s) = false := decide_eq_false hsz
                        have HST := Lib.hid (hst1 dq)
                        clear hst1 hst2
                        go_wp2_with fail
                        go_roundw
                        · exact ⟨k + 1, _, by omega, by go_num, HST.out, HO.out, HBW.out⟩
                        · simp [intOf]; omega
                  · have dz : decide (0 ≤ z) = false := decide_eq_false hz0
                    rw [dz, Bool.false_and] at hst1
                    have HST := Lib.hid (hst1 rfl)
                    clear hst1 hst2
                    go_wp2_with fail
                    go_roundw
                    · exact ⟨k + 1, _, by omega, by go_num, HST.out, HO.out, HBW.out⟩
                    · simp [intOf]; omega
                · obtain rfl : k = (gR R v).length := by omega
                  have hd0 : decide (((gR R v).length : Int) < ((gR R v).length : Int)) = false := decide_eq_false (by omega)
                  have HV := Lib.hid hV.leave; have HO := Lib.hid hO; have HBW := Lib.hid hBw
                  clear hV hO hBw
                  go_wp2_with fail
                  go_roundw
                  · exact ⟨v + 1, _, by omega, by go_num, HV.out, HO.out, HBW.out⟩
                  · simp [intOf]; omega
            · obtain rfl : v = R.length := by omega
              have hd0 : decide ((R.length : Int) < (R.length : Int)) = false := decide_eq_false (by omega)
              have HV := Lib.hid hV.next; have HO := Lib.hid hO; have HBW := Lib.hid hBw
              clear hV hO hBw
              go_wp2_with fail
              go_roundw
              · exact ⟨r + 1, _, by omega, by go_num, HV.out, HO.out, HBW.out⟩
              · simp [intOf]; omega
        · obtain rfl : r = R.length := by omega
          have hd0 : decide ((R.length : Int) < (R.length : Int)) = false := decide_eq_false (by omega)
          have HV := Lib.hid hV.final; have HO := Lib.hid hO; have HBW := Lib.hid hBw
          clear hV hO hBw
          go_wp2_with fail
          go_ret
          exact ⟨_, I, rfl, own_low HO.out (Nat.le_of_lt hsz), HV.out, HB.out.trans (HBW.out.mono (Nat.le_of_lt hsz))⟩
end Go.Proofs.Ytpjnpmdpabnjkaa
