/-
  What the document's own begun and listed (gavelkindref13) answer. The conditions: no more than 20000 nodes, 10^6 numbers. What the document's own Reach (gavelkindref13) answers, for whatever graph. The conditions: what a graph's rows always are; 10^6 numbers.
-/
import Derived.Test.YtbaeanpdjdcheaaGreatRc1
import Derived.Test.YtbaeanpdjdcheaaGreatIntB0
import Derived.Test.YtbaeanpdjdcheaaGreatRefIg
import Derived.Test.YtbaeanpdjdcheaaGreatRfH
namespace Go.Proofs.YtbaeanpdjdcheaaGreat
open Go.RowKit
set_option linter.unusedSimpArgs false
set_option linter.unusedVariables false

/- What the document's own begun and listed (gavelkindref13) answer. The conditions: no more than 20000 nodes, 10^6 numbers. -/
theorem bool_info : (Tryz.prog.info? 4).map (fun i => (i.zero, i.size, i.bytes)) = some (some (.bool false), 1, 1) := by kernel_rfl
/-- A row of truths that the call owns. -/
def OwnB (w : World) (base : Nat) (v : Value) (I : List Bool) : Prop := w.ownsRow base 4 1 v I.length (I.map Value.bool)
theorem OwnB.below {w w' : World} {base : Nat} {v : Value} {I : List Bool} (h : OwnB w base v I) (hb : Below w.heap.size w w') : OwnB w' base v I := ownsRow_below h hb
theorem OwnB.low {w : World} {a b : Nat} {v : Value} {I : List Bool} (h : OwnB w a v I) (hb : b ≤ a) : OwnB w b v I :=
  ⟨h.1, h.2.imp id fun ⟨g, cap, cur, e, q, r⟩ => ⟨g, cap, cur, e, Nat.le_trans hb q, r⟩⟩
theorem OwnB.form {w : World} {base : Nat} {v : Value} {I : List Bool} (h : OwnB w base v I) (hn : 0 < I.length) : ∃ g c, v = .slice (some ⟨g, 0, none⟩) I.length c ∧ base ≤ g := by
  rcases h.2 with ⟨_, q⟩ | ⟨g, cap, cur, q1, q2, _⟩
  · omega
  · exact ⟨g, cap, q1, q2⟩
theorem OwnB.at {w : World} {base g c : Nat} {I : List Bool} {n : Nat} (h : OwnB w base (.slice (some ⟨g, 0, none⟩) n c) I) (hn : I.length = n) {v : Nat} (hv : v < n) : w.cell? ⟨g, v, none⟩ = some (.bool (I.getD v false)) ∧ w.frozen? ⟨g, v, none⟩ = false := by
  subst hn
  refine ⟨?_, World.ownsRow.frozenAt h v⟩
  rw [World.ownsRow.cellAt h v (by omega)]
  simp [List.getD, hv]
theorem OwnB.store {w : World} {base g c : Nat} {I : List Bool} {n : Nat} (h : OwnB w base (.slice (some ⟨g, 0, none⟩) n c) I) (hn : I.length = n) (v : Nat) (b : Bool) : OwnB (w.setCell ⟨g, v, none⟩ (.bool b)) base (.slice (some ⟨g, 0, none⟩) n c) (I.set v b) := by
  subst hn
  have := (World.ownsRow.stored h v (.bool b)).1
  unfold OwnB
  rw [List.map_set, List.length_set]; exact this
theorem begn_step (k : Nat) (L : List Int) : begn (k + 1) L = begn k L ++ [decide (((k : Nat) : Int) ∈ L)] := by simp [begn, List.range_succ]
set_option maxHeartbeats 1000000 in
theorem r13begun {w : World} {x : Value} {R : List (List Int)} (h : GRef w x R) (hR : R.length ≤ 20000) (a : Option Addr) (c : Nat) (L : List Int) (hr : Reads w a L) (hn : L.length ≤ 1000000) :
    Calls Tryz.prog 44 #[x, .slice a L.length c] w fun e w' => ∃ u, e = .returned u ∧ OwnB w' w.heap.size u (begn R.length L) ∧ Below w.heap.size w w' := by
  obtain ⟨ga, gc, us, rfl, _⟩ := h
  have hb := below1 w (.cells #[.slice ga R.length gc] 32)
  have hbx : (w.alloc (.cells #[.slice ga R.length gc] 32)).cell? ⟨w.heap.size, 0, none⟩ = some (.slice ga R.length gc) := by simp
  have hsz : w.heap.size < (w.alloc (.cells #[.slice ga R.length gc] 32)).heap.size := by simp
  have HR := Lib.hid (hr.below hb); have HB := Lib.hid hb
  clear hr hb
  go_enter Tryz.func44, Tryz.ntmps44
  go_wp2_with fail
  generalize w.alloc (.cells #[.slice ga R.length gc] 32) = W at *
  go_loopw [5, 6] (fun v i wr => ∃ k : Nat, k ≤ R.length ∧ i = .int .i64 (k : Int) ∧ OwnO (fun _ => False) wr W.heap.size 4 1 v k ((begn k L).map Value.bool) ∧ Below W.heap.size W wr) (fun _ i _ => R.length - (RowKit.intOf i).toNat)
  case atStart => exact ⟨0, Nat.zero_le _, rfl, OwnO.nil _ _ _ _ _, Below.refl _ _⟩
  case round =>
    obtain ⟨k, hk, rfl, hown, hbw⟩ := hrel
    have hc := (hbw.cell (p := ⟨w.heap.size, 0, none⟩) hsz).trans hbx
    by_cases hlt : k < R.length
    · have i1 : decide ((k : Int) < (R.length : Int)) = true := decide_eq_true (by omega)
      have hhas := has_any a c L (k : Int) wr (HR.out.below hbw) (by omega)
      have hst := Lib.hid (begn_step k L)
      obtain ⟨b, hbb⟩ : ∃ b, b = decide (((k : Nat) : Int) ∈ L) := ⟨_, rfl⟩
      rw [← hbb] at hst hhas
      have HBB := Lib.hid hbb
      clear hbb
      have HO := Lib.hid hown; have HBW := Lib.hid hbw
      have hs2 : W.heap.size ≤ wr.heap.size := hbw.size
      clear hown hbw
      go_wp2_with fail
      refine hhas.mono ?_; clear hhas; rintro e w2 ⟨rfl, rfl⟩
      go_wp2_with
        (at_builtin
         refine wpList_push1 rfl (.tmp 14) (.tmp 18) 24 rfl (fun _ => False) W.heap.size 4 1 1 (.bool false) Tryz.underlying24 bool_info rfl (by decide) [.bool b] rfl _ _ _ rfl HO.out rfl (by intro u hu; simp at hu; subst hu; rfl) (by omega) (by decide) hs2 (fun j q => q.elim) ?_
         intro v4 w4 o4 t4 l4
         have B4 := Lib.hid (HBW.out.trans (t4.below (fun j q => (World.ownsRow.lt HO.out.1 j q).1) hs2))
         have O4 := Lib.hid o4
         clear o4 t4 l4)
      go_roundw
      · exact ⟨k + 1, by omega, by go_num, by rw [hst.out, List.map_append]; exact O4.out, B4.out⟩
      · simp [RowKit.intOf]; omega
    · obtain rfl : k = R.length := by omega
      have hd0 : decide ((R.length : Int) < (R.length : Int)) = false := decide_eq_false (by omega)
      have HO := Lib.hid hown; have HBW := Lib.hid hbw
      clear hown hbw
      go_wp2_with fail
      go_ret
      exact ⟨_, rfl, OwnB.low (a := W.heap.size) (by unfold OwnB; rw [begn_len]; exact HO.out.1) (Nat.le_of_lt hsz), HB.out.trans (HBW.out.mono (Nat.le_of_lt hsz))⟩
/-- A slice reads as these truths. -/
def ReadsB (w : World) (a : Option Addr) (I : List Bool) : Prop := ∀ k, k < I.length → ∃ b off, a = some ⟨b, off, none⟩ ∧ w.cell? ⟨b, off + k, none⟩ = some (.bool (I.getD k false))
theorem OwnB.reads {w : World} {base : Nat} {v : Value} {I : List Bool} (h : OwnB w base v I) : ∃ a c, v = .slice a I.length c ∧ ReadsB w a I := by
  rcases h.2 with ⟨rfl, h0⟩ | ⟨g, cap, cur, rfl, _⟩
  · exact ⟨none, 0, by rw [h0], fun k hk => by omega⟩
  · exact ⟨_, _, rfl, fun k hk => ⟨g, 0, rfl, by rw [Nat.zero_add]; exact (OwnB.at h rfl hk).1⟩⟩
theorem OwnB.rd {w : World} {base n c : Nat} {a : Option Addr} {I : List Bool} (h : OwnB w base (.slice a n c) I) : ReadsB w a I := by
  obtain ⟨a', c', e, hr⟩ := h.reads
  injection e with e1
  rw [e1]; exact hr
set_option maxHeartbeats 1000000 in
theorem r13listed (a : Option Addr) (c : Nat) (I : List Bool) (w : World) (hr : ReadsB w a I) (hn : I.length ≤ 20000) :
    Calls Tryz.prog 45 #[.slice a I.length c] w fun e w' => ∃ u, e = .returned u ∧ Own w' w.heap.size u (lst I) ∧ Below w.heap.size w w' := by
  have HR := Lib.hid hr
  clear hr
  go_enter Tryz.func45, Tryz.ntmps45
  go_wp2_with fail
  go_loopw [3, 4] (fun l i wr => ∃ k : Nat, k ≤ I.length ∧ i = .int .i64 (k : Int) ∧ Own wr w.heap.size l (lstk I k) ∧ Below w.heap.size w wr) (fun _ i _ => I.length - (RowKit.intOf i).toNat)
  case atStart => exact ⟨0, Nat.zero_le _, rfl, Own.nil _ _, Below.refl _ _⟩
  case round =>
    obtain ⟨k, hk, rfl, hown, hb⟩ := hrel
    by_cases hlt : k < I.length
    · obtain ⟨b, off, rfl, hc⟩ := HR.out k hlt
      have hc := (hb.cell (World.block_lt_of_cell? _ _ hc)).trans hc
      have i0 : (0 : Int) ≤ (k : Int) := by omega
      have i1 : (k : Int) < (I.length : Int) := by omega
      have hst := lstk_step I k
      have hle := lstk_len I k
      have hsz := hb.size
      cases hz : I.getD k false with
      | false =>
        rw [hz] at hc hst
        rw [if_neg (by simp)] at hst
        have HO := Lib.hid hown; have HB := Lib.hid hb
        have HST := Lib.hid hst
        clear hown hb hst hz
        go_wp2_with fail
        go_roundw
        · exact ⟨k + 1, by omega, by go_num, by rw [HST.out]; exact HO.out, HB.out⟩
        · simp [RowKit.intOf]; omega
      | true =>
        rw [hz] at hc hst
        rw [if_pos rfl] at hst
        have HO := Lib.hid hown; have HB := Lib.hid hb
        have HST := Lib.hid hst
        clear hown hb hst hz
        go_wp2_with
          (at_builtin
           refine wp_push wr rfl (.tmp 15) (.tmp 17) rfl w.heap.size _ (lstk I k) (k : Int) rfl HO.out rfl (by omega) hsz ?_
           intro v4 w4 o4 b4
           have O4 := Lib.hid o4; have B4 := Lib.hid (HB.out.trans b4)
           clear o4 b4)
        go_roundw
        · exact ⟨k + 1, by omega, by go_num, by rw [HST.out]; exact O4.out, B4.out⟩
        · simp [RowKit.intOf]; omega
    · obtain rfl : k = I.length := by omega
      have hd0 : decide ((I.length : Int) < (I.length : Int)) = false := decide_eq_false (by omega)
      have HO := Lib.hid hown; have HB := Lib.hid hb
      clear hown hb
      go_wp2_with fail
      go_ret
      exact ⟨_, rfl, HO.out, HB.out⟩
/- What the document's own Reach (gavelkindref13) answers, for whatever graph. The conditions: what a graph's rows always are; 10^6 numbers. -/
set_option maxHeartbeats 4000000 in
set_option maxRecDepth 100000 in
theorem r13reach {w : World} {x : Value} {R : List (List Int)} (h : GRef w x R) (hI : GrI R) (a : Option Addr) (c : Nat) (L : List Int) (hr : Reads w a L) (hn : L.length ≤ 1000000) :
    Calls Tryz.prog 26 #[x, .slice a L.length c] w fun e w' => ∃ u I, e = .returned u ∧ Own w' w.heap.size u (lst I) ∧ I.length = R.length ∧ (∀ v, v < R.length → (I.getD v false = true ↔ ∃ k, Way R.length (nUp R) L k v)) ∧ Below w.heap.size w w' := by
  have hx := h
  obtain ⟨ga, gc, us, rfl, h2, h3, h4, h5, h6⟩ := hx
  have hR := hI.hi
  have hb := below1 w (.cells #[.slice ga R.length gc] 32)
  have hbx : (w.alloc (.cells #[.slice ga R.length gc] 32)).cell? ⟨w.heap.size, 0, none⟩ = some (.slice ga R.length gc) := by simp
  have hsz : w.heap.size < (w.alloc (.cells #[.slice ga R.length gc] 32)).heap.size := by simp
  have hbe := r13begun (h.below hb) hR a c L (hr.below hb) hn
  have HAT := Lib.hid (fun v (hv : v < R.length) => GRef.at h4 h5 h6 hv)
  have HB := Lib.hid hb; have HI := Lib.hid hI
  clear hr hb h h2 h3 h4 h5 h6 hI
  go_enter Tryz.func26, Tryz.ntmps26
  go_wp2_with fail
  generalize w.alloc (.cells #[.slice ga R.length gc] 32) = W at *
  refine hbe.mono ?_; clear hbe; rintro e w1 ⟨u, rfl, ho, hb1⟩
  have hlo := HI.out.lo
  obtain ⟨g, cp, rfl, hg⟩ := ho.form (by rw [begn_len]; omega)
  rw [begn_len] at ho ⊢
  have HO1 := Lib.hid ho; have HB1 := Lib.hid hb1
  clear ho hb1
  go_wp2_with fail
  go_loopw [6] (fun i wr => ∃ (r : Nat) (I : List Bool), r ≤ R.length ∧ i = .int .i64 (r : Int) ∧ RchV R L I r 0 ∧ OwnB wr W.heap.size (.slice (some ⟨g, 0, none⟩) R.length cp) I ∧ Below W.heap.size W wr) (fun i _ => R.length - (RowKit.intOf i).toNat)
  case atStart => exact ⟨0, _, Nat.zero_le _, rfl, RchV.begin R L, HO1.out, HB1.out⟩
  case round =>
    clear HO1 HB1
    obtain ⟨r, I, hrn, rfl, hV, hO, hBw⟩ := hrel
    by_cases hlt : r < R.length
    · have hd1 : decide ((r : Int) < (R.length : Int)) = true := decide_eq_true (by omega)
      have HV := Lib.hid hV; have HO := Lib.hid hO; have HBW := Lib.hid hBw
      clear hV hO hBw
      go_wp2_with fail
      go_loopw [7] (fun i wr => ∃ (v : Nat) (I : List Bool), v ≤ R.length ∧ i = .int .i64 (v : Int) ∧ RchV R L I r v ∧ OwnB wr W.heap.size (.slice (some ⟨g, 0, none⟩) R.length cp) I ∧ Below W.heap.size W wr) (fun i _ => R.length - (RowKit.intOf i).toNat)
      case atStart => exact ⟨0, _, Nat.zero_le _, rfl, HV.out, HO.out, HBW.out⟩
      case round =>
        clear HV HO HBW
        obtain ⟨v, I, hvn, rfl, hV, hO, hBw⟩ := hrel
        by_cases hlv : v < R.length
        · have hd2 : decide ((v : Int) < (R.length : Int)) = true := decide_eq_true (by omega)
          have HV : Hid (RchI R L I r v 0) := ⟨hV, hlv, fun i hi => absurd hi (Nat.not_lt_zero i)⟩
          obtain ⟨rb, ro, sa, sc, hga, hcell, _, _, hrd⟩ := HAT.out v hlv
          have HCL := Lib.hid hcell; have HRD := Lib.hid hrd; have HGA := Lib.hid hga
          have HO := Lib.hid hO; have HBW := Lib.hid hBw
          have hlen := HI.out.len v
          clear hV hO hBw hcell hrd hga
          go_wp2_with fail
          go_loopw [8] (fun i wr => ∃ (k : Nat) (I : List Bool), k ≤ (gR R v).length ∧ i = .int .i64 (k : Int) ∧ RchI R L I r v k ∧ OwnB wr W.heap.size (.slice (some ⟨g, 0, none⟩) R.length cp) I ∧ Below W.heap.size W wr) (fun i _ => (gR R v).length - (RowKit.intOf i).toNat)
          case atStart => exact ⟨0, _, Nat.zero_le _, rfl, HV.out, HO.out, HBW.out⟩
          case round =>
            clear HV HO HBW
            obtain ⟨k, I, hkn, rfl, hV, hO, hBw⟩ := hrel
            have hc0 := (hBw.cell (p := ⟨w.heap.size, 0, none⟩) hsz).trans hbx
            have hc1 := (hBw.cell (World.block_lt_of_cell? _ _ (HB.out.cell (World.block_lt_of_cell? _ _ HCL.out) |>.trans HCL.out))).trans ((HB.out.cell (World.block_lt_of_cell? _ _ HCL.out)).trans HCL.out)
            obtain rfl := HGA.out
            have i0 : (0 : Int) ≤ (v : Int) := by omega
            have i1 : (v : Int) < (R.length : Int) := by omega
            by_cases hlk : k < (gR R v).length
            · have j0 : (0 : Int) ≤ (k : Int) := by omega
              have j1 : (k : Int) < ((gR R v).length : Int) := by omega
              obtain ⟨sb, so, hsa, hcy⟩ := HRD.out.2 k hlk
              obtain ⟨hyq, hyl⟩ := gY_is HI.out hlk
              have hstep := hV.step HI.out hlk
              have hil := hV.t.len
              obtain ⟨hcv, hzv⟩ := hO.at hil hlv
              obtain ⟨hcz, _⟩ := hO.at hil hyl
              rw [hyq] at hcy
              have hcy := (hBw.cell (World.block_lt_of_cell? _ _ (HB.out.cell (World.block_lt_of_cell? _ _ hcy) |>.trans hcy))).trans ((HB.out.cell (World.block_lt_of_cell? _ _ hcy)).trans hcy)
              have y0 : (0 : Int) ≤ ((gY R v k : Nat) : Int) := by omega
              have y1 : ((gY R v k : Nat) : Int) < (R.length : Int) := by omega
              have hnx := fun b => hO.store hil v b
              have hbs := fun b => hBw.setCell (p := ⟨g, v, none⟩) hg (.bool b)
              have HNX := Lib.hid hnx; have HBS := Lib.hid hbs
              subst hsa
              generalize gY R v k = y at *
              generalize I.getD y false = b2 at *
              clear hnx hbs hyq hO hV
              cases hbv : I.getD v false with
              | true =>
                rw [hbv] at hcv hstep
                rw [Bool.true_or] at hstep
                have HST := Lib.hid hstep
                clear hstep hbv
                go_wp2_with fail
                go_roundw
                · exact ⟨k + 1, _, by omega, by go_num, HST.out, HNX.out true, HBS.out true⟩
                · simp [RowKit.intOf]; omega
              | false =>
                rw [hbv] at hcv hstep
                rw [Bool.false_or] at hstep
                have HST := Lib.hid hstep
                clear hstep hbv
                go_wp2_with fail
                go_roundw
                · exact ⟨k + 1, _, by omega, by go_num, HST.out, HNX.out b2, HBS.out b2⟩
                · simp [RowKit.intOf]; omega
            · obtain rfl : k = (gR R v).length := by omega
              have hd0 : decide (((gR R v).length : Int) < ((gR R v).length : Int)) = false := decide_eq_false (by omega)
              have HV := Lib.hid hV.leave; have HO := Lib.hid hO; have HBW := Lib.hid hBw
              clear hV hO hBw
              go_wp2_with fail
              go_roundw
              · exact ⟨v + 1, _, by omega, by go_num, HV.out, HO.out, HBW.out⟩
              · simp [RowKit.intOf]; omega
        · obtain rfl : v = R.length := by omega
          have hd0 : decide ((R.length : Int) < (R.length : Int)) = false := decide_eq_false (by omega)
          have HV := Lib.hid hV.next; have HO := Lib.hid hO; have HBW := Lib.hid hBw
          clear hV hO hBw
          go_wp2_with fail
          go_roundw
          · exact ⟨r + 1, _, by omega, by go_num, HV.out, HO.out, HBW.out⟩
          · simp [RowKit.intOf]; omega
    · obtain rfl : r = R.length := by omega
      have hd0 : decide ((R.length : Int) < (R.length : Int)) = false := decide_eq_false (by omega)
      have HV := Lib.hid hV; have HBW := Lib.hid hBw
      have hil := hV.len
      have hls := r13listed (some ⟨g, 0, none⟩) cp I wr hO.rd (by omega)
      rw [hil] at hls
      clear hV hO hBw
      go_wp2_with fail
      refine hls.mono ?_; clear hls; rintro e w5 ⟨u, rfl, ho, hb5⟩
      go_wp2_with fail
      go_ret
      exact ⟨u, I, rfl, own_low ho (Nat.le_trans (Nat.le_of_lt hsz) HBW.out.size), hil, HV.out.final, HB.out.trans ((HBW.out.trans (hb5.mono HBW.out.size)).mono (Nat.le_of_lt hsz))⟩
end Go.Proofs.YtbaeanpdjdcheaaGreat
