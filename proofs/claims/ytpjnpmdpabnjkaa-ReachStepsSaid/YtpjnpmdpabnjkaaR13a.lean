/-
  What the document's own begun and listed (gavelkindref13) answer. The conditions: no more than 20000 nodes, 10^6 numbers.
-/
import Derived.Test.YtpjnpmdpabnjkaaRchN
import Derived.Test.YtpjnpmdpabnjkaaIntB0
import Derived.Test.YtpjnpmdpabnjkaaRefIg
import Derived.Test.YtpjnpmdpabnjkaaRefHs1
namespace Go.Proofs.Ytpjnpmdpabnjkaa
open Go.RowKit
set_option linter.unusedSimpArgs false
set_option linter.unusedVariables false

theorem bool_info : (Try.prog.info? 4).map (fun i => (i.zero, i.size, i.bytes)) = some (some (.bool false), 1, 1) := by kernel_rfl
/-- A row of truths that the call owns. -/
def OwnB (w : World) (base : Nat) (v : Value) (I : List Bool) : Prop := w.ownsRow base 4 1 v I.length (I.map Value.bool)
theorem OwnB.below {w w' : World} {base : Nat} {v : Value} {I : List Bool} (h : OwnB w base v I) (hb : Below w.heap.size w w') : OwnB w' base v I := ownsRow_below h hb
theorem OwnB.low {w : World} {a b : Nat} {v : Value} {I : List Bool} (h : OwnB w a v I) (hb : b ≤ a) : OwnB w b v I :=
  ⟨h.1, h.2.imp id fun ⟨g, cap, cur, e, q, r⟩ => ⟨g, cap, cur, e, Nat.le_trans hb q, r⟩⟩
theorem OwnB.form {w : World} {base : Nat} {v : Value} {I : List Bool} (h : OwnB w base v I) (hn : 0 < I.length) : ∃ g c, v = .slice (some ⟨g, 0, none⟩) I.length c ∧ base ≤ g := by
  rcases h.2 with ⟨_, q⟩ | ⟨g, cap, cur, q1, q2, _⟩
  · omega
  · exact ⟨g, cap, q1, q2⟩
theorem OwnB.at {w : World} {base g c : Nat} {I : List Bool} {n : Nat} (h : OwnB w base (.slice (some ⟨g, 0, none⟩) n c) I) (hn : I.length = n) {v : Nat} (hv : v < n) : w.cell? ⟨g, v, none⟩ = some (.bool (I.getD v false)) ∧ w.frozen? ⟨g, v, none⟩ = false := by
  subst hn
  refine ⟨?_, World.ownsRow.frozenAt h v⟩
  rw [World.ownsRow.cellAt h v (by omega)]
  simp [List.getD, hv]
theorem OwnB.store {w : World} {base g c : Nat} {I : List Bool} {n : Nat} (h : OwnB w base (.slice (some ⟨g, 0, none⟩) n c) I) (hn : I.length = n) (v : Nat) (b : Bool) : OwnB (w.setCell ⟨g, v, none⟩ (.bool b)) base (.slice (some ⟨g, 0, none⟩) n c) (I.set v b) := by
  subst hn
  have := (World.ownsRow.stored h v (.bool b)).1
  unfold OwnB
  rw [List.map_set, List.length_set]; exact this
theorem begn_step (k : Nat) (L : List Int) : begn (k + 1) L = begn k L ++ [decide (((k : Nat) : Int) ∈ L)] := by simp [begn, List.range_succ]
set_option maxHeartbeats 1000000 in
theorem r13begun {w : World} {x : Value} {R : List (List Int)} (h : GRef w x R) (hR : R.length ≤ 20000) (a : Option Addr) (c : Nat) (L : List Int) (hr : Reads w a L) (hn : L.length ≤ 1000000) :
    Calls Try.prog 25 #[x, .slice a L.length c] w fun e w' => ∃ u, e = .returned u ∧ OwnB w' w.heap.size u (begn R.length L) ∧ Below w.heap.size w w' := by
  obtain ⟨ga, gc, us, rfl, _⟩ := h
  have hb := below1 w (.cells #[.slice ga R.length gc] 29)
  have hbx : (w.alloc (.cells #[.slice ga R.length gc] 29)).cell? ⟨w.heap.size, 0, none⟩ = some (.slice ga R.length gc) := by simp
  have hsz : w.heap.size < (w.alloc (.cells #[.slice ga R.length gc] 29)).heap.size := by simp
  have HR := Lib.hid (hr.below hb); have HB := Lib.hid hb
  clear hr hb
  go_enter Try.func25, Try.ntmps25
  go_wp2_with fail
  generalize w.alloc (.cells #[.slice ga R.length gc] 29) = W at *
  go_loopw [5, 6] (fun v i wr => ∃ k : Nat, k ≤ R.length ∧ i = .int .i64 (k : Int) ∧ OwnO (fun _ => False) wr W.heap.size 4 1 v k ((begn k L).map Value.bool) ∧ Below W.heap.size W wr) (fun _ i _ => R.length - (intOf i).toNat)
  case atStart => exact ⟨0, Nat.zero_le _, rfl, OwnO.nil _ _ _ _ _, Below.refl _ _⟩
  case round =>
    obtain ⟨k, hk, rfl, hown, hbw⟩ := hrel
    have hc := (hbw.cell (p := ⟨w.heap.size, 0, none⟩) hsz).trans hbx
    by_cases hlt : k < R.length
    · have i1 : decide ((k : Int) < (R.length : Int)) = true := decide_eq_true (by omega)
      have hhas := has_any a c L (k : Int) wr (HR.out.below hbw) (by omega)
      have hst := Lib.hid (begn_step k L)
      obtain ⟨b, hbb⟩ : ∃ b, b = decide (((k : Nat) : Int) ∈ L) := ⟨_, rfl⟩
      rw [← hbb] at hst hhas
      have HBB := Lib.hid hbb
      clear hbb
      have HO := Lib.hid hown; have HBW := Lib.hid hbw
      have hs2 : W.heap.size ≤ wr.heap.size := hbw.size
      clear hown hbw
      go_wp2_with fail
      refine hhas.mono ?_; clear hhas; rintro e w2 ⟨rfl, rfl⟩
      go_wp2_with
        (at_builtin
         refine wpList_push1 rfl (.tmp 14) (.tmp 18) 52 rfl (fun _ => False) W.heap.size 4 1 1 (.bool false) Try.underlying52 bool_info rfl (by decide) [.bool b] rfl _ _ _ rfl HO.out rfl (by intro u hu; simp at hu; subst hu; rfl) (by omega) (by decide) hs2 (fun j q => q.elim) ?_
         intro v4 w4 o4 t4 l4
         have B4 := Lib.hid (HBW.out.trans (t4.below (fun j q => (World.ownsRow.lt HO.out.1 j q).1) hs2))
         have O4 := Lib.hid o4
         clear o4 t4 l4)
      go_roundw
      · exact ⟨k + 1, by omega, by go_num, by rw [hst.out, List.map_append]; exact O4.out, B4.out⟩
      · simp [intOf]; omega
    · obtain rfl : k = R.length := by omega
      have hd0 : decide ((R.length : Int) < (R.length : Int)) = false := decide_eq_false (by omega)
      have HO := Lib.hid hown; have HBW := Lib.hid hbw
      clear hown hbw
      go_wp2_with fail
      go_ret
      exact ⟨_, rfl, OwnB.low (a := W.heap.size) (by unfold OwnB; rw [begn_len]; exact HO.out.1) (Nat.le_of_lt hsz), HB.out.trans (HBW.out.mono (Nat.le_of_lt hsz))⟩
/-- A slice reads as these truths. -/
def ReadsB (w : World) (a : Option Addr) (I : List Bool) : Prop := ∀ k, k < I.length → ∃ b off, a = some ⟨b, off, none⟩ ∧ w.cell? ⟨b, off + k, none⟩ = some (.bool (I.getD k false))
theorem OwnB.reads {w : World} {base : Nat} {v : Value} {I : List Bool} (h : OwnB w base v I) : ∃ a c, v = .slice a I.length c ∧ ReadsB w a I := by
  rcases h.2 with ⟨rfl, h0⟩ | ⟨g, cap, cur, rfl, _⟩
  · exact ⟨none, 0, by rw [h0], fun k hk => by omega⟩
  · exact ⟨_, _, rfl, fun k hk => ⟨g, 0, rfl, by rw [Nat.zero_add]; exact (OwnB.at h rfl hk).1⟩⟩
theorem OwnB.rd {w : World} {base n c : Nat} {a : Option Addr} {I : List Bool} (h : OwnB w base (.slice a n c) I) : ReadsB w a I := by
  obtain ⟨a', c', e, hr⟩ := h.reads
  injection e with e1
  rw [e1]; exact hr
set_option maxHeartbeats 1000000 in
theorem r13listed (a : Option Addr) (c : Nat) (I : List Bool) (w : World) (hr : ReadsB w a I) (hn : I.length ≤ 20000) :
    Calls Try.prog 26 #[.slice a I.length c] w fun e w' => ∃ u, e = .returned u ∧ Own w' w.heap.size u (lst I) ∧ Below w.heap.size w w' := by
  have HR := Lib.hid hr
  clear hr
  go_enter Try.func26, Try.ntmps26
  go_wp2_with fail
  go_loopw [3, 4] (fun l i wr => ∃ k : Nat, k ≤ I.length ∧ i = .int .i64 (k : Int) ∧ Own wr w.heap.size l (lstk I k) ∧ Below w.heap.size w wr) (fun _ i _ => I.length - (intOf i).toNat)
  case atStart => exact ⟨0, Nat.zero_le _, rfl, Own.nil _ _, Below.refl _ _⟩
  case round =>
    obtain ⟨k, hk, rfl, hown, hb⟩ := hrel
    by_cases hlt : k < I.length
    · obtain ⟨b, off, rfl, hc⟩ := HR.out k hlt
      have hc := (hb.cell (World.block_lt_of_cell? _ _ hc)).trans hc
      have i0 : (0 : Int) ≤ (k : Int) := by omega
      have i1 : (k : Int) < (I.length : Int) := by omega
      have hst := lstk_step I k
      have hle := lstk_len I k
      have hsz := hb.size
      cases hz : I.getD k false with
      | false =>
        rw [hz] at hc hst
        rw [if_neg (by simp)] at hst
        have HO := Lib.hid hown; have HB := Lib.hid hb
        have HST := Lib.hid hst
        clear hown hb hst hz
        go_wp2_with fail
        go_roundw
        · exact ⟨k + 1, by omega, by go_num, by rw [HST.out]; exact HO.out, HB.out⟩
        · simp [intOf]; omega
      | true =>
        rw [hz] at hc hst
        rw [if_pos rfl] at hst
        have HO := Lib.hid hown; have HB := Lib.hid hb
        have HST := Lib.hid hst
        clear hown hb hst hz
        go_wp2_with
          (at_builtin
           refine wp_push wr rfl (.tmp 15) (.tmp 17) rfl w.heap.size _ (lstk I k) (k : Int) rfl HO.out rfl (by omega) hsz ?_
           intro v4 w4 o4 b4
           have O4 := Lib.hid o4; have B4 := Lib.hid (HB.out.trans b4)
           clear o4 b4)
        go_roundw
        · exact ⟨k + 1, by omega, by go_num, by rw [HST.out]; exact O4.out, B4.out⟩
        · simp [intOf]; omega
    · obtain rfl : k = I.length := by omega
      have hd0 : decide ((I.length : Int) < (I.length : Int)) = false := decide_eq_false (by omega)
      have HO := Lib.hid hown; have HB := Lib.hid hb
      clear hown hb
      go_wp2_with fail
      go_ret
      exact ⟨_, rfl, HO.out, HB.out⟩
end Go.Proofs.Ytpjnpmdpabnjkaa
