/-
  The document's book of layer 16 as blocks; its without and Get. No conditions but the rows' lengths.
-/
import Derived.Test.YtmhfgkkiplencaaUndX
import Derived.Test.YtmhfgkkiplencaaPilM
namespace Go.Proofs.Ytmhfgkkiplencaa
open Go.RowKit
set_option linter.unusedSimpArgs false
set_option linter.unusedVariables false

theorem upair_info : (Try.prog.info? 59).map (fun i => (i.zero, i.size, i.bytes)) = some (some (.agg #[.int .i64 0, .int .i64 0]), 2, 16) := by kernel_rfl
theorem uone_p (w : World) (x y : Int) : SlC (w.alloc (.cells #[.int .i64 x, .int .i64 y] 59)) (.slice (some ⟨w.heap.size, 0, none⟩) 1 1) 2 1 (prs [(x, y)]) :=
  ownsRow_slc (World.ownsRow_lit (base := w.heap.size) (e := 59) (size := 2) w #[.int .i64 x, .int .i64 y] 1 (Nat.le_refl _) (by unfold maxLen; omega) rfl)
/-- A row of pairs reads so, and its block is none of G. -/
def SlXP (G : Nat → Prop) (w : World) (v : Value) (L : Prs) : Prop := SlP w v L ∧ (0 < L.length → ∀ b, v.ownBlock = some b → Out G w b)
/-- .. a row of such rows. -/
def RwX (G : Nat → Prop) (w : World) (v : Value) (T : List Prs) : Prop := ∃ us, SlC w v 1 T.length us ∧ (∀ i, i < T.length → SlXP G w (us.getD i undef) (T.getD i [])) ∧ (0 < T.length → ∀ b, v.ownBlock = some b → Out G w b)
/-- .. a book: the last beginning stands last. -/
def BkX (G : Nat → Prop) (w : World) (x : Value) (s : USt) : Prop := ∃ v u, x = .agg #[v, u] ∧ SlXP G w v s.1 ∧ RwX G w u s.2.reverse
section
variable {F G G' : Nat → Prop} {w w' : World}
theorem slc_turn {v : Value} {size n : Nat} {cs : List Value} (h : SlC w v size n cs) (t : Turn F w w') (hq : 0 < cs.length → ∀ q, v.ownBlock = some q → ¬ F q) : SlC w' v size n cs := by
  obtain ⟨a, cap, rfl, h2, h3, h4, h5⟩ := h
  refine ⟨a, cap, rfl, h2, h3, h4, fun i hi => ?_⟩
  obtain ⟨b, off, rfl, hc⟩ := h5 i hi
  refine ⟨b, off, rfl, ?_⟩
  rw [← hc]
  exact t.cell (a := ⟨b, off + i, none⟩) (World.block_lt_of_cell? w _ (hc.trans (List.getElem?_eq_getElem hi))) (hq (by omega) b rfl)
theorem SlXP.turn {v : Value} {L : Prs} (h : SlXP G w v L) (t : Turn F w w') (hF : ∀ j, F j → G j) (hG : ∀ j, G' j → G j ∨ w.heap.size ≤ j) : SlXP G' w' v L :=
  ⟨slc_turn h.1 t fun h0 q hq hf => (h.2 (by rw [prs_len] at h0; omega) q hq).2 (hF q hf), fun h0 b hb => (h.2 h0 b hb).turn (t.mono hF) hG⟩
theorem RwX.turn {v : Value} {T : List Prs} (h : RwX G w v T) (t : Turn F w w') (hF : ∀ j, F j → G j) (hG : ∀ j, G' j → G j ∨ w.heap.size ≤ j) : RwX G' w' v T := by
  obtain ⟨us, h1, h2, h3⟩ := h
  refine ⟨us, slc_turn h1 t fun h0 q hq hf => (h3 ?_ q hq).2 (hF q hf), fun i hi => (h2 i hi).turn t hF hG, fun h0 b hb => (h3 h0 b hb).turn (t.mono hF) hG⟩
  obtain ⟨_, _, _, _, _, h4, _⟩ := h1
  omega
theorem BkX.turn {x : Value} {s : USt} (h : BkX G w x s) (t : Turn F w w') (hF : ∀ j, F j → G j) (hG : ∀ j, G' j → G j ∨ w.heap.size ≤ j) : BkX G' w' x s := by
  obtain ⟨v, u, rfl, h1, h2⟩ := h
  exact ⟨v, u, rfl, h1.turn t hF hG, h2.turn t hF hG⟩
theorem SlXP.below {v : Value} {L : Prs} (h : SlXP G w v L) (hb : Below w.heap.size w w') : SlXP G w' v L := h.turn (F := fun _ => False) (Turn.of_below hb) (fun _ q => q.elim) fun _ q => Or.inl q
theorem RwX.below {v : Value} {T : List Prs} (h : RwX G w v T) (hb : Below w.heap.size w w') : RwX G w' v T := h.turn (F := fun _ => False) (Turn.of_below hb) (fun _ q => q.elim) fun _ q => Or.inl q
theorem BkX.below {x : Value} {s : USt} (h : BkX G w x s) (hb : Below w.heap.size w w') : BkX G w' x s := h.turn (F := fun _ => False) (Turn.of_below hb) (fun _ q => q.elim) fun _ q => Or.inl q
end
theorem RwX.form {G : Nat → Prop} {w : World} {v : Value} {T : List Prs} (h : RwX G w v T) : ∃ a c, v = .slice a T.length c := by
  obtain ⟨us, h1, _⟩ := h; exact h1.form
theorem BkX.nil (G : Nat → Prop) (w : World) : BkX G w (.agg #[.slice none 0 0, .slice none 0 0]) ([], []) :=
  ⟨_, _, rfl, ⟨SlP.nil w, fun h => (by cases h)⟩, [], SlC.nil w 1, fun i hi => (by cases hi), fun h => (by cases h)⟩

set_option maxHeartbeats 2000000 in
theorem r16wo (v : Value) (L : Prs) (k : Int) (w : World) (hv : SlP w v L) (hn : L.length ≤ 1000000) :
    Calls Try.prog 36 #[v, .int .i64 k] w fun e w' => ∃ u, e = .returned u ∧ w'.ownsRow w.heap.size 59 2 u (uwo L k).length (prs (uwo L k)) ∧ Below w.heap.size w w' := by
  obtain ⟨a, c, rfl⟩ := hv.form
  have HL := Lib.hid hv; clear hv
  go_enter Try.func36, Try.ntmps36
  go_wp2_with fail
  go_loopw [5, 6] (fun v i wr => ∃ n : Nat, n ≤ L.length ∧ i = .int .i64 (n : Int) ∧ wr.ownsRow w.heap.size 59 2 v (uwo (L.take n) k).length (prs (uwo (L.take n) k)) ∧ Below w.heap.size w wr) (fun _ i _ => L.length - (intOf i).toNat)
  case atStart => exact ⟨0, Nat.zero_le _, rfl, World.ownsRow_nil _ _ _ _, Below.refl _ _⟩
  case round =>
    obtain ⟨n, hk, rfl, ho, hb⟩ := hrel
    by_cases hlt : n < L.length
    · obtain ⟨b, off, rfl, hc, hd⟩ := (HL.out.below hb).cell n hlt
      have i0 : (0 : Int) ≤ (n : Int) := by omega
      have i1 : (n : Int) < (L.length : Int) := by omega
      have hst : uwo (L.take (n + 1)) k = if (L.getD n (0, 0)).1 = k then uwo (L.take n) k else uwo (L.take n) k ++ [L.getD n (0, 0)] := by
        rw [List.take_succ_eq_append_getElem hlt, uwo_snoc, List.getD_eq_getElem?_getD, List.getElem?_eq_getElem hlt]; rfl
      have hle : (uwo (L.take n) k).length ≤ 1000000 := Nat.le_trans (List.length_filter_le _ _) (by rw [List.length_take]; omega)
      generalize hz : L.getD n (0, 0) = z at *
      obtain ⟨p, q⟩ := z
      have HLT := Lib.hid hlt
      have HB := Lib.hid hb
      have HLE := Lib.hid hle
      have HO := Lib.hid ho
      by_cases hpk : p = k
      · rw [if_pos hpk] at hst
        have HST := Lib.hid hst
        have e0 : (p == k) = true := by simp [hpk]
        clear hst hpk hz hk hlt hle ho hb
        go_wp2_with fail
        go_roundw
        · exact ⟨n + 1, HLT.out, by go_num, by rw [HST.out]; exact HO.out, HB.out⟩
        · have := HLT.out; simp [intOf]; omega
      · rw [if_neg hpk] at hst
        have HST := Lib.hid hst
        have e0 : (p == k) = false := by simpa using hpk
        clear hst hpk hz hk hlt hle ho hb
        go_wp2_with (at_builtin; refine wpList_app rfl (.tmp 20) (.tmp 25) 26 rfl w.heap.size 59 2 16 (.agg #[.int .i64 0, .int .i64 0]) Try.underlying26 upair_info rfl (by decide) u5 _ _ rfl (HO.out.alloc _) (.slice (some ⟨wr.heap.size, 0, none⟩) 1 1) 1 (prs [(p, q)]) rfl (uone_p wr p q) (prs_one _) (by have := HLE.out; omega) (by decide) (by have := HB.out.size; simp; omega) ?_; intro v' w' hown' hbel hgr)
        have HB2 := Lib.hid (HB.out.trans ((((Below.refl _ _).alloc HB.out.size _)).trans hbel))
        have HO2 := Lib.hid hown'
        clear hown' hbel hgr
        go_wp2_with fail
        go_roundw
        · exact ⟨n + 1, HLT.out, by go_num, by rw [HST.out, List.length_append, ← prs_app]; exact HO2.out, HB2.out⟩
        · have := HLT.out; simp [intOf]; omega
    · obtain rfl : n = L.length := by omega
      have hd0 : decide ((L.length : Int) < (L.length : Int)) = false := decide_eq_false (by omega)
      rw [List.take_length] at ho
      go_wp2_with fail
      go_ret
      exact ⟨_, rfl, ho, hb⟩
end Go.Proofs.Ytmhfgkkiplencaa
