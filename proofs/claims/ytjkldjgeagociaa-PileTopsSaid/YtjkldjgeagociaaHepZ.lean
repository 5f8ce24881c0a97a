/-
  The landed pile: what its sorting answers; what a pile that is none answers. No conditions.
-/
import Derived.Test.YtjkldjgeagociaaHepX
import Derived.Test.YtjkldjgeagociaaRefIe
import Derived.Test.YtjkldjgeagociaaIntB0
import Derived.OwnWalk
namespace Go.Proofs.Ytjkldjgeagociaa
open Go.RowKit
set_option linter.unusedSimpArgs false
set_option linter.unusedVariables false

theorem RepH.below {w w' : World} {B n : Nat} {L : List (Int × Int)} {F : Nat → Prop} (h : RepH w B n L F) (hb : Below w.heap.size w w') : RepH w' B n L F :=
  h.keep hb.size (fun j hj => hb.block j (h.foot j hj))
theorem put_r {w : World} {B n : Nat} {L : List (Int × Int)} {F : Nat → Prop} (x y : Int) (h : RepH w B n L F) (hn : n < 20000) : Calls Try.prog 24 #[.pointer (some ⟨B, 0, none⟩), .agg #[.int .i64 x, .int .i64 y]] w fun e w' =>
    e = .returned (.tuple #[]) ∧ ∃ F', RepH w' B (n + 1) (L ++ [(x, y)]) F' ∧ Turn F w w' ∧ ∀ j, F' j → F j ∨ w.heap.size ≤ j := by
  obtain ⟨H, K, p, b, v, h, h2, h3, h4, h5, rfl⟩ := h
  have hlen := len_of h3 h4
  refine (put_9 x y h h2 (by omega) h5.1 (by omega)).mono ?_
  rintro e w2 ⟨rfl, H', v', hpm, hhp, hT, ht, hF⟩
  refine ⟨rfl, _, ⟨H', K ++ [(x, y, p)], p + 1, b, v', hT, hhp, (h3.append_right _).trans hpm.symm, h4.push x y, ?_, rfl⟩, ht, hF⟩
  rw [List.length_append, List.length_singleton]
  omega
theorem take_r {w : World} {B n : Nat} {L : List (Int × Int)} {F : Nat → Prop} (h : RepH w B n L F) (h0 : 0 < L.length) : Calls Try.prog 25 #[.pointer (some ⟨B, 0, none⟩)] w fun e w' =>
    e = .returned (.agg #[.int .i64 (peekv L).1, .int .i64 (peekv L).2]) ∧ ∃ F', RepH w' B n (popv L) F' ∧ Turn F w w' ∧ ∀ j, F' j → F j := by
  obtain ⟨H, K, p, b, v, h, h2, h3, h4, h5, rfl⟩ := h
  have hlen := len_of h3 h4
  obtain ⟨hpk, K', h6, h7⟩ := h4.pop h3 h2 h0
  have hpl := popv_len h0
  rw [hpk]
  refine (take_9 h h2 (by omega) (by omega)).mono ?_
  rintro e w5 ⟨rfl, H', v', hpm, hhp, hT, ht, hF⟩
  exact ⟨rfl, _, ⟨H', K', p, b, v', hT, hhp, h7.trans hpm.symm, h6, by omega, rfl⟩, ht, hF⟩

/-- At the head of the loop that puts. -/
structure SrtA (w : World) (B : Nat) (L : List (Int × Int)) (i : Value) (wr : World) : Prop where
  out : ∃ (k : Nat) (F : Nat → Prop), k ≤ L.length ∧ i = .int .i64 (k : Int) ∧ RepH wr B k (L.take k) F ∧ Below w.heap.size w wr ∧ (∀ j, F j → w.heap.size ≤ j)
/-- At the head of the loop that takes. -/
structure SrtB (w : World) (B : Nat) (L : List (Int × Int)) (v i : Value) (wr : World) : Prop where
  out : ∃ (k : Nat) (F : Nat → Prop), k ≤ L.length ∧ i = .int .i64 (k : Int) ∧ RepH wr B L.length (sortAt L k).2 F ∧ OwnO F wr w.heap.size 25 2 v k (prs (sortAt L k).1) ∧ Below w.heap.size w wr ∧ (∀ j, F j → w.heap.size ≤ j)
theorem take_up (L : List (Int × Int)) (k : Nat) (h : k < L.length) : L.take k ++ [((L.getD k (0, 0)).1, (L.getD k (0, 0)).2)] = L.take (k + 1) := by
  have e : L.getD k (0, 0) = L[k] := by simp [List.getD, h]
  rw [List.take_add_one, List.getElem?_eq_getElem h, e]
  rfl

set_option maxHeartbeats 4000000 in
set_option maxRecDepth 100000 in
theorem hSP : SortC := by
  intro v L w hv hin hmax
  have hnw := hTP.new_ok w
  have HV := Lib.hid hv
  obtain ⟨a, c, rfl⟩ := hv.form
  clear hv hin
  go_enter Try.func13, Try.ntmps13
  go_wp2_with fail
  refine hnw.mono ?_; rintro e w1 ⟨B, F1, rfl, hR1, hb1, hF1⟩
  clear hnw
  go_wp2_with fail
  have H0 : Hid (SrtA w B L (.int .i64 0) w1) := ⟨⟨0, F1, Nat.zero_le _, rfl, hR1, hb1, hF1⟩⟩
  clear hR1 hb1 hF1
  go_loopw [15] (fun i wr => SrtA w B L i wr) (fun i _ => L.length - (intOf i).toNat)
  case atStart => exact H0.out
  case round =>
    clear H0
    obtain ⟨k, F, hk, rfl, hR, hB, hF⟩ := hrel.out
    clear hrel
    by_cases hlt : k < L.length
    · obtain ⟨b, off, rfl, c0, c1⟩ := (HV.out.below hB).cell k hlt
      have hup := take_up L k hlt
      have i0 : (0 : Int) ≤ (k : Int) := by omega
      have i1 : (k : Int) < (L.length : Int) := by omega
      generalize (L.getD k (0, 0)).1 = x at *
      generalize (L.getD k (0, 0)).2 = y at *
      have hb0 := below1 wr (.cells #[.int .i64 x, .int .i64 y] 25)
      have hpu := put_r x y (hR.below hb0) (by omega)
      rw [hup] at hpu
      have f1 : (wr.alloc (.cells #[.int .i64 x, .int .i64 y] 25)).cell? ⟨wr.heap.size, 0, none⟩ = some (.int .i64 x) := by simp [go_sem]
      have f2 : (wr.alloc (.cells #[.int .i64 x, .int .i64 y] 25)).cell? ⟨wr.heap.size, 1, none⟩ = some (.int .i64 y) := by simp [go_sem]
      have HB := Lib.hid (hB.trans (hb0.mono hB.size))
      have HF := Lib.hid hF; have HLT := Lib.hid hlt
      clear hup hR hB hF hlt hk hb0
      go_wp2_with fail
      refine hpu.mono ?_; rintro e w3 ⟨rfl, F', hR', ht, hF'⟩
      have HR' := Lib.hid hR'
      have HB3 := Lib.hid (HB.out.trans (ht.below HF.out HB.out.size))
      have HF3 : Hid (∀ j, F' j → w.heap.size ≤ j) := fun j q => (hF' j q).elim (HF.out j) (fun q => Nat.le_trans HB.out.size q)
      clear hR' ht hF' hpu
      go_wp2_with fail
      go_roundw
      · exact ⟨⟨k + 1, F', HLT.out, by go_num, HR'.out, HB3.out, HF3.out⟩⟩
      · have := HLT.out; simp [intOf]; omega
    · obtain rfl : k = L.length := by omega
      rw [List.take_length] at hR
      have HR := Lib.hid hR; have HB := Lib.hid hB; have HF := Lib.hid hF
      have hsz := hB.size
      obtain ⟨ii, hi, hz0, hz1, hz2⟩ := info_parts pair_info
      clear hR hB hF hk
      have d0 : decide ((L.length : Int) < (L.length : Int)) = false := decide_eq_false (by omega)
      go_wp2_with (at_make; refine wpList_make_own _ rfl _ _ 28 rfl w.heap.size 25 ii (.agg #[.int .i64 0, .int .i64 0]) 2 Try.underlying28 hi hz0 hz1 .i64 .i64 _ L.length rfl rfl rfl (by rw [hz2]; omega) (by unfold maxLen; omega) hsz ?_; intro w5 hown5 hgrow5)
      have hb5 : Below wr.heap.size wr w5 := (Below.refl _ wr).grown hgrow5 (Nat.le_refl _) (fun k h => by cases h)
      have H1 : Hid (SrtB w B L (.slice (some ⟨wr.heap.size, 0, none⟩) 0 L.length) (.int .i64 0) w5) := ⟨⟨0, F, Nat.zero_le _, rfl, HR.out.below hb5, ⟨hown5, fun q r => by cases r; exact ⟨(World.ownsRow.lt hown5 _ rfl).2, fun r => Nat.lt_irrefl _ (HR.out.foot _ r)⟩⟩, HB.out.trans (hb5.mono HB.out.size), HF.out⟩⟩
      clear hown5 hgrow5 hb5 HR HB HF hsz hi hz0 hz1 hz2 d0
      go_loopw [8, 28] (fun v i wr => SrtB w B L v i wr) (fun _ i _ => L.length - (intOf i).toNat)
      case atStart => exact H1.out
      case round =>
        clear H1
        obtain ⟨k, F, hk, rfl, hR, hO, hB, hF⟩ := hrel.out
        clear hrel
        by_cases hlt : k < L.length
        · have hlen := sortAt_len L k (by omega)
          have htk := take_r hR (by omega)
          have HE : Hid (sortAt L (k + 1) = ((sortAt L k).1 ++ [peekv (sortAt L k).2], popv (sortAt L k).2)) := rfl
          have i0 : (0 : Int) ≤ (k : Int) := by omega
          have i1 : (k : Int) < (L.length : Int) := by omega
          have HLT := Lib.hid hlt
          generalize (sortAt L k).2 = R at *
          generalize (sortAt L k).1 = S at *
          generalize peekv R = z at *
          generalize popv R = R2 at *
          have HO := Lib.hid hO; have HB := Lib.hid hB; have HF := Lib.hid hF
          clear hR hO hB hF hk hlen hlt
          go_wp2_with fail
          refine htk.mono ?_; rintro e w3 ⟨rfl, F', hR', ht, hF'⟩
          have HR' := Lib.hid hR'
          have HB3 := Lib.hid (HB.out.trans (ht.below HF.out HB.out.size))
          have HF3 : Hid (∀ j, F' j → w.heap.size ≤ j) := fun j q => HF.out j (hF' j q)
          have HO3 := Lib.hid (HO.out.turn ht (fun b q => (HO.out.2 b q).2) (fun j q => Or.inl (hF' j q)))
          have hbs : w.heap.size ≤ w3.heap.size := HB3.out.size
          have hft := hR'.foot
          clear hR' ht hF' htk HO
          go_wp2_with
            (at_builtin
             refine wpList_push1 rfl (.tmp 30) (.tmp 33) 28 rfl F' w.heap.size 25 2 16 (.agg #[.int .i64 0, .int .i64 0]) Try.underlying28 pair_info rfl (by decide) [.int .i64 z.1, .int .i64 z.2] rfl _ _ _ rfl HO3.out rfl (by intro u hu; simp at hu; rcases hu with rfl | rfl <;> rfl) (by omega) (by decide) hbs hft ?_
             intro v4 w4 o4 t4 l4
             have HR4 := Lib.hid (HR'.out.keep t4.size (fun j q => t4.block j (HR'.out.foot j q) (fun r => (HO3.out.2 j r).2 q)))
             have HO4 := Lib.hid o4
             have HB4 := Lib.hid (HB3.out.trans (t4.below (fun j q => (World.ownsRow.lt HO3.out.1 j q).1) hbs))
             clear o4 t4 l4)
          go_roundw
          · refine ⟨⟨k + 1, F', HLT.out, by go_num, ?_, ?_, HB4.out, HF3.out⟩⟩
            · rw [HE.out]; exact HR4.out
            · rw [HE.out]
              have h := HO4.out
              rw [← prs_app]
              exact h
          · have := HLT.out; simp [intOf]; omega
        · obtain rfl : k = L.length := by omega
          have d0 : decide ((L.length : Int) < (L.length : Int)) = false := decide_eq_false (by omega)
          have HS := Lib.hid (ownsRow_slc hO.1); have HB := Lib.hid hB
          have hlen := (sortAt_len L L.length (Nat.le_refl _)).1
          clear hO hB hF hR
          go_wp2_with fail
          go_ret
          refine ⟨_, rfl, ?_, HB.out⟩
          show SlC _ _ _ _ _
          unfold sortv
          rw [hlen]
          exact HS.out
theorem hOP : NilPop := nil_pop
theorem hUP : NilPush := nil_push
end Go.Proofs.Ytjkldjgeagociaa
