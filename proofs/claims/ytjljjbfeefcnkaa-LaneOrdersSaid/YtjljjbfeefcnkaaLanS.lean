/-
  LaneOrders of layer 10 answers true over a queue's contracts, for whatever number and texts. The conditions: the contracts.
-/
import Derived.Test.YtjljjbfeefcnkaaLanA
import Derived.Test.YtjljjbfeefcnkaaIntB0
import Derived.Deep.DeepCutAuto
import Derived.Deep.RegionHeld3
namespace Go.Proofs.Ytjljjbfeefcnkaa
open Go.RowKit
set_option linter.unusedSimpArgs false
set_option linter.unusedVariables false

/-- A slice of texts reads so. -/
def ReadsS (w : World) (a : Option Addr) (l : List ByteArray) : Prop := ∀ i, i < l.length → ∃ b off, a = some ⟨b, off, none⟩ ∧ w.cell? ⟨b, off + i, none⟩ = some (.string (l.getD i ⟨#[]⟩)) ∧ (l.getD i ⟨#[]⟩).size ≤ maxLen
theorem str_info10 : (Try.prog.info? 9).map (fun i => (i.zero, i.size, i.bytes)) = some (some (.string ⟨#[]⟩), 1, 16) := by kernel_rfl
/-- One queue of texts, and a row of texts that the call owns beside it. -/
def OneR (T : QueS) (w0 w : World) (B : Nat) (m : Int) (L : List ByteArray) (v : Value) (R : List ByteArray) : Prop :=
  ∃ F, T.Rep w B m L F ∧ Below w0.heap.size w0 w ∧ (∀ j, F j → w0.heap.size ≤ j) ∧ OwnO F w w0.heap.size 9 1 v R.length (R.map Value.string)
section
variable {T : QueS} {w0 w w' : World} {B : Nat} {m : Int} {L R : List ByteArray} {v : Value}
theorem OneR.hb (h : OneR T w0 w B m L v R) : Below w0.heap.size w0 w := by obtain ⟨_, _, h, _⟩ := h; exact h
theorem OneR.form (h : OneR T w0 w B m L v R) : ∃ a c, v = .slice a R.length c := by obtain ⟨_, _, _, _, h⟩ := h; exact (ownsRow_slc h.1).form
theorem OneR.inv (h : OneR T w0 w B m L v R) : 1 ≤ m ∧ m ≤ 1000 ∧ (L.length : Int) ≤ m := by obtain ⟨_, h, _⟩ := h; have := T.inv h; exact ⟨this.1, this.2.1, this.2.2.1⟩
theorem OneR.below (h : OneR T w0 w B m L v R) (hb : Below w.heap.size w w') : OneR T w0 w' B m L v R := by
  obtain ⟨F, h1, h2, h3, h4⟩ := h
  exact ⟨F, T.below h1 hb, h2.trans (hb.mono h2.size), h3, h4.below hb⟩
theorem OneR.put (h : OneR T w0 w B m L v R) (x : ByteArray) (hx : x.size ≤ maxLen) :
    Calls Try.prog 14 #[.pointer (some ⟨B, 0, none⟩), .string x] w fun e w' => e = .returned (.int .i64 (qpe L m)) ∧ OneR T w0 w' B m (qput L m x) v R := by
  obtain ⟨F, h1, h2, h3, h4⟩ := h
  exact (T.put x h1 hx).mono fun e w' ⟨he, F', r, t, f⟩ => ⟨he, F', r, h2.trans (t.below h3 h2.size), fun j q => (f j q).elim (h3 j) (fun q => Nat.le_trans h2.size q), h4.turn t (fun b q => (h4.2 b q).2) f⟩
theorem OneR.take (h : OneR T w0 w B m L v R) :
    Calls Try.prog 17 #[.pointer (some ⟨B, 0, none⟩)] w fun e w' => e = .returned (.tuple #[.string (L.headD ⟨#[]⟩), .bool (decide (0 < L.length))]) ∧ OneR T w0 w' B m L.tail v R := by
  obtain ⟨F, h1, h2, h3, h4⟩ := h
  exact (T.take h1).mono fun e w' ⟨he, F', r, t, f⟩ => ⟨he, F', r, h2.trans (t.below h3 h2.size), fun j q => (f j q).elim (h3 j) (fun q => Nat.le_trans h2.size q), h4.turn t (fun b q => (h4.2 b q).2) f⟩
theorem OneR.len (h : OneR T w0 w B m L v R) : Calls Try.prog 15 #[.pointer (some ⟨B, 0, none⟩)] w fun e w' => e = .returned (.int .i64 (L.length : Int)) ∧ Below w.heap.size w w' := by
  obtain ⟨F, h1, _⟩ := h; exact T.len h1
theorem OneR.room (h : OneR T w0 w B m L v R) : Calls Try.prog 16 #[.pointer (some ⟨B, 0, none⟩)] w fun e w' => e = .returned (.int .i64 m) ∧ Below w.heap.size w w' := by
  obtain ⟨F, h1, _⟩ := h; exact T.room h1
/-- The row is laid anew: one text more. -/
theorem OneR.push {F : Nat → Prop} {v' : Value} {s : ByteArray} (h1 : T.Rep w B m L F) (h2 : Below w0.heap.size w0 w) (h3 : ∀ j, F j → w0.heap.size ≤ j) (h4 : OwnO F w w0.heap.size 9 1 v R.length (R.map Value.string))
    (o : OwnO F w' w0.heap.size 9 1 v' (R.length + 1) (R.map Value.string ++ [.string s])) (t : Turn (fun j => v.ownBlock = some j) w w') : OneR T w0 w' B m L v' (R ++ [s]) :=
  ⟨F, T.turn h1 t (fun j q r => (h4.2 j r).2 q), h2.trans (t.below (fun j q => (World.ownsRow.lt h4.1 j q).1) h2.size), h3, by rw [List.length_append, List.map_append]; simpa using o⟩
theorem OneR.at (h : OneR T w0 w B m L v R) {j : Nat} (hj : j < R.length) : ∃ g c, v = .slice (some ⟨g, 0, none⟩) R.length c ∧ w.cell? ⟨g, j, none⟩ = some (.string (R.getD j ⟨#[]⟩)) := by
  obtain ⟨F, h1, h2, h3, h4⟩ := h
  rcases h4.1.2 with ⟨_, r⟩ | ⟨g, cap, cur, r, _⟩
  · omega
  · subst r
    refine ⟨g, cap, rfl, ?_⟩
    rw [h4.1.cellAt j (by omega)]
    simp [hj]
end
/-- What holds at the first loop's head. -/
structure LoRel (T : QueS) (w : World) (B : Nat) (m : Int) (z : Nat) (v i : Value) (wr : World) : Prop where
  out : ∃ (k : Nat) (L : List ByteArray), k ≤ z ∧ i = .int .i64 (k : Int) ∧ OneR T w wr B m L v L
/-- .. at the second one's. -/
structure LoRel2 (T : QueS) (w : World) (B : Nat) (m : Int) (L : List ByteArray) (v i : Value) (wr : World) : Prop where
  out : ∃ k : Nat, k ≤ L.length ∧ i = .int .i64 (k : Int) ∧ OneR T w wr B m (L.drop k) v L

set_option maxHeartbeats 8000000 in
set_option maxRecDepth 100000 in
theorem orders10 (TI : QueI) (hE : EithC TI) (hN : NilTake) (hP : NilPut) (T : QueS) (m : Int) (a : Option Addr) (c : Nat) (l : List ByteArray) (w : World) (hl : ReadsS w a l) (hm : InR m) (hbig : (l.length : Int) ≤ 9223372036854775807) :
    Calls Try.prog 4 #[.int .i64 m, .slice a l.length c] w fun e w' => e = .returned (.bool true) ∧ Below w.heap.size w w' := by
  have haw := l_awake TI hE hN hP
  by_cases ho : 1 ≤ m ∧ m ≤ 1000
  · have hnw := T.new_ok m w ho.1 ho.2
    by_cases h100 : 100 < l.length
    · clear hl hm
      go_enter Try.func4, Try.ntmps4
      go_wp2_with fail
      refine hnw.mono ?_; rintro e w1 ⟨B, F, rfl, hR, hb, hF⟩
      go_wp2_with fail
      refine (haw _).mono ?_; rintro e w2 ⟨rfl, hb2⟩
      go_wp2_with fail
      go_ret
      exact ⟨rfl, hb.trans (hb2.mono hb.size)⟩
    · have HL := Lib.hid hl; have HM := Lib.hid ho; have H1 := Lib.hid h100
      clear hl hm ho hbig
      go_enter Try.func4, Try.ntmps4
      go_wp2_with fail
      refine hnw.mono ?_; rintro e w1 ⟨B, F, rfl, hR, hb, hF⟩
      have H0 : Hid (LoRel T w B m l.length (.slice none 0 0) (.int .i64 0) w1) := ⟨⟨0, [], Nat.zero_le _, rfl, F, hR, hb, hF, OwnO.nil _ _ _ _ _⟩⟩
      clear hnw hR hb hF
      go_wp2_with fail
      go_loopw [7, 8] (fun v i wr => LoRel T w B m l.length v i wr) (fun _ i _ => l.length - (intOf i).toNat)
      case atStart => exact H0.out
      case round =>
        clear H0
        obtain ⟨k, L, hk, rfl, hR⟩ := hrel.out
        clear hrel
        by_cases hlt : k < l.length
        · obtain ⟨b, off, rfl, hc1, r1⟩ := HL.out k hlt
          have hbw : b < w.heap.size := World.block_lt_of_cell? w _ hc1
          generalize l.getD k ⟨#[]⟩ = s at *
          have HC : Hid (∀ wy, Below w.heap.size w wy → wy.cell? ⟨b, off + k, none⟩ = some (.string s)) := fun wy h => (h.cell (p := ⟨b, _, none⟩) hbw).trans hc1
          have c1 := HC.out _ hR.hb
          have i0 : (0 : Int) ≤ (k : Int) := by omega
          have i1 : (k : Int) < (l.length : Int) := by omega
          have hpu := hR.put s r1
          have hinv := hR.inv
          obtain ⟨a0, q0, rfl⟩ := hR.form
          have HLT := Lib.hid hlt
          clear hc1 r1 hR hlt hk hbw
          by_cases hfull : m ≤ (L.length : Int)
          · have e1 : qpe L m = 3 := by unfold qpe; rw [if_pos hfull]
            have e2 : qput L m s = L := by unfold qput; rw [if_pos hfull]
            rw [e1, e2] at hpu
            have d1 : decide ((L.length : Int) < m) = false := decide_eq_false (by omega)
            obtain rfl : m = (L.length : Int) := by omega
            have HI := Lib.hid hinv
            clear e1 e2 hfull hinv
            go_wp2_with fail
            refine hpu.mono ?_; rintro e w3 ⟨rfl, hR3⟩
            clear hpu c1
            have d2 : decide ((L.length : Int) < (L.length : Int)) = false := decide_eq_false (by omega)
            go_wp2_with fail
            refine (hR3.len).mono ?_; rintro e w4 ⟨rfl, hb4⟩
            have hR4 := hR3.below hb4
            go_wp2_with fail
            refine (hR4.len).mono ?_; rintro e w5 ⟨rfl, hb5⟩
            have hR5 := hR4.below hb5
            go_wp2_with fail
            refine (hR5.room).mono ?_; rintro e w6 ⟨rfl, hb6⟩
            have hR6 := hR5.below hb6
            go_wp2_with fail
            refine (hR6.room).mono ?_; rintro e w7 ⟨rfl, hb7⟩
            have hR7 := Lib.hid (hR6.below hb7)
            clear hb4 hb5 hb6 hb7 hR3 hR4 hR5 hR6
            go_wp2_with fail
            go_roundw
            · exact ⟨⟨k + 1, L, by have := HLT.out; omega, by go_num, hR7.out⟩⟩
            · have := HLT.out; simp [intOf]; omega
          · have e1 : qpe L m = 0 := by unfold qpe; rw [if_neg hfull]
            have e2 : qput L m s = L ++ [s] := by unfold qput; rw [if_neg hfull]
            rw [e1, e2] at hpu
            have d1 : decide ((L.length : Int) < m) = true := decide_eq_true (by omega)
            have d2 : decide (m < ((L.length + 1 : Nat) : Int)) = false := decide_eq_false (by omega)
            have HI := Lib.hid hinv
            clear e1 e2 hfull hinv
            go_wp2_with fail
            refine hpu.mono ?_; rintro e w3 ⟨rfl, hRp⟩
            have c1 := HC.out _ hRp.hb
            clear hpu
            obtain ⟨F, g1, g2, g3, g4⟩ := hRp
            have G1 := Lib.hid g1; have G2 := Lib.hid g2; have G3 := Lib.hid g3; have G4 := Lib.hid g4
            clear g1 g2 g3 g4
            go_wp2_with
              (at_builtin
               refine wpList_push1 rfl (.tmp 61) (.tmp 66) 43 rfl F w.heap.size 9 1 16 (.string ⟨#[]⟩) Try.underlying43 str_info10 rfl (by decide) [.string s] rfl _ _ _ rfl G4.out rfl (by intro u hu; simp at hu; subst hu; rfl) (by have := HI.out; omega) (by decide) G2.out.size (fun j q => T.foot G1.out j q) ?_
               intro v3 w4 o4 t4 l4
               obtain ⟨a3, q3, rfl⟩ := (ownsRow_slc o4.1).form
               have HP := Lib.hid (OneR.push G1.out G2.out G3.out G4.out o4 t4)
               clear o4 t4 l4)
            have hR3 := HP.out
            have hle : ((L.length + 1 : Nat) : Int) ≤ m := by have := of_decide_eq_true d1; omega
            clear HP G1 G2 G3 G4 HI d1 d2
            obtain ⟨L2, hL2⟩ : ∃ L2, L2 = L ++ [s] := ⟨_, rfl⟩
            have hn2 : L.length + 1 = L2.length := by rw [hL2]; simp
            rw [← hL2, hn2] at hR3
            rw [hn2] at hle ⊢
            clear hL2 hn2
            have d2 : decide (m < (L2.length : Int)) = false := decide_eq_false (by omega)
            go_wp2_with fail
            refine (hR3.len).mono ?_; rintro e w5 ⟨rfl, hb4⟩
            have hR4 := hR3.below hb4
            go_wp2_with fail
            refine (hR4.len).mono ?_; rintro e w6 ⟨rfl, hb5⟩
            have hR5 := hR4.below hb5
            go_wp2_with fail
            refine (hR5.room).mono ?_; rintro e w7 ⟨rfl, hb6⟩
            have hR6 := hR5.below hb6
            go_wp2_with fail
            refine (hR6.room).mono ?_; rintro e w8 ⟨rfl, hb7⟩
            have hR7 := Lib.hid (hR6.below hb7)
            clear hb4 hb5 hb6 hb7 hR3 hR4 hR5 hR6
            go_wp2_with fail
            go_roundw
            · exact ⟨⟨k + 1, L2, by have := HLT.out; omega, by go_num, hR7.out⟩⟩
            · have := HLT.out; simp [intOf]; omega
        · obtain rfl : k = l.length := by omega
          obtain ⟨a0, q0, rfl⟩ := hR.form
          have H2 : Hid (LoRel2 T w B m L (.slice a0 L.length q0) (.int .i64 0) wr) := ⟨⟨0, Nat.zero_le _, rfl, hR⟩⟩
          have hle : (L.length : Int) ≤ 1000 := by have := hR.inv; omega
          clear hR hlt hk
          go_wp2_with fail
          go_loopw [10] (fun i wr => LoRel2 T w B m L (.slice a0 L.length q0) i wr) (fun i _ => L.length - (intOf i).toNat)
          case atStart => exact H2.out
          case round =>
            clear H2
            obtain ⟨j, hj, rfl, hR⟩ := hrel.out
            clear hrel
            by_cases hlt : j < L.length
            · obtain ⟨g, q, he, hc⟩ := hR.at hlt
              cases he
              have hta := hR.take
              have e1 : (L.drop j).headD ⟨#[]⟩ = L.getD j ⟨#[]⟩ := by
                rw [List.drop_eq_getElem_cons hlt]; simp [List.getD, hlt]
              have e2 : decide (0 < (L.drop j).length) = true := decide_eq_true (by rw [List.length_drop]; omega)
              have e3 : (L.drop j).tail = L.drop (j + 1) := by simp
              rw [e1, e2, e3] at hta
              obtain ⟨s, hs⟩ : ∃ s, L.getD j ⟨#[]⟩ = s := ⟨_, rfl⟩
              rw [hs] at hta
              have i0 : (0 : Int) ≤ (j : Int) := by omega
              have i1 : (j : Int) < (L.length : Int) := by omega
              have HLT := Lib.hid hlt
              clear e1 e2 e3 hR hlt hj
              go_wp2_with fail
              refine hta.mono ?_; rintro e w3 ⟨rfl, hR3⟩
              obtain ⟨g2, q2, he, hc⟩ := hR3.at HLT.out
              rw [hs] at hc
              cases he
              have HR3 := Lib.hid hR3
              clear hta hR3
              go_wp2_with fail
              go_roundw
              · exact ⟨⟨j + 1, by have := HLT.out; omega, by go_num, HR3.out⟩⟩
              · have := HLT.out; simp [intOf]; omega
            · obtain rfl : j = L.length := by omega
              have hta := hR.take
              have e1 : L.drop L.length = [] := List.drop_length
              rw [e1] at hta
              clear hR hlt hj e1
              go_wp2_with fail
              refine hta.mono ?_; rintro e w3 ⟨rfl, hR3⟩
              have hb3 := hR3.hb
              clear hta hR3
              go_wp2_with fail
              refine (haw _).mono ?_; rintro e w4 ⟨rfl, hb4⟩
              go_wp2_with fail
              go_ret
              exact ⟨rfl, hb3.trans (hb4.mono hb3.size)⟩
  · have hnw := T.new_no m w ho
    clear hl hm ho hbig
    go_enter Try.func4, Try.ntmps4
    go_wp2_with fail
    refine hnw.mono ?_; rintro e w1 ⟨rfl, hb⟩
    by_cases h100 : 100 < l.length
    all_goals go_wp2_with fail
    all_goals (refine (haw _).mono ?_; rintro e w2 ⟨rfl, hb2⟩)
    all_goals go_wp2_with fail
    all_goals go_ret
    all_goals exact ⟨rfl, hb.trans (hb2.mono hb.size)⟩
end Go.Proofs.Ytjljjbfeefcnkaa
