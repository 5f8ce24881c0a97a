/-
  The library's IndexFunc and ContainsFunc over a closure that captures one place; what a Set's fault is. The conditions: the graph's blocks.
-/
import Derived.Test.YtbaeanpdjdcheaaGreatGrB
namespace Go.Proofs.YtbaeanpdjdcheaaGreat
open Go.RowKit MapSets
set_option linter.unusedSimpArgs false
set_option linter.unusedVariables false

/-- A slice of numbers whose cells, if it has some, lie outside F. -/
def SlX (F : Nat → Prop) (w : World) (v : Value) (L : List Int) : Prop := Sl w v L ∧ (L ≠ [] → ∀ b, v.ownBlock = some b → Out F w b)
theorem SlX.turn {F F' : Nat → Prop} {w w' : World} {v : Value} {L : List Int} (h : SlX F w v L) (t : Turn F w w') (hF : ∀ k, F' k → F k ∨ w.heap.size ≤ k) : SlX F' w' v L := by
  obtain ⟨⟨a, cap, rfl, h2, h3, h4, h5⟩, ho⟩ := h
  refine ⟨⟨a, cap, rfl, h2, h3, h4, fun i hi => ?_⟩, fun hn b hb => (ho hn b hb).turn t hF⟩
  obtain ⟨b, off, rfl, hc⟩ := h5 i hi
  have hn : L ≠ [] := fun e => by rw [e] at hi; cases hi
  exact ⟨b, off, rfl, (t.cell (a := ⟨b, off + i, none⟩) (ho hn b rfl).1 (ho hn b rfl).2).trans hc⟩
theorem SlX.below {F : Nat → Prop} {w w' : World} {v : Value} {L : List Int} (h : SlX F w v L) (hb : Below w.heap.size w w') : SlX F w' v L := ⟨h.1.below hb, fun hn b q => (h.2 hn b q).below hb⟩
theorem slx_of {F : Nat → Prop} {w : World} {v : Value} {L : List Int} (h : Sl w v L) (hF : ∀ j, F j → w.heap.size ≤ j) : SlX F w v L := by
  refine ⟨h, fun hn b hb => ?_⟩
  obtain ⟨a, cap, rfl, h2, h3, h4, h5⟩ := h
  obtain ⟨b', off, rfl, hc⟩ := h5 0 (List.length_pos_iff.2 hn)
  cases hb
  have := World.block_lt_of_cell? w _ hc
  exact ⟨this, fun q => by have := hF _ q; simp at *; omega⟩
/-- What a call has made lies outside F. -/
theorem slx_own {F : Nat → Prop} {w : World} {base : Nat} {v : Value} {L : List Int} (h : Own w base v L) (hL : ∀ z ∈ L, InR z) (hF : ∀ j, F j → j < base) : SlX F w v L :=
  ⟨h.sl hL, fun _ b hb => ⟨(World.ownsRow.lt h b hb).2, fun q => by have := hF b q; have := (World.ownsRow.lt h b hb).1; omega⟩⟩
set_option maxHeartbeats 1000000 in
theorem idxf (F : FuncId) (pv : Value) (he : ∀ args w, (callFunc F args).run Tryz.prog w = .ok (.enter F args) w) (a : Option Addr) (c : Nat) (L : List Int) (w : World) (J : Nat → World → Prop) (p : Nat → Bool) (hn : L.length ≤ 1000000)
    (hR : ∀ k W, J k W → Reads W a L) (hY : ∀ k W, k < L.length → J k W → Calls Tryz.prog F #[.int .i64 (L.getD k 0), pv] W fun e W' => e = .returned (.bool (p k)) ∧ J (k + 1) W') (h0 : J 0 w) :
    Calls Tryz.prog 70 #[.slice a L.length c, .func (.func F) #[] #[pv]] w fun e w' => ∃ (i : Int) (k : Nat), e = .returned (.int .i64 i) ∧ k ≤ L.length ∧ (∀ j, j < k → p j = false) ∧ ((k = L.length ∧ i = -1 ∧ J k w') ∨ (k < L.length ∧ p k = true ∧ i = (k : Int) ∧ J (k + 1) w')) := by
  go_enter Tryz.func70, Tryz.ntmps70
  go_wp2_with fail
  go_loopw [8] (fun i wr => ∃ k : Nat, k ≤ L.length ∧ i = .int .i64 (k : Int) ∧ (∀ j, j < k → p j = false) ∧ J k wr) (fun i _ => L.length - (RowKit.intOf i).toNat)
  case atStart => exact ⟨0, Nat.zero_le _, rfl, fun j hj => by omega, h0⟩
  case round =>
    obtain ⟨k, hk, rfl, hok, hJ⟩ := hrel
    have HK := Lib.hid hok; clear hok
    by_cases hlt : k < L.length
    · obtain ⟨b, off, rfl, hc⟩ := (hR k _ hJ).2 k hlt
      have i0 : (0 : Int) ≤ (k : Int) := by omega
      have i1 : (k : Int) < (L.length : Int) := by omega
      have hw := hY k _ hlt hJ
      generalize L.getD k 0 = z at *
      cases hp : p k with
      | false =>
        rw [hp] at hw
        go_wp2_with fail
        refine hw.mono ?_; rintro e w1 ⟨rfl, hJ1⟩
        go_wp2_with fail
        go_roundw
        · exact ⟨k + 1, by omega, by go_num, fun j hj => by
            rcases Nat.lt_or_ge j k with q | q
            · exact HK.out j q
            · rw [show j = k by omega]; exact hp, hJ1⟩
        · simp [RowKit.intOf]; omega
      | true =>
        rw [hp] at hw
        go_wp2_with fail
        refine hw.mono ?_; rintro e w1 ⟨rfl, hJ1⟩
        go_wp2_with fail
        go_ret
        exact ⟨k, k, rfl, hk, HK.out, Or.inr ⟨hlt, hp, rfl, hJ1⟩⟩
    · obtain rfl : k = L.length := by omega
      have hd0 : decide ((L.length : Int) < (L.length : Int)) = false := decide_eq_false (by omega)
      go_wp2_with fail
      go_ret
      exact ⟨-1, L.length, rfl, hk, HK.out, Or.inl ⟨rfl, rfl, hJ⟩⟩

set_option maxHeartbeats 1000000 in
theorem containsf (F : FuncId) (pv : Value) (he : ∀ args w, (callFunc F args).run Tryz.prog w = .ok (.enter F args) w) (a : Option Addr) (c : Nat) (L : List Int) (w : World) (J : Nat → World → Prop) (p : Nat → Bool) (hn : L.length ≤ 1000000)
    (hR : ∀ k W, J k W → Reads W a L) (hY : ∀ k W, k < L.length → J k W → Calls Tryz.prog F #[.int .i64 (L.getD k 0), pv] W fun e W' => e = .returned (.bool (p k)) ∧ J (k + 1) W') (h0 : J 0 w) :
    Calls Tryz.prog 50 #[.slice a L.length c, .func (.func F) #[] #[pv]] w fun e w' => e = .returned (.bool ((List.range L.length).any p)) ∧ ∃ k, J k w' := by
  have hi := idxf F pv he a c L w J p hn hR hY h0
  clear hR hY h0
  go_enter Tryz.func50, Tryz.ntmps50
  go_wp2_with fail
  refine hi.mono ?_; rintro e w0 ⟨i, k, rfl, hk, hp, hend⟩
  have hB : Hid (decide (0 ≤ i) = (List.range L.length).any p ∧ ∃ k, J k w0) := by
    rcases hend with ⟨rfl, rfl, hJ⟩ | ⟨hlt, hpk, rfl, hJ⟩
    · refine ⟨?_, _, hJ⟩
      rw [show decide ((0 : Int) ≤ -1) = false from rfl]
      exact ((List.any_eq_false).2 fun j hj => by rw [hp j (List.mem_range.1 hj)]; simp).symm
    · refine ⟨?_, _, hJ⟩
      rw [show decide ((0 : Int) ≤ (k : Int)) = true from decide_eq_true (by omega)]
      exact (List.any_eq_true.2 ⟨k, List.mem_range.2 hlt, hpk⟩).symm
  clear hend hp
  go_wp2_with fail
  go_ret
  exact ⟨by rw [← hB.out.1]; rfl, hB.out.2⟩
/-- The closure that asks for some one, over a closure. -/
theorem some_g (F : FuncId) (pv : Value) (rb : Nat) (he : ∀ args w, (callFunc F args).run Tryz.prog w = .ok (.enter F args) w) (a : Option Addr) (c : Nat) (L : List Int) (w : World) (J : Nat → World → Prop) (p : Nat → Bool) (hn : L.length ≤ 1000000)
    (hc : w.cell? ⟨rb, 0, none⟩ = some (.slice a L.length c))
    (hR : ∀ k W, J k W → Reads W a L) (hY : ∀ k W, k < L.length → J k W → Calls Tryz.prog F #[.int .i64 (L.getD k 0), pv] W fun e W' => e = .returned (.bool (p k)) ∧ J (k + 1) W') (h0 : J 0 w) :
    Calls Tryz.prog 51 #[.func (.func F) #[] #[pv], .pointer (some ⟨rb, 0, none⟩)] w fun e w' => e = .returned (.bool ((List.range L.length).any p)) ∧ ∃ k, J k w' := by
  have hi := containsf F pv he a c L w J p hn hR hY h0
  clear hR hY h0
  generalize (List.range L.length).any p = r at *
  go_enter Tryz.func51, Tryz.ntmps51
  go_wp2_with fail
  refine hi.mono ?_; rintro e w0 ⟨rfl, hk⟩
  go_wp2_with fail
  go_ret
  exact ⟨rfl, hk⟩
theorem str_g {w : World} {B A n gb : Nat} (hb : w.cell? ⟨gb, 0, none⟩ = some (.pointer (some ⟨B, 0, none⟩))) (c0 : w.cell? ⟨B, 0, none⟩ = some (.slice (some ⟨A, 0, none⟩) n n)) (z : Int) :
    Calls Tryz.prog 52 #[.int .i64 z, .pointer (some ⟨gb, 0, none⟩)] w fun e w' => e = .returned (.bool (!decide (gnd n z))) ∧ w' = w := by
  have hi := isnode_g c0 z
  generalize decide (gnd n z) = r at *
  clear c0
  go_enter Tryz.func52, Tryz.ntmps52
  go_wp2_with fail
  refine hi.mono ?_; rintro e w1 ⟨rfl, rfl⟩
  go_wp2_with fail
  go_ret
  exact ⟨rfl, rfl⟩
theorem self_g {w : World} {vb : Nat} {v : Int} (hb : w.cell? ⟨vb, 0, none⟩ = some (.int .i64 v)) (z : Int) :
    Calls Tryz.prog 53 #[.int .i64 z, .pointer (some ⟨vb, 0, none⟩)] w fun e w' => e = .returned (.bool (z == v)) ∧ w' = w := by
  go_enter Tryz.func53, Tryz.ntmps53
  go_wp2_with fail
  go_ret
  exact ⟨rfl, rfl⟩
set_option maxHeartbeats 1000000 in
theorem seen_g {w : World} {mb b n : Nat} {f : Int → Bool} (hb : w.cell? ⟨mb, 0, none⟩ = some (.map (some b))) (hf : MSet w b f) (hs : ∀ k, InR k → f k = true → 0 ≤ k ∧ k < (n : Int)) (hn : n ≤ 20000) (z : Int) (hz : InR z) :
    Calls Tryz.prog 54 #[.int .i64 z, .pointer (some ⟨mb, 0, none⟩)] w fun e w' => e = .returned (.bool (f z)) ∧ MSet w' b (fun j => decide (j = z) || f j) ∧ Turn (fun j => j = b) w w' := by
  have hlk := run_look gkit hf hz
  have hf2 : MSet (w.alloc (.cells #[] 67)) b f := hf.keep (heap_alloc_old _ _ hf.lt)
  obtain ⟨w2, hst, hm, hg⟩ := MapSets.run_store gkit hf2 hs (by unfold maxLen; omega) hz
  have ht : Turn (fun j => j = b) w w2 := (Turn.of_below (below1 w (.cells #[] 67))).trans (G := fun j => j = b) ⟨hg.os, hg.tape, hg.output, hg.size, fun j hj hn => hg.block j hj (fun r => hn (by simpa using r))⟩ (fun j hj => Or.inl hj)
  have hb2 : (w.alloc (.cells #[] 67)).cell? ⟨mb, 0, none⟩ = some (.map (some b)) := (World.cell?_alloc_old _ _ _ (Nat.ne_of_lt (World.block_lt_of_cell? w _ hb))).trans hb
  generalize f z = r at *
  clear hf hf2 hg
  go_enter Tryz.func54, Tryz.ntmps54
  go_wp2_with fail
  go_ret
  exact ⟨rfl, hm, ht⟩
end Go.Proofs.YtbaeanpdjdcheaaGreat
