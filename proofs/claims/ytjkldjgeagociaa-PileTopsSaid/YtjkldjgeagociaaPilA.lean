/-
  awake of layer 9 answers true over a pile's contracts. The conditions: the contracts.
-/
import Derived.Test.YtjkldjgeagociaaPilG
import Derived.Test.YtjkldjgeagociaaRefIe
import Derived.BigQuiet
import Derived.Deep.RegionWith
namespace Go.Proofs.Ytjkldjgeagociaa
open Go.RowKit
set_option linter.unusedSimpArgs false
set_option linter.unusedVariables false

theorem At2.out {F : Nat → Prop} {w w' : World} {X : Nat} {p q : Value} (h : At2 w X p q) (t : Turn F w w') (hF : ∀ j, F j → j < X) : At2 w' X p q := h.turn t (fun r => by have := hF X r; omega)
/-- Three pairs that a literal lays. -/
theorem lit3 (w : World) (a b c d e f : Int) : SlP (w.alloc (.cells #[.int .i64 a, .int .i64 b, .int .i64 c, .int .i64 d, .int .i64 e, .int .i64 f] 25)) (.slice (some ⟨w.heap.size, 0, none⟩) 3 3) [(a, b), (c, d), (e, f)] := by
  have h := ownsRow_slc (World.ownsRow_lit (base := w.heap.size) (e := 25) (size := 2) w #[.int .i64 a, .int .i64 b, .int .i64 c, .int .i64 d, .int .i64 e, .int .i64 f] 3 (by omega) (by unfold maxLen; omega) rfl)
  exact h

set_option maxHeartbeats 8000000 in
set_option maxRecDepth 100000 in
theorem p_awake (T : PilCon) (hS : SortC) (hO : NilPop) (hU : NilPush) (w : World) : Calls Try.prog 8 #[] w fun e w' => e = .returned (.bool true) ∧ Below w.heap.size w w' := by
  have hn := T.new_ok w
  go_enter Try.func8, Try.ntmps8
  go_wp2_with fail
  refine hn.mono ?_; rintro e w1 ⟨B, F1, rfl, hR1, hb1, hF1⟩
  clear hn
  have hc := T.push 5 1 hR1 (by decide) (by decide) (by decide)
  rw [show ([] : List (Int × Int)) ++ [(5, 1)] = [(5, 1)] from rfl] at hc
  go_wp2_with fail
  refine hc.mono ?_; rintro e w2 ⟨rfl, F2, hR2, ht, hF⟩
  have hF2 : ∀ j, F2 j → w.heap.size ≤ j := fun j q => (hF j q).elim (hF1 j) (fun q => Nat.le_trans hb1.size q)
  have hb2 := hb1.trans (ht.below hF1 hb1.size)
  clear hc ht hF hR1 hF1 hb1
  have hc := T.push 3 2 hR2 (by decide) (by decide) (by decide)
  rw [show ([(5, 1)] : List (Int × Int)) ++ [(3, 2)] = [(5, 1), (3, 2)] from rfl] at hc
  go_wp2_with fail
  refine hc.mono ?_; rintro e w3 ⟨rfl, F3, hR3, ht, hF⟩
  have hF3 : ∀ j, F3 j → w.heap.size ≤ j := fun j q => (hF j q).elim (hF2 j) (fun q => Nat.le_trans hb2.size q)
  have hb3 := hb2.trans (ht.below hF2 hb2.size)
  clear hc ht hF hR2 hF2 hb2
  have hc := T.push 3 3 hR3 (by decide) (by decide) (by decide)
  rw [show ([(5, 1), (3, 2)] : List (Int × Int)) ++ [(3, 3)] = [(5, 1), (3, 2), (3, 3)] from rfl] at hc
  go_wp2_with fail
  refine hc.mono ?_; rintro e w4 ⟨rfl, F4, hR4, ht, hF⟩
  have hF4 : ∀ j, F4 j → w.heap.size ≤ j := fun j q => (hF j q).elim (hF3 j) (fun q => Nat.le_trans hb3.size q)
  have hb4 := hb3.trans (ht.below hF3 hb3.size)
  clear hc ht hF hR3 hF3 hb3
  have hc := T.peek hR4
  rw [show peekv ([(5, 1), (3, 2), (3, 3)] : List (Int × Int)) = (3, 2) by decide, show decide (0 < ([(5, 1), (3, 2), (3, 3)] : List (Int × Int)).length) = true by decide] at hc
  go_wp2_with fail
  refine hc.mono ?_; rintro e w5 ⟨rfl, hq⟩
  have hR5 := T.below hR4 hq
  have hb5 := hb4.trans (hq.mono hb4.size)
  clear hc hq hR4 hb4
  have A5 := At2.new w5 (.int .i64 3) (.int .i64 2) 25
  have h1 := T.foot hR5
  replace hR5 := T.below hR5 (below1 w5 (.cells #[.int .i64 3, .int .i64 2] 25))
  replace hb5 := hb5.trans ((below1 w5 (.cells #[.int .i64 3, .int .i64 2] 25)).mono hb5.size)
  generalize hW : w5.alloc (.cells #[.int .i64 3, .int .i64 2] 25) = W5 at *
  have hX5 : w5.heap.size < W5.heap.size := A5.2.2
  have hXb : w.heap.size ≤ W5.heap.size := hb5.size
  have hc := T.pop hR5
  rw [show peekv ([(5, 1), (3, 2), (3, 3)] : List (Int × Int)) = (3, 2) by decide, show decide (0 < ([(5, 1), (3, 2), (3, 3)] : List (Int × Int)).length) = true by decide, show popv ([(5, 1), (3, 2), (3, 3)] : List (Int × Int)) = ([(5, 1), (3, 3)] : List (Int × Int)) by decide] at hc
  go_wp2_with fail

  refine hc.mono ?_; rintro e w6 ⟨rfl, F6, hR6, ht, hF⟩
  have hF6 : ∀ j, F6 j → w.heap.size ≤ j := fun j q => (hF j q).elim (hF4 j) (fun q => Nat.le_trans hb5.size q)
  have hb6 := hb5.trans (ht.below hF4 hb5.size)
  have hN6 : ¬ F6 w5.heap.size := fun q => (hF _ q).elim (fun q => by have := h1 _ q; omega) (fun q => by omega)
  have A6 := A5.out ht h1
  clear hc ht hF hR5 hF4 hb5 A5 h1
  have B6 := At2.new w6 (.int .i64 3) (.int .i64 2) 25
  have h6 := T.foot hR6
  replace A6 := A6.below (below1 w6 (.cells #[.int .i64 3, .int .i64 2] 25))
  replace hR6 := T.below hR6 (below1 w6 (.cells #[.int .i64 3, .int .i64 2] 25))
  replace hb6 := hb6.trans ((below1 w6 (.cells #[.int .i64 3, .int .i64 2] 25)).mono hb6.size)
  generalize hW6 : w6.alloc (.cells #[.int .i64 3, .int .i64 2] 25) = W6 at *
  have hX6 : w6.heap.size < W6.heap.size := B6.2.2
  have hc := T.pop hR6
  rw [show peekv ([(5, 1), (3, 3)] : List (Int × Int)) = (3, 3) by decide, show decide (0 < ([(5, 1), (3, 3)] : List (Int × Int)).length) = true by decide, show popv ([(5, 1), (3, 3)] : List (Int × Int)) = [(5, 1)] by decide] at hc
  go_wp2_with fail

  refine hc.mono ?_; rintro e w7 ⟨rfl, F7, hR7, ht, hF⟩
  have hb7 := hb6.trans (ht.below hF6 hb6.size)
  have A7 := A6.turn ht hN6
  have B7 := B6.out ht h6
  clear hc ht hF hR6 hF6 hb6 A6 B6 h6 hN6
  have C7 := At2.new w7 (.int .i64 3) (.int .i64 3) 25
  have hz := below1 w7 (.cells #[.int .i64 3, .int .i64 3] 25)
  replace A7 := A7.below hz
  replace B7 := B7.below hz
  replace hR7 := T.below hR7 hz
  replace hb7 := hb7.trans (hz.mono hb7.size)
  clear hz
  generalize hW7 : w7.alloc (.cells #[.int .i64 3, .int .i64 3] 25) = W7 at *
  go_wp2_with fail

  refine (hO _).mono ?_; rintro e w8 ⟨rfl, hq⟩
  have hR8 := T.below hR7 hq
  have hb8 := hb7.trans (hq.mono hb7.size)
  obtain ⟨a0, a1, a2⟩ := A7.below hq
  obtain ⟨b0, b1, b2⟩ := B7.below hq
  obtain ⟨c0, c1, c2⟩ := C7.below hq
  have hc := T.len hR8
  rw [show (([(5, 1)] : List (Int × Int)).length : Int) = 1 by decide] at hc
  have e1 : ∀ v, (Op.equalIn 10000 25 (.agg #[.int .i64 3, .int .i64 2]) (.agg #[.int .i64 3, .int .i64 2])).run Try.prog v = .ok true v := fun v => eq_pair 3 2 3 2 v
  have e2 : ∀ v, (Op.equalIn 10000 25 (.agg #[.int .i64 3, .int .i64 3]) (.agg #[.int .i64 3, .int .i64 3])).run Try.prog v = .ok true v := fun v => eq_pair 3 3 3 3 v
  clear hq hR7 hb7 A7 B7 C7 hR8 hW hW6 hW7
  go_wp2_with fail
  refine hc.mono ?_; rintro e w9 ⟨rfl, hq⟩
  have hb9 := hb8.trans (hq.mono hb8.size)
  clear hc hq hb8 a0 a1 a2 b0 b1 b2 c0 c1 c2 e1 e2
  go_wp2_with fail
  refine (hU _ _).mono ?_; rintro e wa ⟨rfl, hq⟩
  have hba := hb9.trans (hq.mono hb9.size)
  clear hq hb9
  have hl := lit3 wa 2 0 1 1 2 2
  have hc := hS _ _ _ hl (by intro p hp; simp at hp; rcases hp with rfl | rfl | rfl <;> exact ⟨by decide, by decide⟩) (by decide)
  rw [show sortv [(2, 0), (1, 1), (2, 2)] = [(1, 1), (2, 0), (2, 2)] by decide] at hc
  have hz := hba.trans ((below1 wa (.cells #[.int .i64 2, .int .i64 0, .int .i64 1, .int .i64 1, .int .i64 2, .int .i64 2] 25)).mono hba.size)
  go_wp2_with fail
  refine hc.mono ?_; rintro e wb ⟨u, rfl, hu, hq⟩
  have hbb := hz.trans (hq.mono hz.size)
  clear hc hq hz hba hl
  have hl := lit3 wb 1 1 2 0 2 2
  have hc := r9same _ _ _ _ _ (hu.alloc (.cells #[.int .i64 1, .int .i64 1, .int .i64 2, .int .i64 0, .int .i64 2, .int .i64 2] 25)) hl (by decide)
  rw [show decide (([(1, 1), (2, 0), (2, 2)] : List (Int × Int)) = [(1, 1), (2, 0), (2, 2)]) = true by decide] at hc
  have hz := hbb.trans ((below1 wb (.cells #[.int .i64 1, .int .i64 1, .int .i64 2, .int .i64 0, .int .i64 2, .int .i64 2] 25)).mono hbb.size)
  go_wp2_with fail
  refine hc.mono ?_; rintro e wc ⟨rfl, hq⟩
  go_wp2_with fail
  go_ret
  exact ⟨rfl, hz.trans (hq.mono hz.size)⟩
end Go.Proofs.Ytjkldjgeagociaa
