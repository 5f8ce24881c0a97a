/-
  awake of layer 8 answers true over a table's contracts. The conditions: the contracts.
-/
import Derived.Test.YteeonglebimnlaaIntD
import Derived.BigQuiet
import Derived.Deep.RegionWith
namespace Go.Proofs.Yteeonglebimnlaa
open Go.RowKit
set_option linter.unusedSimpArgs false
set_option linter.unusedVariables false

/-- What a table that is none answers, of texts. -/
def NilS : Prop := ∀ (s : ByteArray) (w : World), Calls Try.prog 18 #[.pointer none, .string s] w fun e w' => e = .returned (.tuple #[.int .i64 0, .int .i64 1]) ∧ Below w.heap.size w w'

set_option maxHeartbeats 8000000 in
set_option maxRecDepth 100000 in
theorem i_awake (T : TabI) (hN : NilS) (w : World) : Calls Try.prog 6 #[] w fun e w' => e = .returned (.bool true) ∧ Below w.heap.size w w' := by
  have hn2 := T.new_ok 2 w (by decide) (by decide)
  have hn0 := fun w => T.new_no 0 w (by decide)
  go_enter Try.func6, Try.ntmps6
  go_wp2_with fail
  refine hn2.mono ?_; rintro e w1 ⟨B, F1, rfl, hR1, hb1, hF1⟩
  clear hn2
  have hc := T.id 7 hR1 (by decide)
  rw [show gidN ([] : List Int) 2 7 = 0 by decide, show gidE ([] : List Int) 2 7 = 0 by decide, show gidK ([] : List Int) 2 7 = [7] by decide] at hc
  go_wp2_with fail
  refine hc.mono ?_; rintro e w2 ⟨rfl, F2, hR2, ht, hF⟩
  have hF2 : ∀ j, F2 j → w.heap.size ≤ j := fun j q => (hF j q).elim (hF1 j) (fun q => Nat.le_trans hb1.size q)
  have hb2 := hb1.trans (ht.below hF1 hb1.size)
  clear hc ht hF hR1 hF1 hb1
  have hc := T.id 9 hR2 (by decide)
  rw [show gidN ([7] : List Int) 2 9 = 1 by decide, show gidE ([7] : List Int) 2 9 = 0 by decide, show gidK ([7] : List Int) 2 9 = [7, 9] by decide] at hc
  go_wp2_with fail
  refine hc.mono ?_; rintro e w3 ⟨rfl, F3, hR3, ht, hF⟩
  have hF3 : ∀ j, F3 j → w.heap.size ≤ j := fun j q => (hF j q).elim (hF2 j) (fun q => Nat.le_trans hb2.size q)
  have hb3 := hb2.trans (ht.below hF2 hb2.size)
  clear hc ht hF hR2 hF2 hb2
  have hc := T.id 7 hR3 (by decide)
  rw [show gidN ([7, 9] : List Int) 2 7 = 0 by decide, show gidE ([7, 9] : List Int) 2 7 = 0 by decide, show gidK ([7, 9] : List Int) 2 7 = [7, 9] by decide] at hc
  go_wp2_with fail
  refine hc.mono ?_; rintro e w4 ⟨rfl, F4, hR4, ht, hF⟩
  have hF4 : ∀ j, F4 j → w.heap.size ≤ j := fun j q => (hF j q).elim (hF3 j) (fun q => Nat.le_trans hb3.size q)
  have hb4 := hb3.trans (ht.below hF3 hb3.size)
  clear hc ht hF hR3 hF3 hb3
  have hc := T.id 8 hR4 (by decide)
  rw [show gidN ([7, 9] : List Int) 2 8 = 0 by decide, show gidE ([7, 9] : List Int) 2 8 = 3 by decide, show gidK ([7, 9] : List Int) 2 8 = [7, 9] by decide] at hc
  go_wp2_with fail
  refine hc.mono ?_; rintro e w5 ⟨rfl, F5, hR5, ht, hF⟩
  have hF5 : ∀ j, F5 j → w.heap.size ≤ j := fun j q => (hF j q).elim (hF4 j) (fun q => Nat.le_trans hb4.size q)
  have hb5 := hb4.trans (ht.below hF4 hb4.size)
  clear hc ht hF hR4 hF4 hb4
  have hc := T.key trivial 1 hR5 (by decide)
  rw [show gkey 0 ([7, 9] : List Int) 1 = 9 by decide, show gin ([7, 9] : List Int) 1 = true by decide] at hc
  go_wp2_with fail
  refine hc.mono ?_; rintro e w6 ⟨rfl, hq⟩
  have hR6 := T.below hR5 hq; have hF6 := hF5
  have hb6 := hb5.trans (hq.mono hb5.size)
  clear hc hq hR5 hF5 hb5
  have hc := T.find trivial 8 hR6 (by decide)
  rw [show gfnd ([7, 9] : List Int) 8 = 0 by decide, show decide (((8 : Int)) ∈ ([7, 9] : List Int)) = false by decide] at hc
  go_wp2_with fail
  refine hc.mono ?_; rintro e w7 ⟨rfl, hq⟩
  have hR7 := T.below hR6 hq; have hF7 := hF6
  have hb7 := hb6.trans (hq.mono hb6.size)
  clear hc hq hR6 hF6 hb6
  have hc := T.cut trivial 1 hR7 (by decide)
  rw [show gcut ([7, 9] : List Int) 1 = [7] by decide] at hc
  go_wp2_with fail
  refine hc.mono ?_; rintro e w8 ⟨rfl, F8, hR8, ht, hF⟩
  have hF8 : ∀ j, F8 j → w.heap.size ≤ j := fun j q => (hF j q).elim (hF7 j) (fun q => Nat.le_trans hb7.size q)
  have hb8 := hb7.trans (ht.below hF7 hb7.size)
  clear hc ht hF hR7 hF7 hb7
  have hc := T.id 8 hR8 (by decide)
  rw [show gidN ([7] : List Int) 2 8 = 1 by decide, show gidE ([7] : List Int) 2 8 = 0 by decide, show gidK ([7] : List Int) 2 8 = [7, 8] by decide] at hc
  go_wp2_with fail
  refine hc.mono ?_; rintro e w9 ⟨rfl, F9, hR9, ht, hF⟩
  have hF9 : ∀ j, F9 j → w.heap.size ≤ j := fun j q => (hF j q).elim (hF8 j) (fun q => Nat.le_trans hb8.size q)
  have hb9 := hb8.trans (ht.below hF8 hb8.size)
  clear hc ht hF hR8 hF8 hb8
  go_wp2_with fail
  refine (hN _ _).mono ?_; rintro e w10 ⟨rfl, hq⟩
  have hR10 := T.below hR9 hq
  have hb10 := hb9.trans (hq.mono hb9.size)
  clear hq hR9 hb9 hF9
  go_wp2_with fail
  refine (hn0 _).mono ?_; rintro e w11 ⟨rfl, hq⟩
  have hR11 := T.below hR10 hq
  have hb11 := hb10.trans (hq.mono hb10.size)
  have hl := T.len hR11
  rw [show (([7, 8] : List Int).length : Int) = 2 by decide] at hl
  clear hq hR10 hb10 hn0 hN
  go_wp2_with fail
  refine hl.mono ?_; rintro e wz ⟨rfl, hq⟩
  have hbz := hb11.trans (hq.mono hb11.size)
  clear hl hq
  go_wp2_with fail
  go_ret
  exact ⟨rfl, hbz⟩
end Go.Proofs.Yteeonglebimnlaa
