/-
  Layer 12's Made of too few or too many nodes. No conditions.
-/
import Derived.Test.YtbaeanpdjdcheaaGreatGrX0
namespace Go.Proofs.YtbaeanpdjdcheaaGreat
open Go.RowKit
set_option linter.unusedSimpArgs false
set_option linter.unusedVariables false

set_option maxHeartbeats 4000000 in
set_option maxRecDepth 100000 in
theorem made_no (m : Int) (hm : ¬ (1 ≤ m ∧ m ≤ 20000)) (a : Option Addr) (c : Nat) (l : List GA) (hn : (l.length : Int) ≤ 9223372036854775807) (w : World) :
    Calls Tryz.prog 8 #[.int .i64 m, .slice a l.length c] w fun e w' => ∃ xa xn xc, e = .returned (.tuple #[.pointer none, .agg #[.slice xa xn xc], .bool true]) ∧ Below w.heap.size w w' := by
  have hb0 := below1 w (.cells #[.slice none 0 0] 32)
  have hcr : (w.alloc (.cells #[.slice none 0 0] 32)).cell? ⟨w.heap.size, 0, none⟩ = some (.slice none 0 0) := by simp
  have hzr : (w.alloc (.cells #[.slice none 0 0] 32)).frozen? ⟨w.heap.size, 0, none⟩ = false := by simp [go_sem]
  have hs0 : (w.alloc (.cells #[.slice none 0 0] 32)).heap.size = w.heap.size + 1 := by simp
  have HB0 := Lib.hid hb0
  go_enter Tryz.func8, Tryz.ntmps8
  go_wp2_with fail
  generalize hW : w.alloc (.cells #[.slice none 0 0] 32) = W at *
  clear hW hb0
  refine (new_no_g m _ hm).mono ?_; rintro e w2 ⟨rfl, rfl⟩
  have hlt2 : w.heap.size < w2.heap.size := by omega
  have hnew := r12new m w2
  rw [if_neg hm] at hnew
  go_wp2_with fail
  refine hnew.mono ?_; rintro e w3 ⟨x, rfl, hxo, hb3⟩
  have hxr := (hxo (fun _ => False) (fun j q => q.elim)).ref
  rw [if_neg hm] at hxr
  obtain ⟨xa, xc, _, hxe, _⟩ := hxr
  subst hxe
  have hcr3 := (hb3.cell (p := ⟨w.heap.size, 0, none⟩) hlt2).trans hcr
  have hzr3 := (hb3.frozen (p := ⟨w.heap.size, 0, none⟩) hlt2).trans hzr
  have hs3 := hb3.size
  have HB3 := Lib.hid (HB0.out.trans (hb3.mono (by omega)))
  have hlt3 : w.heap.size < w3.heap.size := by omega
  clear hxo hb3 hcr hzr hs3 hnew
  go_wp2_with fail
  have HB4 := Lib.hid (HB3.out.trans ((below1 w3 (.cells #[.slice xa 0 xc] 32)).mono HB3.out.size))
  have hbx : (w3.alloc (.cells #[.slice xa 0 xc] 32)).cell? ⟨w3.heap.size, 0, none⟩ = some (.slice xa 0 xc) := by simp
  have hcr4 : (w3.alloc (.cells #[.slice xa 0 xc] 32)).cell? ⟨w.heap.size, 0, none⟩ = some (.slice none 0 0) := by simp [go_sem, hlt3, hcr3]
  have hzr4 : (w3.alloc (.cells #[.slice xa 0 xc] 32)).frozen? ⟨w.heap.size, 0, none⟩ = false := by simp [go_sem, hlt3, hzr3]
  generalize w3.alloc (.cells #[.slice xa 0 xc] 32) = w4 at *
  go_loopw [11] (fun i wr => i = .int .i64 0 ∧ wr = w4) (fun _ _ => 0)
  case atStart => exact ⟨rfl, rfl⟩
  case round =>
    obtain ⟨rfl, rfl⟩ := hrel
    have hend : Hid (Below w.heap.size w (wr.setCell ⟨w.heap.size, 0, none⟩ (.slice xa 0 xc)).drew) := (HB4.out.setCell (p := ⟨w.heap.size, 0, none⟩) (Nat.le_refl _) (.slice xa 0 xc)).drew
    have hr9 : (wr.setCell ⟨w.heap.size, 0, none⟩ (.slice xa 0 xc)).drew.cell? ⟨w.heap.size, 0, none⟩ = some (.slice xa 0 xc) := World.cell?_setCell_same _ _ _ hcr4
    by_cases h0 : 0 < l.length
    · have d0 : decide (0 < (l.length : Int)) = true := decide_eq_true (by omega)
      have d0' : decide (0 < l.length) = true := decide_eq_true h0
      go_wp2_with fail
      go_region
      go_wp2_with fail
      exact bodyPost_ret (v := .tuple #[.pointer none, .agg #[.slice xa 0 xc], .bool true]) (by simp [results, Tryz.results8, go_sem, hr9]) rfl ⟨xa, 0, xc, rfl, hend.out⟩
    · have d0 : decide (0 < (l.length : Int)) = false := decide_eq_false (by omega)
      have d0' : decide (0 < l.length) = false := decide_eq_false h0
      go_wp2_with fail
      go_region
      go_wp2_with fail
      exact bodyPost_ret (v := .tuple #[.pointer none, .agg #[.slice xa 0 xc], .bool true]) (by simp [results, Tryz.results8, go_sem, hr9]) rfl ⟨xa, 0, xc, rfl, hend.out⟩
end Go.Proofs.YtbaeanpdjdcheaaGreat
