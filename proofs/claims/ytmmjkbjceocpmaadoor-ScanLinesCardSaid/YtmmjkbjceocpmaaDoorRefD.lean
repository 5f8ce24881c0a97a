/-
  What the document's own big numbers do (Flip, Plus, Minus, Cmp of gavelkindref01), as whole numbers. The condition: at most 900 digits.
-/
import Derived.Test.YtmmjkbjceocpmaaDoorRefC
namespace Go.Proofs.YtmmjkbjceocpmaaDoor
open Go.RowKit
set_option linter.unusedVariables false

/-- The value v is the whole number x: whether it is below 0, and its digits. -/
def Big (w : World) (v : Value) (x : Int) : Prop := ∃ u, v = .agg #[.bool (decide (x < 0)), u] ∧ Sl w u (digs x.natAbs)

theorem Big.below {w w' : World} {v : Value} {x : Int} (h : Big w v x) (hb : Below w.heap.size w w') : Big w' v x := by
  obtain ⟨u, h1, h2⟩ := h; exact ⟨u, h1, h2.below hb⟩
theorem Big.alloc {w : World} {v : Value} {x : Int} (h : Big w v x) (o : Obj) : Big (w.alloc o) v x := h.below ((Below.refl _ _).alloc (Nat.le_refl _) _)

theorem digs_pos_len {n : Nat} (h : n ≠ 0) : 0 < (digs n).length := by rw [digs_pos h]; simp

set_option maxHeartbeats 400000 in
theorem flip_any (v : Value) (x : Int) (w : World) (hv : Big w v x) (hl : (digs x.natAbs).length ≤ 1000) :
    Calls Tryd.prog 34 #[v] w fun e w' => ∃ u, e = .returned u ∧ Big w' u (-x) ∧ Below w.heap.size w w' := by
  obtain ⟨u, rfl, hs⟩ := hv
  have HS := Lib.hid hs
  obtain ⟨a, cap, rfl, hcap, hc0, hL⟩ := hs
  have HB : Hid (∀ o o', Big ((w.alloc o).alloc o') (.agg #[.bool (decide (-x < 0)), .slice a (digs x.natAbs).length cap]) (-x)) := fun o o' => ⟨_, rfl, by rw [Int.natAbs_neg]; exact (HS.out.alloc o).alloc o'⟩
  clear hcap hc0 hL
  rcases Int.lt_trichotomy x 0 with h | h | h
  · have e1 : decide (x < 0) = true := by simpa using h
    have e2 : decide (-x < 0) = false := by simp; omega
    rw [e1]; rw [e2] at HB; clear e1 e2
    go_enter Tryd.func34, Tryd.ntmps34
    go_wp2
    refine bodyPost_ret (v := .agg #[.bool false, .slice a (digs x.natAbs).length cap]) (by simp [results, Tryd.results34, go_sem]) rfl ⟨_, rfl, HB.out _ _, below2 _ _ _⟩
  · subst h
    have e1 : decide ((0 : Int) < 0) = false := by simp
    have e2 : decide (-(0 : Int) < 0) = false := by simp
    have e3 : (digs (Int.natAbs 0)).length = 0 := by simp [digs_zero]
    rw [e1, e3]; rw [e2, e3] at HB; clear e1 e2
    go_enter Tryd.func34, Tryd.ntmps34
    go_wp2
    refine bodyPost_ret (v := .agg #[.bool false, .slice a 0 cap]) (by simp [results, Tryd.results34, go_sem]) rfl ⟨_, rfl, HB.out _ _, below2 _ _ _⟩
  · have e1 : decide (x < 0) = false := by simp; omega
    have e2 : decide (-x < 0) = true := by simp; omega
    have e3 := digs_pos_len (n := x.natAbs) (by omega)
    rw [e1]; rw [e2] at HB; clear e1 e2
    go_enter Tryd.func34, Tryd.ntmps34
    go_wp2
    refine bodyPost_ret (v := .agg #[.bool true, .slice a (digs x.natAbs).length cap]) (by simp [results, Tryd.results34, go_sem]) rfl ⟨_, rfl, HB.out _ _, below2 _ _ _⟩
end Go.Proofs.YtmmjkbjceocpmaaDoor
