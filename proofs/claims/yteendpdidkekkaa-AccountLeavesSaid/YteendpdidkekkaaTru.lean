/-
  Rows of truths: owned by the call, and as they read. No Go function is walked here. No conditions.
-/
import Derived.Test.YteendpdidkekkaaIntB0
namespace Go.Proofs.Yteendpdidkekkaa
open Go.RowKit
set_option linter.unusedSimpArgs false
set_option linter.unusedVariables false


theorem bool_info : (Try.prog.info? 4).map (fun i => (i.zero, i.size, i.bytes)) = some (some (.bool false), 1, 1) := by kernel_rfl
/-- A row of truths that the call owns. -/
def OwnB (w : World) (base : Nat) (v : Value) (I : List Bool) : Prop := w.ownsRow base 4 1 v I.length (I.map Value.bool)
theorem OwnB.below {w w' : World} {base : Nat} {v : Value} {I : List Bool} (h : OwnB w base v I) (hb : Below w.heap.size w w') : OwnB w' base v I := ownsRow_below h hb
theorem OwnB.low {w : World} {a b : Nat} {v : Value} {I : List Bool} (h : OwnB w a v I) (hb : b ≤ a) : OwnB w b v I :=
  ⟨h.1, h.2.imp id fun ⟨g, cap, cur, e, q, r⟩ => ⟨g, cap, cur, e, Nat.le_trans hb q, r⟩⟩
theorem OwnB.form {w : World} {base : Nat} {v : Value} {I : List Bool} (h : OwnB w base v I) (hn : 0 < I.length) : ∃ g c, v = .slice (some ⟨g, 0, none⟩) I.length c ∧ base ≤ g := by
  rcases h.2 with ⟨_, q⟩ | ⟨g, cap, cur, q1, q2, _⟩
  · omega
  · exact ⟨g, cap, q1, q2⟩
theorem OwnB.at {w : World} {base g c : Nat} {I : List Bool} {n : Nat} (h : OwnB w base (.slice (some ⟨g, 0, none⟩) n c) I) (hn : I.length = n) {v : Nat} (hv : v < n) : w.cell? ⟨g, v, none⟩ = some (.bool (I.getD v false)) ∧ w.frozen? ⟨g, v, none⟩ = false := by
  subst hn
  refine ⟨?_, World.ownsRow.frozenAt h v⟩
  rw [World.ownsRow.cellAt h v (by omega)]
  simp [List.getD, hv]
theorem OwnB.store {w : World} {base g c : Nat} {I : List Bool} {n : Nat} (h : OwnB w base (.slice (some ⟨g, 0, none⟩) n c) I) (hn : I.length = n) (v : Nat) (b : Bool) : OwnB (w.setCell ⟨g, v, none⟩ (.bool b)) base (.slice (some ⟨g, 0, none⟩) n c) (I.set v b) := by
  subst hn
  have := (World.ownsRow.stored h v (.bool b)).1
  unfold OwnB
  rw [List.map_set, List.length_set]; exact this
/-- A slice reads as these truths. -/
def ReadsB (w : World) (a : Option Addr) (I : List Bool) : Prop := ∀ k, k < I.length → ∃ b off, a = some ⟨b, off, none⟩ ∧ w.cell? ⟨b, off + k, none⟩ = some (.bool (I.getD k false))
theorem OwnB.reads {w : World} {base : Nat} {v : Value} {I : List Bool} (h : OwnB w base v I) : ∃ a c, v = .slice a I.length c ∧ ReadsB w a I := by
  rcases h.2 with ⟨rfl, h0⟩ | ⟨g, cap, cur, rfl, _⟩
  · exact ⟨none, 0, by rw [h0], fun k hk => by omega⟩
  · exact ⟨_, _, rfl, fun k hk => ⟨g, 0, rfl, by rw [Nat.zero_add]; exact (OwnB.at h rfl hk).1⟩⟩
theorem OwnB.rd {w : World} {base n c : Nat} {a : Option Addr} {I : List Bool} (h : OwnB w base (.slice a n c) I) : ReadsB w a I := by
  obtain ⟨a', c', e, hr⟩ := h.reads
  injection e with e1
  rw [e1]; exact hr
end Go.Proofs.Yteendpdidkekkaa
