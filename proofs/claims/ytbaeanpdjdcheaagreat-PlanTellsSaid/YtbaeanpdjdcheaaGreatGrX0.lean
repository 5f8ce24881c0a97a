/-
  A graph of the program's and one of the document's, of the same rows. No conditions.
-/
import Derived.Test.YtbaeanpdjdcheaaGreatRefIj
import Derived.Test.YtbaeanpdjdcheaaGreatRfH
namespace Go.Proofs.YtbaeanpdjdcheaaGreat
open Go.RowKit
set_option linter.unusedSimpArgs false
set_option linter.unusedVariables false

/-- A graph that was made behind w0, and the document's, of the same rows. -/
structure BothG (w0 w : World) (B : Nat) (R : List (List Int)) (F : Nat → Prop) (x : Value) : Prop where
  s : OneG w0 w B R F
  x : GRef w x R
theorem BothG.below {w0 w w' : World} {B : Nat} {R : List (List Int)} {F : Nat → Prop} {x : Value} (h : BothG w0 w B R F x) (hb : Below w.heap.size w w') : BothG w0 w' B R F x := ⟨h.s.below hb, h.x.below hb⟩
theorem BothG.hl {w0 w : World} {B : Nat} {R : List (List Int)} {F : Nat → Prop} {x : Value} (h : BothG w0 w B R F x) : R.length ≤ 20000 := h.s.r.1.hi
theorem BothG.hr {w0 w : World} {B : Nat} {R : List (List Int)} {F : Nat → Prop} {x : Value} (h : BothG w0 w B R F x) : ∀ v, (gR R v).length ≤ 20000 := fun v => Nat.le_trans (h.s.r.1.len v) h.s.r.1.hi
theorem inr_sl {w : World} {v : Value} {L : List Int} (h : Sl w v L) : ∃ a c, v = .slice a L.length c ∧ Reads w a L := by
  obtain ⟨a, c, e, _, _, hr⟩ := h
  exact ⟨a, c, e, hr⟩
theorem inr_own {w : World} {base : Nat} {v : Value} {L : List Int} (h : Own w base v L) (hL : ∀ z ∈ L, InR z) : ∃ a c, v = .slice a L.length c ∧ Reads w a L := by
  obtain ⟨a, c, e, _, hr⟩ := h.reads hL
  exact ⟨a, c, e, hr⟩
theorem greads_len {R : List (List Int)} (hr : ∀ v, (gR R v).length ≤ 20000) (v : Int) : (greads R v).length ≤ 20000 := by
  unfold greads; split
  · exact hr _
  · simp
/-- Both tell the same reads, readers. -/
theorem same_reads {w : World} {a a' : Option Addr} {L : List Int} {c c' : Nat} (h1 : Reads w a L) (h2 : Reads w a' L) (hn : L.length ≤ 20000) :
    Calls Tryz.prog 13 #[.slice a L.length c, .slice a' L.length c'] w fun e w' => e = .returned (.bool true) ∧ Below w.heap.size w w' := by
  have h := same_any a a' c c' L L w h1 h2 (by omega)
  rwa [decide_eq_true (rfl : L = L)] at h
end Go.Proofs.YtbaeanpdjdcheaaGreat
