/-
  Objects that a call turns: what a call leaves that turns so many blocks alone and lays new ones; what else is kept. No Go function is walked here.
-/
import Derived.Test.YtadbelkckeokjaaRowG
import Derived.Test.YtadbelkckeokjaaRatK
namespace Go.Proofs.Ytadbelkckeokjaa
open Go.RowKit
set_option linter.unusedSimpArgs false
set_option linter.unusedVariables false

/-- Blocks of F alone are turned; new ones are laid. -/
structure Turn (F : Nat → Prop) (w w' : World) : Prop where
  os : w'.os = w.os
  tape : w'.tape = w.tape
  output : w'.output = w.output
  size : w.heap.size ≤ w'.heap.size
  block : ∀ k, k < w.heap.size → ¬ F k → w'.heap[k]? = w.heap[k]?
theorem Turn.refl (F : Nat → Prop) (w : World) : Turn F w w := ⟨rfl, rfl, rfl, Nat.le_refl _, fun _ _ _ => rfl⟩
theorem Turn.of_below {F : Nat → Prop} {w w' : World} (h : Below w.heap.size w w') : Turn F w w' := ⟨h.os, h.tape, h.output, h.size, fun k hk _ => h.block k hk⟩
theorem Turn.below {F : Nat → Prop} {B : Nat} {w w' : World} (h : Turn F w w') (hF : ∀ k, F k → B ≤ k) (hB : B ≤ w.heap.size) : Below B w w' :=
  ⟨h.os, h.tape, h.output, h.size, fun k hk => h.block k (by omega) (fun q => by have := hF k q; omega)⟩
theorem Turn.trans {F G : Nat → Prop} {a b c : World} (h : Turn F a b) (k : Turn G b c) (hG : ∀ j, G j → F j ∨ a.heap.size ≤ j) : Turn F a c :=
  ⟨k.os.trans h.os, k.tape.trans h.tape, k.output.trans h.output, Nat.le_trans h.size k.size, fun j hj hn => (k.block j (Nat.lt_of_lt_of_le hj h.size) (fun q => by
    rcases hG j q with q | q
    · exact hn q
    · omega)).trans (h.block j hj hn)⟩
theorem Turn.mono {F G : Nat → Prop} {w w' : World} (h : Turn F w w') (hG : ∀ j, F j → G j) : Turn G w w' := ⟨h.os, h.tape, h.output, h.size, fun k hk hn => h.block k hk (fun q => hn (hG k q))⟩
theorem Turn.cell {F : Nat → Prop} {w w' : World} (h : Turn F w w') {a : Addr} (ha : a.block < w.heap.size) (hn : ¬ F a.block) : w'.cell? a = w.cell? a := by
  unfold World.cell?; rw [h.block _ ha hn]
theorem Turn.frozen {F : Nat → Prop} {w w' : World} (h : Turn F w w') {a : Addr} (ha : a.block < w.heap.size) (hn : ¬ F a.block) : w'.frozen? a = w.frozen? a := by
  unfold World.frozen?; rw [h.block _ ha hn]
theorem turn_set {F : Nat → Prop} {w w1 : World} (h : Turn F w w1) {p : Addr} (hk : F p.block ∨ w.heap.size ≤ p.block) (u : Value) : Turn F w (w1.setCell p u) :=
  ⟨h.os, h.tape, h.output, by simpa [World.setCell] using h.size, fun k h1 h2 => (Below.heap_setCell w1 p u k (fun q => by
    subst q
    rcases hk with q | q
    · exact h2 q
    · omega)).trans (h.block k h1 h2)⟩
theorem turn_set2 {F : Nat → Prop} {w w1 : World} (h : Turn F w w1) {k : Nat} (hk : F k ∨ w.heap.size ≤ k) (a b : Value) : Turn F w ((w1.setCell ⟨k, 0, none⟩ a).setCell ⟨k, 1, none⟩ b) :=
  turn_set (turn_set h hk a) hk b
theorem turn_one2 (w : World) (k : Nat) (a b : Value) : Turn (fun j => j = k) w ((w.setCell ⟨k, 0, none⟩ a).setCell ⟨k, 1, none⟩ b) := turn_set2 (F := fun j => j = k) (Turn.refl _ _) (Or.inl (show k = k from rfl)) a b
theorem At2.turn {F : Nat → Prop} {w w' : World} {B : Nat} {p q : Value} (h : At2 w B p q) (t : Turn F w w') (hn : ¬ F B) : At2 w' B p q := by
  obtain ⟨h1, h2, h3⟩ := h
  exact ⟨(t.cell (a := ⟨B, 0, none⟩) h3 hn).trans h1, (t.cell (a := ⟨B, 1, none⟩) h3 hn).trans h2, Nat.lt_of_lt_of_le h3 t.size⟩
theorem Ow2.turn {F : Nat → Prop} {w w' : World} {B : Nat} {p q : Value} (h : Ow2 w B p q) (t : Turn F w w') (hn : ¬ F B) : Ow2 w' B p q := by
  obtain ⟨h1, h2, h3⟩ := h
  exact ⟨h1.turn t hn, (t.frozen (a := ⟨B, 0, none⟩) h1.2.2 hn).trans h2, (t.frozen (a := ⟨B, 1, none⟩) h1.2.2 hn).trans h3⟩
theorem Keeps.turn {F : Nat → Prop} {w0 w w1 : World} {l : List (Nat × Value × Value)} (h : Keeps w0 w l) (t : Turn F w w1) (hF : ∀ k, F k → w0.heap.size ≤ k) (hl : ∀ b ∈ l, ¬ F b.1) : Keeps w0 w1 l :=
  ⟨h.1.trans (t.below hF h.1.size), fun b hm => (h.2 b hm).turn t (hl b hm)⟩
/-- A block that is there, and none of F. -/
def Out (F : Nat → Prop) (w : World) (b : Nat) : Prop := b < w.heap.size ∧ ¬ F b
theorem Out.turn {F F' : Nat → Prop} {w w' : World} {b : Nat} (h : Out F w b) (t : Turn F w w') (hF : ∀ k, F' k → F k ∨ w.heap.size ≤ k) : Out F' w' b :=
  ⟨Nat.lt_of_lt_of_le h.1 t.size, fun q => by
    rcases hF b q with q | q
    · exact h.2 q
    · have := h.1; omega⟩
theorem Out.below {F : Nat → Prop} {w w' : World} {B b : Nat} (h : Out F w b) (hb : Below B w w') : Out F w' b := ⟨Nat.lt_of_lt_of_le h.1 hb.size, h.2⟩
/-- A slice of numbers that lies outside F. -/
def SlO (F : Nat → Prop) (w : World) (v : Value) (L : List Int) : Prop := Sl w v L ∧ ∀ b, v.ownBlock = some b → Out F w b
theorem SlO.turn {F F' : Nat → Prop} {w w' : World} {v : Value} {L : List Int} (h : SlO F w v L) (t : Turn F w w') (hF : ∀ k, F' k → F k ∨ w.heap.size ≤ k) : SlO F' w' v L := by
  obtain ⟨⟨a, cap, rfl, h2, h3, h4, h5⟩, ho⟩ := h
  refine ⟨⟨a, cap, rfl, h2, h3, h4, fun i hi => ?_⟩, fun b hb => (ho b hb).turn t hF⟩
  obtain ⟨b, off, rfl, hc⟩ := h5 i hi
  exact ⟨b, off, rfl, (t.cell (a := ⟨b, off + i, none⟩) (ho b rfl).1 (ho b rfl).2).trans hc⟩
theorem SlO.below {F : Nat → Prop} {w w' : World} {v : Value} {L : List Int} (h : SlO F w v L) (hb : Below w.heap.size w w') : SlO F w' v L := ⟨h.1.below hb, fun b q => (h.2 b q).below hb⟩
/-- .. of whatever elements. -/
def SlCO (F : Nat → Prop) (w : World) (v : Value) (size n : Nat) (cs : List Value) : Prop := SlC w v size n cs ∧ ∀ b, v.ownBlock = some b → Out F w b
theorem SlCO.turn {F F' : Nat → Prop} {w w' : World} {v : Value} {size n : Nat} {cs : List Value} (h : SlCO F w v size n cs) (t : Turn F w w') (hF : ∀ k, F' k → F k ∨ w.heap.size ≤ k) : SlCO F' w' v size n cs := by
  obtain ⟨⟨a, cap, rfl, h2, h3, h4, h5⟩, ho⟩ := h
  refine ⟨⟨a, cap, rfl, h2, h3, h4, fun i hi => ?_⟩, fun b hb => (ho b hb).turn t hF⟩
  obtain ⟨b, off, rfl, hc⟩ := h5 i hi
  exact ⟨b, off, rfl, (t.cell (a := ⟨b, off + i, none⟩) (ho b rfl).1 (ho b rfl).2).trans hc⟩
theorem SlCO.below {F : Nat → Prop} {w w' : World} {v : Value} {size n : Nat} {cs : List Value} (h : SlCO F w v size n cs) (hb : Below w.heap.size w w') : SlCO F w' v size n cs := ⟨h.1.below hb, fun b q => (h.2 b q).below hb⟩
/-- What the call owns is out of what was there. -/
theorem own_out {F : Nat → Prop} {w : World} {base : Nat} {e : TypeId} {size n : Nat} {v : Value} {cs : List Value} (h : w.ownsRow base e size v n cs) (hF : ∀ k, F k → k < base) : SlCO F w v size n cs :=
  ⟨ownsRow_slc h, fun b hb => ⟨(World.ownsRow.lt h b hb).2, fun q => by have := hF b q; have := (World.ownsRow.lt h b hb).1; omega⟩⟩
/-- An object's own row, behind what turns other blocks. -/
theorem own_turn {F : Nat → Prop} {w w' : World} {base : Nat} {e : TypeId} {size n : Nat} {v : Value} {cs : List Value} (h : w.ownsRow base e size v n cs) (t : Turn F w w') (hn : ∀ b, v.ownBlock = some b → ¬ F b) : w'.ownsRow base e size v n cs := by
  have hlt := World.ownsRow.lt h
  refine ⟨h.1, ?_⟩
  rcases h.2 with q | ⟨g, cap, cur, rfl, h2, h3, h4⟩
  · exact Or.inl q
  · exact Or.inr ⟨g, cap, cur, rfl, h2, (t.block g (hlt g rfl).2 (hn g rfl)).trans h3, h4⟩
end Go.Proofs.Ytadbelkckeokjaa
