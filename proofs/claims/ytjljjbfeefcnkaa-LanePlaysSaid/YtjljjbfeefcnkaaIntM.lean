/-
  Tables of numbers in plain words, without any Go function: what is found, what gets a number, what is cut off; a value of a slice of numbers with a number beside it. No conditions.
-/
import Derived.Test.YtjljjbfeefcnkaaRow
namespace Go.Proofs.Ytjljjbfeefcnkaa
open Go.RowKit
set_option linter.unusedSimpArgs false
set_option linter.unusedVariables false

/-- A value of a slice of numbers, and a number. -/
def Tab (w : World) (v : Value) (K : List Int) (m : Int) : Prop := ∃ u, v = .agg #[u, .int .i64 m] ∧ Sl w u K
theorem Tab.below {w w' : World} {v : Value} {K : List Int} {m : Int} (h : Tab w v K m) (hb : Below w.heap.size w w') : Tab w' v K m := by
  obtain ⟨u, h1, h2⟩ := h; exact ⟨u, h1, h2.below hb⟩
theorem Tab.alloc {w : World} {v : Value} {K : List Int} {m : Int} (h : Tab w v K m) (o : Obj) : Tab (w.alloc o) v K m := h.below ((Below.refl _ _).alloc (Nat.le_refl _) _)
theorem Tab.form {w : World} {v : Value} {K : List Int} {m : Int} (h : Tab w v K m) : ∃ a c, v = .agg #[.slice a K.length c, .int .i64 m] := by
  obtain ⟨u, rfl, h⟩ := h
  obtain ⟨a, c, rfl⟩ := h.form
  exact ⟨a, c, rfl⟩
theorem Sl.nil (w : World) : Sl w (.slice none 0 0) [] := ⟨none, 0, rfl, Nat.zero_le _, fun _ => rfl, fun z hz => by (cases hz), fun i hi => by (cases hi)⟩
theorem Tab.nil (w : World) (m : Int) : Tab w (.agg #[.slice none 0 0, .int .i64 m]) [] m := ⟨_, rfl, Sl.nil w⟩

/-- .. that lies where it may. -/
def TabG (G : Nat → Prop) (w : World) (v : Value) (K : List Int) (m : Int) : Prop := ∃ u, v = .agg #[u, .int .i64 m] ∧ Sl w u K ∧ ∀ b, u.ownBlock = some b → b < w.heap.size ∧ G b
theorem TabG.tab {G : Nat → Prop} {w : World} {v : Value} {K : List Int} {m : Int} (h : TabG G w v K m) : Tab w v K m := by
  obtain ⟨u, h1, h2, _⟩ := h; exact ⟨u, h1, h2⟩
theorem TabG.below {G : Nat → Prop} {w w' : World} {v : Value} {K : List Int} {m : Int} (h : TabG G w v K m) (hb : Below w.heap.size w w') : TabG G w' v K m := by
  obtain ⟨u, h1, h2, h3⟩ := h; exact ⟨u, h1, h2.below hb, fun b q => ⟨Nat.lt_of_lt_of_le (h3 b q).1 hb.size, (h3 b q).2⟩⟩
theorem TabG.mono {G G' : Nat → Prop} {w : World} {v : Value} {K : List Int} {m : Int} (h : TabG G w v K m) (hG : ∀ b, G b → G' b) : TabG G' w v K m := by
  obtain ⟨u, h1, h2, h3⟩ := h; exact ⟨u, h1, h2, fun b q => ⟨(h3 b q).1, hG b (h3 b q).2⟩⟩
theorem TabG.nil (G : Nat → Prop) (w : World) (m : Int) : TabG G w (.agg #[.slice none 0 0, .int .i64 m]) [] m := ⟨_, rfl, Sl.nil w, fun b q => by (cases q)⟩
/-- How many there may be. -/
def OkT (m : Int) : Prop := 1 ≤ m ∧ m ≤ 20000
instance instDecOkT (m : Int) : Decidable (OkT m) := by unfold OkT; infer_instance
/-- The place of a key. -/
def fndi (K : List Int) (k : Int) : Int := if k ∈ K then (K.idxOf k : Int) else 0
/-- A key gets its number. -/
def tidK (K : List Int) (m k : Int) : List Int := if k ∈ K then K else if m ≤ (K.length : Int) then K else K ++ [k]
def tidN (K : List Int) (m k : Int) : Int := if k ∈ K then (K.idxOf k : Int) else if m ≤ (K.length : Int) then 0 else (K.length : Int)
def tidE (K : List Int) (m k : Int) : Int := if k ∈ K then 0 else if m ≤ (K.length : Int) then 3 else 0
/-- A number's key. -/
def OkI (K : List Int) (i : Int) : Prop := 0 ≤ i ∧ i < (K.length : Int)
instance instDecOkI (K : List Int) (i : Int) : Decidable (OkI K i) := by unfold OkI; infer_instance
def tkey (K : List Int) (i : Int) : Int := if OkI K i then K.getD i.toNat 0 else 0
/-- What stays. -/
def tcut (K : List Int) (n : Int) : List Int := K.take n.toNat
end Go.Proofs.Ytjljjbfeefcnkaa
