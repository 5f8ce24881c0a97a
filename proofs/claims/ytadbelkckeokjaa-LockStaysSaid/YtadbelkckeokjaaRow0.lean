/-
  Slices of numbers that a call has made for itself: what they read as, and what an append to one leaves. No Go function is walked here.
-/
import Derived.Test.YtadbelkckeokjaaChecked
import Derived.Test.YtadbelkckeokjaaMath
import Derived.Laws.AppendOwnNone
namespace Go.Proofs.Ytadbelkckeokjaa
open Go.RowKit

/-- The slice v is one of the call's own (from block 'base' on), and its numbers are L. -/
def Own (w : World) (base : Nat) (v : Value) (L : List Int) : Prop := w.ownsRow base 3 1 v L.length (L.map (Value.int .i64))

theorem Own.nil (w : World) (base : Nat) : Own w base (.slice none 0 0) [] := World.ownsRow_nil _ _ _ _
theorem Own.alloc {w : World} {base : Nat} {v : Value} {L : List Int} (h : Own w base v L) (o : Obj) : Own (w.alloc o) base v L := World.ownsRow.alloc h o

theorem Own.lit (w : World) : Own (w.alloc (.cells #[] 3)) w.heap.size (.slice (some ⟨w.heap.size, 0, none⟩) 0 0) [] :=
  World.ownsRow_lit (base := w.heap.size) (e := 3) (size := 1) w #[] 0 (Nat.le_refl _) (by unfold maxLen; omega) rfl

/-- It reads as its list. -/
theorem Own.reads {w : World} {base : Nat} {v : Value} {L : List Int} (h : Own w base v L) (hL : ∀ z ∈ L, InR z) :
    ∃ a cap, v = .slice a L.length cap ∧ (a = none → cap = 0) ∧ Reads w a L := by
  rcases h.2 with ⟨rfl, h0⟩ | ⟨g, cap, cur, rfl, _⟩
  · refine ⟨none, 0, by rw [h0], fun _ => rfl, hL, fun i hi => by omega⟩
  · refine ⟨some ⟨g, 0, none⟩, cap, rfl, fun hh => by (cases hh), hL, fun i hi => ⟨g, 0, rfl, ?_⟩⟩
    have := World.ownsRow.cellAt h i (by omega)
    rw [Nat.zero_add, this, List.getElem?_map, List.getElem?_eq_getElem hi, getD_lt _ _ hi]
    rfl

/-- It stays as it is while only older blocks' world grows. -/
theorem Own.below {w w' : World} {base : Nat} {v : Value} {L : List Int} (h : Own w base v L) (hb : Below w.heap.size w w') : Own w' base v L :=
  World.ownsRow.kept (row := none) h ⟨hb.os, hb.tape, hb.output, hb.size, fun k hk _ => hb.block k hk⟩ (by cases hv : v.ownBlock <;> simp)

theorem int_info : (Try.prog.info? 3).map (fun i => (i.zero, i.size, i.bytes)) = some (some (.int .i64 0), 1, 8) := by kernel_rfl

theorem one_cell (L : List Int) : ∀ u ∈ L.map (Value.int .i64), u.oneCell' = true := by
  intro u hu
  obtain ⟨z, _, rfl⟩ := List.mem_map.1 hu
  rfl

theorem grown_below {w w' : World} {base : Nat} {v : Value} {L : List Int} (h : Own w base v L) (hb : base ≤ w.heap.size) (hg : w.grownBy w' v.ownBlock) : Below base w w' :=
  (Below.refl _ _).grown hg hb (fun k hk => (World.ownsRow.lt h k hk).1)

/-- What is known of a slice of numbers that came in: it is nil, or leads to a row of numbers that fit. -/
def RowOf (w : World) (a : Option Addr) (len cap : Nat) (zs : List Int) : Prop :=
  (a = none ∧ len = 0 ∧ cap = 0 ∧ zs = []) ∨
  ∃ x, a = some x ∧ len ≤ cap ∧ cap ≤ maxLen ∧ zs.length = cap ∧ (∀ i, i < zs.length → w.cell? (x.add i) = some (.int .i64 (zs.getD i 0))) ∧ ∀ n ∈ zs, (Lit.int .i64 n).wf = true

theorem RowOf.reads {w : World} {a : Option Addr} {len cap : Nat} {zs : List Int} (h : RowOf w a len cap zs) : ∃ L : List Int, L.length = len ∧ Reads w a L ∧ (a = none → cap = 0) := by
  rcases h with ⟨rfl, rfl, rfl, rfl⟩ | ⟨x, rfl, hl, hm, hz, hcell, hwz⟩
  · exact ⟨[], rfl, ⟨fun z hz => by (cases hz), fun i hi => by (cases hi)⟩, fun _ => rfl⟩
  · refine ⟨zs.take len, by rw [List.length_take]; omega, ⟨fun z hz => inR_of (hwz z (List.mem_of_mem_take hz)), fun i hi => ?_⟩, fun h => by (cases h)⟩
    rw [List.length_take] at hi
    have hc := hcell i (by omega)
    obtain ⟨b, off, spot⟩ := x
    have h0 := hcell 0 (by omega)
    have hspot : spot = none := by simpa [Addr.add] using World.cell?_spot h0
    subst hspot
    refine ⟨b, off, rfl, ?_⟩
    have e1 : (zs.take len).getD i 0 = zs.getD i 0 := by
      rw [getD_lt _ _ (by rw [List.length_take]; omega), getD_lt _ _ (by omega), List.getElem_take]
    rw [e1]
    by_cases hi0 : i = 0
    · subst hi0; simpa [Addr.add] using hc
    · simpa [Addr.add, hi0] using hc

/-- The slice v reads as the numbers L. -/
def Sl (w : World) (v : Value) (L : List Int) : Prop := ∃ a cap, v = .slice a L.length cap ∧ L.length ≤ cap ∧ (a = none → cap = 0) ∧ Reads w a L

theorem Sl.form {w : World} {v : Value} {L : List Int} (h : Sl w v L) : ∃ a cap, v = .slice a L.length cap := by
  obtain ⟨a, cap, h1, _⟩ := h; exact ⟨a, cap, h1⟩

theorem Sl.below {w w' : World} {v : Value} {L : List Int} (h : Sl w v L) (hb : Below w.heap.size w w') : Sl w' v L := by
  obtain ⟨a, cap, h1, h2, h3, h4⟩ := h
  exact ⟨a, cap, h1, h2, h3, h4.below hb⟩
theorem Sl.alloc {w : World} {v : Value} {L : List Int} (h : Sl w v L) (o : Obj) : Sl (w.alloc o) v L := h.below ((Below.refl _ _).alloc (Nat.le_refl _) _)
theorem Sl.drew {w : World} {v : Value} {L : List Int} (h : Sl w v L) : Sl w.drew v L := h.below ((Below.refl _ _).drew)

theorem Own.sl {w : World} {base : Nat} {v : Value} {L : List Int} (h : Own w base v L) (hL : ∀ z ∈ L, InR z) : Sl w v L := by
  obtain ⟨a, cap, hv, h1, h2⟩ := h.reads hL
  refine ⟨a, cap, hv, ?_, h1, h2⟩
  rcases h.2 with ⟨rfl, h0⟩ | ⟨g, cap', cur, rfl, _, _, h5, _⟩
  · omega
  · injection hv with _ _ h6; omega

end Go.Proofs.Ytadbelkckeokjaa
