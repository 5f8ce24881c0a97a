/-
  The landed pile's blocks: the pile's own (less, the heap, how many were pushed), the box of the less that it was given, the heap's row. What keeps them, what a store, a push and a take turn, step by step. No Go function is walked here. No conditions.
-/
import Derived.Test.YtjkldjgeagociaaHepA
import Derived.Test.YtjkldjgeagociaaIntB0
import Derived.Lib.SliceRun
namespace Go.Proofs.Ytjkldjgeagociaa
open Go.RowKit
set_option linter.unusedSimpArgs false
set_option linter.unusedVariables false

/-- A pile whose block is B: its heap H lies in the slice v, p were pushed, the box of its less is b. -/
structure HepH (w : World) (B : Nat) (H : List Ent) (p : Int) (b : Nat) (v : Value) : Prop where
  c0 : w.cell? ⟨B, 0, none⟩ = some (CalmV b)
  c1 : w.cell? ⟨B, 1, none⟩ = some v
  c2 : w.cell? ⟨B, 2, none⟩ = some (.int .i64 p)
  z1 : w.frozen? ⟨B, 1, none⟩ = false
  z2 : w.frozen? ⟨B, 2, none⟩ = false
  l0 : w.cell? ⟨b, 0, none⟩ = some LessV
  row : w.ownsRow 0 60 3 v H.length (H.flatMap cells3)
  h1 : B ≠ b
  h2 : v.ownBlock ≠ some B
  h3 : v.ownBlock ≠ some b
def HepF (B b : Nat) (v : Value) (j : Nat) : Prop := j = B ∨ j = b ∨ v.ownBlock = some j
section
variable {w w' : World} {B b : Nat} {H : List Ent} {p : Int} {v : Value}
theorem HepH.lt (h : HepH w B H p b v) : B < w.heap.size := World.block_lt_of_cell? w _ h.c0
theorem HepH.ltb (h : HepH w B H p b v) : b < w.heap.size := World.block_lt_of_cell? w _ h.l0
theorem HepH.foot (h : HepH w B H p b v) : ∀ j, HepF B b v j → j < w.heap.size := by
  rintro j (rfl | rfl | q)
  · exact h.lt
  · exact h.ltb
  · exact (World.ownsRow.lt h.row j q).2
theorem HepH.keep (h : HepH w B H p b v) (hk : ∀ j, HepF B b v j → w'.heap[j]? = w.heap[j]?) : HepH w' B H p b v := by
  have hB := hk B (Or.inl rfl)
  have hb := hk b (Or.inr (Or.inl rfl))
  have hc : ∀ i, w'.cell? ⟨B, i, none⟩ = w.cell? ⟨B, i, none⟩ := fun i => by unfold World.cell?; rw [hB]
  have hz : ∀ i, w'.frozen? ⟨B, i, none⟩ = w.frozen? ⟨B, i, none⟩ := fun i => by unfold World.frozen?; rw [hB]
  have hl : w'.cell? ⟨b, 0, none⟩ = w.cell? ⟨b, 0, none⟩ := by unfold World.cell?; rw [hb]
  refine ⟨(hc 0).trans h.c0, (hc 1).trans h.c1, (hc 2).trans h.c2, (hz 1).trans h.z1, (hz 2).trans h.z2, hl.trans h.l0, ?_, h.h1, h.h2, h.h3⟩
  refine ⟨h.row.1, ?_⟩
  rcases h.row.2 with q | ⟨g, cap, cur, rfl, q2, q3, q4⟩
  · exact Or.inl q
  · exact Or.inr ⟨g, cap, cur, rfl, q2, (hk g (Or.inr (Or.inr rfl))).trans q3, q4⟩
theorem HepH.below (h : HepH w B H p b v) (hb : Below w.heap.size w w') : HepH w' B H p b v :=
  h.keep (fun j q => hb.block j (h.foot j q))
theorem HepH.drewN (h : HepH w B H p b v) (k : Nat) : HepH (w.drewN k) B H p b v := h.keep (fun j q => rfl)
theorem HepH.drew (h : HepH w B H p b v) : HepH w.drew B H p b v := h.keep (fun j q => rfl)
/-- A pile that is made: the box of the less, then the pile's block. -/
theorem HepH.made (w : World) (t u : TypeId) : HepH ((w.alloc (.cells #[LessV] t)).alloc (.cells #[CalmV w.heap.size, .slice none 0 0, .int .i64 0] u)) (w.heap.size + 1) [] 0 w.heap.size (.slice none 0 0) := by
  have hs : (w.alloc (.cells #[LessV] t)).heap.size = w.heap.size + 1 := by simp
  have hn := heap_alloc_new (w.alloc (.cells #[LessV] t)) (.cells #[CalmV w.heap.size, .slice none 0 0, .int .i64 0] u)
  rw [hs] at hn
  have ho := (heap_alloc_old (w.alloc (.cells #[LessV] t)) (.cells #[CalmV w.heap.size, .slice none 0 0, .int .i64 0] u) (show w.heap.size < _ by rw [hs]; omega)).trans (heap_alloc_new w (.cells #[LessV] t))
  refine ⟨?_, ?_, ?_, ?_, ?_, ?_, World.ownsRow_nil _ _ _ _, by omega, by simp [Value.ownBlock], by simp [Value.ownBlock]⟩
  · unfold World.cell?; rw [hn]; rfl
  · unfold World.cell?; rw [hn]; rfl
  · unfold World.cell?; rw [hn]; rfl
  · unfold World.frozen?; rw [hn]; rfl
  · unfold World.frozen?; rw [hn]; rfl
  · unfold World.cell?; rw [ho]; rfl
/-- One more was pushed. -/
theorem HepH.count (h : HepH w B H p b v) (q : Int) : HepH (w.setCell ⟨B, 2, none⟩ (.int .i64 q)) B H q b v ∧ Turn (HepF B b v) w (w.setCell ⟨B, 2, none⟩ (.int .i64 q)) := by
  have hne : ∀ i, i ≠ 2 → (⟨B, 2, none⟩ : Addr) ≠ ⟨B, i, none⟩ := fun i hi q => hi (by cases q; rfl)
  refine ⟨⟨(World.cell?_setCell_other _ _ _ _ (hne 0 (by decide))).trans h.c0, (World.cell?_setCell_other _ _ _ _ (hne 1 (by decide))).trans h.c1, World.cell?_setCell_same _ _ _ h.c2, (World.frozen?_setCell _ _ _ _).trans h.z1, (World.frozen?_setCell _ _ _ _).trans h.z2, (World.cell?_setCell_other _ _ _ _ (fun r => h.h1 (congrArg Addr.block r))).trans h.l0, ?_, h.h1, h.h2, h.h3⟩, turn_set (Turn.refl _ _) (p := ⟨B, 2, none⟩) (Or.inl (Or.inl rfl)) _⟩
  exact own_turn h.row (turn_set (Turn.refl (fun j => j = B) w) (p := ⟨B, 2, none⟩) (Or.inl rfl) _) (fun k q r => h.h2 (by rw [q, r]))
theorem HepH.own (h : HepH w B H p b v) : OwnO (fun j => j = B ∨ j = b) w 0 60 3 v H.length (H.flatMap cells3) :=
  ⟨h.row, fun k q => ⟨(World.ownsRow.lt h.row k q).2, fun r => r.elim (fun r => h.h2 (r ▸ q)) (fun r => h.h3 (r ▸ q))⟩⟩
/-- The row's block has turned alone, and the slice is laid anew. -/
theorem HepH.relay {H' : List Ent} {v' : Value} (h : HepH w B H p b v)
    (O : OwnO (fun j => j = B ∨ j = b) w' 0 60 3 v' H'.length (H'.flatMap cells3)) (t : Turn (fun j => v.ownBlock = some j) w w') (l : v'.ownBlock = v.ownBlock ∨ ∃ g, v'.ownBlock = some g ∧ w.heap.size ≤ g) :
    HepH (w'.setCell ⟨B, 1, none⟩ v') B H' p b v' ∧ Turn (HepF B b v) w (w'.setCell ⟨B, 1, none⟩ v') ∧ ∀ j, HepF B b v' j → HepF B b v j ∨ w.heap.size ≤ j := by
  have hB : w'.heap[B]? = w.heap[B]? := t.block B h.lt h.h2
  have hc : ∀ i, w'.cell? ⟨B, i, none⟩ = w.cell? ⟨B, i, none⟩ := fun i => by unfold World.cell?; rw [hB]
  have hz : ∀ i, w'.frozen? ⟨B, i, none⟩ = w.frozen? ⟨B, i, none⟩ := fun i => by unfold World.frozen?; rw [hB]
  have hl : w'.cell? ⟨b, 0, none⟩ = w.cell? ⟨b, 0, none⟩ := t.cell (a := ⟨b, 0, none⟩) h.ltb h.h3
  have ht : Turn (HepF B b v) w (w'.setCell ⟨B, 1, none⟩ v') :=
    turn_set (F := HepF B b v) (p := ⟨B, 1, none⟩) (t.mono (fun j q => Or.inr (Or.inr q))) (Or.inl (Or.inl rfl)) v'
  have hne : ∀ i, i ≠ 1 → (⟨B, 1, none⟩ : Addr) ≠ ⟨B, i, none⟩ := fun i hi q => hi (by cases q; rfl)
  refine ⟨⟨(World.cell?_setCell_other _ _ _ _ (hne 0 (by decide))).trans ((hc 0).trans h.c0), World.cell?_setCell_same _ _ _ ((hc 1).trans h.c1), (World.cell?_setCell_other _ _ _ _ (hne 2 (by decide))).trans ((hc 2).trans h.c2), (World.frozen?_setCell _ _ _ _).trans ((hz 1).trans h.z1), (World.frozen?_setCell _ _ _ _).trans ((hz 2).trans h.z2), (World.cell?_setCell_other _ _ _ _ (fun r => h.h1 (congrArg Addr.block r))).trans (hl.trans h.l0), ?_, h.h1, ?_, ?_⟩, ht, ?_⟩
  · exact own_turn O.1 (turn_set (Turn.refl (fun j => j = B) w') (p := ⟨B, 1, none⟩) (Or.inl rfl) v') (fun k q r => (O.2 k q).2 (Or.inl r))
  · intro q; exact (O.2 B q).2 (Or.inl rfl)
  · intro q; exact (O.2 b q).2 (Or.inr rfl)
  · rintro j (q | q | q)
    · exact Or.inl (Or.inl q)
    · exact Or.inl (Or.inr (Or.inl q))
    · rcases l with r | ⟨g, r, hg⟩
      · exact Or.inl (Or.inr (Or.inr (r ▸ q)))
      · rw [r] at q; cases q; exact Or.inr hg
/-- The row's block has turned alone, the slice as it was. -/
theorem HepH.rerow {H' : List Ent} (h : HepH w B H p b v) (hl : H'.length = H.length)
    (O : w'.ownsRow 0 60 3 v H'.length (H'.flatMap cells3)) (t : Turn (fun j => v.ownBlock = some j) w w') : HepH w' B H' p b v := by
  have hB : w'.heap[B]? = w.heap[B]? := t.block B h.lt h.h2
  have hc : ∀ i, w'.cell? ⟨B, i, none⟩ = w.cell? ⟨B, i, none⟩ := fun i => by unfold World.cell?; rw [hB]
  have hz : ∀ i, w'.frozen? ⟨B, i, none⟩ = w.frozen? ⟨B, i, none⟩ := fun i => by unfold World.frozen?; rw [hB]
  have hll : w'.cell? ⟨b, 0, none⟩ = w.cell? ⟨b, 0, none⟩ := t.cell (a := ⟨b, 0, none⟩) h.ltb h.h3
  exact ⟨(hc 0).trans h.c0, (hc 1).trans h.c1, (hc 2).trans h.c2, (hz 1).trans h.z1, (hz 2).trans h.z2, hll.trans h.l0, O, h.h1, h.h2, h.h3⟩
end
/-- The row's slice, where there is something in it. -/
theorem HepH.slice {w : World} {B b : Nat} {H : List Ent} {p : Int} {v : Value} (h : HepH w B H p b v) (h0 : 0 < H.length) : ∃ g cap, v = .slice (some ⟨g, 0, none⟩) H.length cap := by
  rcases h.row.2 with ⟨_, q⟩ | ⟨g, cap, cur, q, _⟩
  · omega
  · exact ⟨g, cap, q⟩
theorem HepH.form {w : World} {B b : Nat} {H : List Ent} {p : Int} {v : Value} (h : HepH w B H p b v) : ∃ a cap, v = .slice a H.length cap := (ownsRow_slc h.row).form
section
variable {w : World} {g n cap : Nat} {H : List Ent}
abbrev RowE (w : World) (g cap : Nat) (H : List Ent) : Prop := w.ownsRow 0 60 3 (.slice (some ⟨g, 0, none⟩) H.length cap) H.length (H.flatMap cells3)
/-- The cells of an entry. -/
theorem row_at (h : RowE w g cap H) {i : Nat} (hi : i < H.length) :
    w.cell? ⟨g, i * 3, none⟩ = some (.int .i64 (at3 H i).1) ∧ w.cell? ⟨g, i * 3 + 1, none⟩ = some (.int .i64 (at3 H i).2.1) ∧ w.cell? ⟨g, i * 3 + 2, none⟩ = some (.int .i64 (at3 H i).2.2) :=
  ⟨(h.cellAt _ (by omega)).trans (flat3_at H i 0 hi (by omega)), (h.cellAt _ (by omega)).trans (flat3_at H i 1 hi (by omega)), (h.cellAt _ (by omega)).trans (flat3_at H i 2 hi (by omega))⟩
/-- An entry is laid. -/
theorem row_put (h : RowE w g cap H) {i : Nat} (hi : i < H.length) (e : Ent) :
    RowE (((w.setCell ⟨g, i * 3, none⟩ (.int .i64 e.1)).setCell ⟨g, i * 3 + 1, none⟩ (.int .i64 e.2.1)).setCell ⟨g, i * 3 + 2, none⟩ (.int .i64 e.2.2)) g cap (H.set i e) ∧
      Turn (fun j => j = g) w (((w.setCell ⟨g, i * 3, none⟩ (.int .i64 e.1)).setCell ⟨g, i * 3 + 1, none⟩ (.int .i64 e.2.1)).setCell ⟨g, i * 3 + 2, none⟩ (.int .i64 e.2.2)) := by
  have h3 := (((h.stored (i * 3) (.int .i64 e.1)).1.stored (i * 3 + 1) (.int .i64 e.2.1)).1.stored (i * 3 + 2) (.int .i64 e.2.2)).1
  rw [flat3_set H i e hi] at h3
  refine ⟨?_, turn_set (turn_set (turn_set (Turn.refl (fun j => j = g) _) (p := ⟨g, i * 3, none⟩) (Or.inl rfl) _) (p := ⟨g, i * 3 + 1, none⟩) (Or.inl rfl) _) (p := ⟨g, i * 3 + 2, none⟩) (Or.inl rfl) _⟩
  unfold RowE
  rw [List.length_set]
  exact h3
/-- Two are changed for each other. -/
theorem row_swap (h : RowE w g cap H) {i j : Nat} (hi : i < H.length) (hj : j < H.length) :
    RowE ((((((w.setCell ⟨g, i * 3, none⟩ (.int .i64 (at3 H j).1)).setCell ⟨g, i * 3 + 1, none⟩ (.int .i64 (at3 H j).2.1)).setCell ⟨g, i * 3 + 2, none⟩ (.int .i64 (at3 H j).2.2)).setCell ⟨g, j * 3, none⟩ (.int .i64 (at3 H i).1)).setCell ⟨g, j * 3 + 1, none⟩ (.int .i64 (at3 H i).2.1)).setCell ⟨g, j * 3 + 2, none⟩ (.int .i64 (at3 H i).2.2)) g cap (swp H i j) ∧
      Turn (fun k => k = g) w ((((((w.setCell ⟨g, i * 3, none⟩ (.int .i64 (at3 H j).1)).setCell ⟨g, i * 3 + 1, none⟩ (.int .i64 (at3 H j).2.1)).setCell ⟨g, i * 3 + 2, none⟩ (.int .i64 (at3 H j).2.2)).setCell ⟨g, j * 3, none⟩ (.int .i64 (at3 H i).1)).setCell ⟨g, j * 3 + 1, none⟩ (.int .i64 (at3 H i).2.1)).setCell ⟨g, j * 3 + 2, none⟩ (.int .i64 (at3 H i).2.2)) := by
  obtain ⟨r1, t1⟩ := row_put h hi (at3 H j)
  obtain ⟨r2, t2⟩ := row_put r1 (i := j) (by rw [List.length_set]; exact hj) (at3 H i)
  exact ⟨r2, t1.trans t2 (fun k q => Or.inl q)⟩
/-- The last one wiped, the row one shorter. -/
theorem row_less (h : RowE w g cap H) (h0 : 0 < H.length) (a b c : Value) :
    RowE (((w.setCell ⟨g, (H.length - 1) * 3, none⟩ a).setCell ⟨g, (H.length - 1) * 3 + 1, none⟩ b).setCell ⟨g, (H.length - 1) * 3 + 2, none⟩ c) g cap (H.take (H.length - 1)) ∧
      Turn (fun j => j = g) w (((w.setCell ⟨g, (H.length - 1) * 3, none⟩ a).setCell ⟨g, (H.length - 1) * 3 + 1, none⟩ b).setCell ⟨g, (H.length - 1) * 3 + 2, none⟩ c) := by
  have h3 := (((h.stored ((H.length - 1) * 3) a).1.stored ((H.length - 1) * 3 + 1) b).1.stored ((H.length - 1) * 3 + 2) c).1
  refine ⟨?_, turn_set (turn_set (turn_set (Turn.refl (fun j => j = g) _) (p := ⟨g, (H.length - 1) * 3, none⟩) (Or.inl rfl) _) (p := ⟨g, (H.length - 1) * 3 + 1, none⟩) (Or.inl rfl) _) (p := ⟨g, (H.length - 1) * 3 + 2, none⟩) (Or.inl rfl) _⟩
  have hlen : (H.take (H.length - 1)).length = H.length - 1 := by rw [List.length_take]; omega
  unfold RowE
  rw [hlen]
  generalize ((w.setCell ⟨g, (H.length - 1) * 3, none⟩ a).setCell ⟨g, (H.length - 1) * 3 + 1, none⟩ b).setCell ⟨g, (H.length - 1) * 3 + 2, none⟩ c = W at *
  refine ⟨by rw [flat3_len, hlen], ?_⟩
  rcases h3.2 with ⟨q, _⟩ | ⟨g', cap', cur, q, q1, q2, q3, q4, q5, q6⟩
  · cases q
  · cases q
    refine Or.inr ⟨g, cap, cur, rfl, q1, q2, by omega, q4, q5, ?_⟩
    have e : cur.toList.take ((H.length - 1) * 3) = ((((H.flatMap cells3).set ((H.length - 1) * 3) a).set ((H.length - 1) * 3 + 1) b).set ((H.length - 1) * 3 + 2) c).take ((H.length - 1) * 3) := by rw [← q6, List.take_take, Nat.min_eq_left (by omega)]
    rw [← flat3_take, e, List.take_set_of_le (by omega), List.take_set_of_le (by omega), List.take_set_of_le (by omega)]
end
/-- 'clear' of the last one. -/
theorem clear_last (w : World) (g cap cap2 : Nat) (H : List Ent) (h : RowE w g cap H) (h0 : 0 < H.length) (ty : TypeId) :
    (Builtin.clear_ #[48] ty #[.slice (some ⟨g, (H.length - 1) * 3, none⟩) 1 cap2]).run Try.prog w = .ok (.tuple #[]) (((w.setCell ⟨g, (H.length - 1) * 3, none⟩ (.int .i64 0)).setCell ⟨g, (H.length - 1) * 3 + 1, none⟩ (.int .i64 0)).setCell ⟨g, (H.length - 1) * 3 + 2, none⟩ (.int .i64 0)) := by
  have ht : Try.prog.underlying 48 = some (.slice 60) := Try.underlying48
  have hv : ∀ w, (zeroValue 60).run Try.prog w = .ok (.agg #[.int .i64 0, .int .i64 0, .int .i64 0]) w := fun w => by kernel_rfl
  have hzc : (Builtin.zeroCells (Value.agg #[.int .i64 0, .int .i64 0, .int .i64 0]).cells 1).toList = [.int .i64 0, .int .i64 0, .int .i64 0] := by simp [Builtin.zeroCells, Value.cells]; rfl
  have hst := run_storeCells_cells (P := Try.prog) g ((H.length - 1) * 3) [.int .i64 0, .int .i64 0, .int .i64 0] 0 w (fun j hj => by
      have hj' : j < 3 := hj
      rw [Nat.add_zero, h.cellAt _ (by omega), flat3_at H (H.length - 1) j (by omega) hj']
      have : j = 0 ∨ j = 1 ∨ j = 2 := by omega
      rcases this with rfl | rfl | rfl <;> rfl) (fun j hj => h.frozenAt _) (by intro u hu; simp at hu; subst hu; rfl)
  simp only [Nat.add_zero] at hst
  simp [Builtin.clear_, run_underlying ht, hv, hzc, hst]
  rfl
end Go.Proofs.Ytjkldjgeagociaa
