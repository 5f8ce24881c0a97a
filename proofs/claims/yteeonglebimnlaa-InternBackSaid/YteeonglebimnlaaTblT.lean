/-
  A table: a block of three cells (the most, a slice of keys, a map from keys to numbers). What it is, what keeps it, what is made, what a new key and a cut turn, step by step. No Go function is walked here.
-/
import Derived.Test.YteeonglebimnlaaMapW
import Derived.Test.YteeonglebimnlaaIntK
import Derived.Test.YteeonglebimnlaaIntB
import Derived.Lib.SliceRun
namespace Go.Proofs.Yteeonglebimnlaa
open Go.RowKit Go.Maps Go.MapFns
set_option linter.unusedSimpArgs false
set_option linter.unusedVariables false
set_option linter.unusedSectionVars false

section
variable {κ : Type} [DecidableEq κ] {P : Program} {kt it e : TypeId} {size : Nat} {ok : κ → Prop} {lit : κ → Lit} {cs : κ → List Value}
/-- The number of a key, where it has one. -/
def kf (K : List κ) (k : κ) : Option Int := if k ∈ K then some (gix K k : Int) else none
theorem kf_some {K : List κ} {k : κ} : (kf K k).isSome = decide (k ∈ K) := by unfold kf; by_cases h : k ∈ K <;> simp [h]
theorem kf_get {K : List κ} {k : κ} : (kf K k).getD 0 = gfnd K k := by unfold kf gfnd gix; by_cases h : k ∈ K <;> simp [h]
theorem kf_in {K : List κ} {k : κ} (h : k ∈ K) : (kf K k).isSome = true := by unfold kf; rw [if_pos h]; rfl
theorem kf_out {K : List κ} {k : κ} (h : ¬ k ∈ K) : (kf K k).isSome = false := by unfold kf; rw [if_neg h]; rfl
theorem kf_put {K : List κ} {k : κ} (h : ¬ k ∈ K) (j : κ) : (if j = k then some (K.length : Int) else kf K j) = kf (K ++ [k]) j := by
  unfold kf gix
  by_cases e : j = k
  · subst e
    rw [if_pos rfl, if_pos (by simp), List.idxOf_append, if_neg h]
    simp
  · rw [if_neg e]
    by_cases hj : j ∈ K
    · rw [if_pos hj, if_pos (List.mem_append_left _ hj), List.idxOf_append, if_pos hj]
    · rw [if_neg hj, if_neg (by simp [hj, e])]

/-- A table whose block is B: its map bm holds c keys as f tells, its slice v holds the keys R. -/
structure TabH (P : Program) (kt it e : TypeId) (size : Nat) (ok : κ → Prop) (lit : κ → Lit) (cs : κ → List Value) (w : World) (B : Nat) (m : Int) (R : List κ) (c : Nat) (f : κ → Option Int) (bm : Nat) (v : Value) : Prop where
  c0 : w.cell? ⟨B, 0, none⟩ = some (.int .i64 m)
  c1 : w.cell? ⟨B, 1, none⟩ = some v
  c2 : w.cell? ⟨B, 2, none⟩ = some (.map (some bm))
  z1 : w.frozen? ⟨B, 1, none⟩ = false
  map : MapFn P kt it ok lit w bm c f
  row : w.ownsRow 0 e size v R.length (R.flatMap cs)
  h1 : B ≠ bm
  h2 : v.ownBlock ≠ some B
  h3 : v.ownBlock ≠ some bm
  lt : B < w.heap.size
abbrev TabP (P : Program) (kt it e : TypeId) (size : Nat) (ok : κ → Prop) (lit : κ → Lit) (cs : κ → List Value) (w : World) (B : Nat) (m : Int) (K : List κ) (bm : Nat) (v : Value) : Prop := TabH P kt it e size ok lit cs w B m K K.length (kf K) bm v
def TabF (B bm : Nat) (v : Value) (j : Nat) : Prop := j = B ∨ j = bm ∨ v.ownBlock = some j
def RepT (P : Program) (kt it e : TypeId) (size : Nat) (ok : κ → Prop) (lit : κ → Lit) (cs : κ → List Value) (w : World) (B : Nat) (m : Int) (K : List κ) (F : Nat → Prop) : Prop :=
  (K.Nodup ∧ (K.length : Int) ≤ m ∧ 1 ≤ m ∧ m ≤ 20000 ∧ ∀ k ∈ K, ok k) ∧ ∃ bm v, TabP P kt it e size ok lit cs w B m K bm v ∧ F = TabF B bm v
section
variable {w w' : World} {B : Nat} {m : Int} {R : List κ} {c : Nat} {f : κ → Option Int} {bm : Nat} {v : Value}
theorem TabH.foot (h : TabH P kt it e size ok lit cs w B m R c f bm v) : ∀ j, TabF B bm v j → j < w.heap.size := by
  rintro j (rfl | rfl | q)
  · exact h.lt
  · exact h.map.lt
  · exact (World.ownsRow.lt h.row j q).2
theorem TabH.keep (h : TabH P kt it e size ok lit cs w B m R c f bm v) (hs : w.heap.size ≤ w'.heap.size) (hk : ∀ j, TabF B bm v j → w'.heap[j]? = w.heap[j]?) : TabH P kt it e size ok lit cs w' B m R c f bm v := by
  have hB := hk B (Or.inl rfl)
  have hc : ∀ i, w'.cell? ⟨B, i, none⟩ = w.cell? ⟨B, i, none⟩ := fun i => by unfold World.cell?; rw [hB]
  have hz : ∀ i, w'.frozen? ⟨B, i, none⟩ = w.frozen? ⟨B, i, none⟩ := fun i => by unfold World.frozen?; rw [hB]
  refine ⟨(hc 0).trans h.c0, (hc 1).trans h.c1, (hc 2).trans h.c2, (hz 1).trans h.z1, h.map.keep (hk bm (Or.inr (Or.inl rfl))), ?_, h.h1, h.h2, h.h3, Nat.lt_of_lt_of_le h.lt hs⟩
  refine ⟨h.row.1, ?_⟩
  rcases h.row.2 with q | ⟨g, cap, cur, rfl, q2, q3, q4⟩
  · exact Or.inl q
  · exact Or.inr ⟨g, cap, cur, rfl, q2, (hk g (Or.inr (Or.inr rfl))).trans q3, q4⟩
theorem TabH.below (h : TabH P kt it e size ok lit cs w B m R c f bm v) (hb : Below w.heap.size w w') : TabH P kt it e size ok lit cs w' B m R c f bm v :=
  h.keep hb.size (fun j q => hb.block j (h.foot j q))
theorem TabH.drewN (h : TabH P kt it e size ok lit cs w B m R c f bm v) (k : Nat) : TabH P kt it e size ok lit cs (w.drewN k) B m R c f bm v :=
  h.keep (Nat.le_refl _) (fun j q => rfl)
/-- The map's block has turned alone: the map is another one. -/
theorem TabH.remap {c' : Nat} {f' : κ → Option Int} (h : TabH P kt it e size ok lit cs w B m R c f bm v) (M : MapFn P kt it ok lit w' bm c' f') (g : w.grownBy w' (some bm)) :
    TabH P kt it e size ok lit cs w' B m R c' f' bm v ∧ Turn (TabF B bm v) w w' := by
  have hB : w'.heap[B]? = w.heap[B]? := g.block B h.lt (fun r => h.h1 (by simpa using r))
  have hc : ∀ i, w'.cell? ⟨B, i, none⟩ = w.cell? ⟨B, i, none⟩ := fun i => by unfold World.cell?; rw [hB]
  have hz : ∀ i, w'.frozen? ⟨B, i, none⟩ = w.frozen? ⟨B, i, none⟩ := fun i => by unfold World.frozen?; rw [hB]
  exact ⟨⟨(hc 0).trans h.c0, (hc 1).trans h.c1, (hc 2).trans h.c2, (hz 1).trans h.z1, M, h.row.kept g (Or.inr h.h3), h.h1, h.h2, h.h3, Nat.lt_of_lt_of_le h.lt g.size⟩,
    ⟨g.os, g.tape, g.output, g.size, fun j hj hne => g.block j hj (fun r => hne (Or.inr (Or.inl (by simpa using r))))⟩⟩
/-- The slice's block has turned alone, and the slice is laid anew. -/
theorem TabH.relay {R' : List κ} {v' : Value} (h : TabH P kt it e size ok lit cs w B m R c f bm v)
    (O : OwnO (fun j => j = B ∨ j = bm) w' 0 e size v' R'.length (R'.flatMap cs)) (t : Turn (fun j => v.ownBlock = some j) w w') (l : v'.ownBlock = v.ownBlock ∨ ∃ g, v'.ownBlock = some g ∧ w.heap.size ≤ g) :
    TabH P kt it e size ok lit cs (w'.setCell ⟨B, 1, none⟩ v') B m R' c f bm v' ∧ Turn (TabF B bm v) w (w'.setCell ⟨B, 1, none⟩ v') ∧ ∀ j, TabF B bm v' j → TabF B bm v j ∨ w.heap.size ≤ j := by
  have hB : w'.heap[B]? = w.heap[B]? := t.block B h.lt h.h2
  have hc : ∀ i, w'.cell? ⟨B, i, none⟩ = w.cell? ⟨B, i, none⟩ := fun i => by unfold World.cell?; rw [hB]
  have hz : ∀ i, w'.frozen? ⟨B, i, none⟩ = w.frozen? ⟨B, i, none⟩ := fun i => by unfold World.frozen?; rw [hB]
  have hbm : (w'.setCell ⟨B, 1, none⟩ v').heap[bm]? = w.heap[bm]? := (Below.heap_setCell w' ⟨B, 1, none⟩ v' bm (fun q => h.h1 q.symm)).trans (t.block bm h.map.lt h.h3)
  have ht : Turn (TabF B bm v) w (w'.setCell ⟨B, 1, none⟩ v') :=
    turn_set (F := TabF B bm v) (p := ⟨B, 1, none⟩) (t.mono (fun j q => Or.inr (Or.inr q))) (Or.inl (Or.inl rfl)) v'
  have hne : ∀ i, i ≠ 1 → (⟨B, 1, none⟩ : Addr) ≠ ⟨B, i, none⟩ := fun i hi q => hi (by cases q; rfl)
  refine ⟨⟨(World.cell?_setCell_other _ _ _ _ (hne 0 (by decide))).trans ((hc 0).trans h.c0), World.cell?_setCell_same _ _ _ ((hc 1).trans h.c1), (World.cell?_setCell_other _ _ _ _ (hne 2 (by decide))).trans ((hc 2).trans h.c2), (World.frozen?_setCell _ _ _ _).trans ((hz 1).trans h.z1), h.map.keep hbm, ?_, h.h1, ?_, ?_, ?_⟩, ht, ?_⟩
  · exact own_turn O.1 (turn_set (Turn.refl (fun j => j = B) w') (p := ⟨B, 1, none⟩) (Or.inl rfl) v') (fun b q r => (O.2 b q).2 (Or.inl r))
  · intro q; exact (O.2 B q).2 (Or.inl rfl)
  · intro q; exact (O.2 bm q).2 (Or.inr rfl)
  · exact Nat.lt_of_lt_of_le h.lt ht.size
  · rintro j (q | q | q)
    · exact Or.inl (Or.inl q)
    · exact Or.inl (Or.inr (Or.inl q))
    · rcases l with r | ⟨g, r, hg⟩
      · exact Or.inl (Or.inr (Or.inr (r ▸ q)))
      · rw [r] at q; cases q; exact Or.inr hg
/-- What the table owns is none of its other blocks. -/
theorem TabH.own (h : TabH P kt it e size ok lit cs w B m R c f bm v) : OwnO (fun j => j = B ∨ j = bm) w 0 e size v R.length (R.flatMap cs) :=
  ⟨h.row, fun b q => ⟨(World.ownsRow.lt h.row b q).2, fun r => r.elim (fun r => h.h2 (r ▸ q)) (fun r => h.h3 (r ▸ q))⟩⟩
theorem TabH.same {R' : List κ} {c' : Nat} {f' : κ → Option Int} (h : TabH P kt it e size ok lit cs w B m R c f bm v) (e1 : R = R') (e2 : c = c') (e3 : ∀ k, f k = f' k) : TabH P kt it e size ok lit cs w B m R' c' f' bm v := by
  subst e1 e2
  rwa [show f' = f from (funext e3).symm]
end
theorem RepT.foot {w : World} {B : Nat} {m : Int} {K : List κ} {F : Nat → Prop} (h : RepT P kt it e size ok lit cs w B m K F) : ∀ j, F j → j < w.heap.size := by
  obtain ⟨_, bm, v, h, rfl⟩ := h
  exact h.foot
theorem RepT.keep {w w' : World} {B : Nat} {m : Int} {K : List κ} {F : Nat → Prop} (h : RepT P kt it e size ok lit cs w B m K F) (hs : w.heap.size ≤ w'.heap.size) (hk : ∀ j, F j → w'.heap[j]? = w.heap[j]?) : RepT P kt it e size ok lit cs w' B m K F := by
  obtain ⟨h0, bm, v, h, rfl⟩ := h
  exact ⟨h0, bm, v, h.keep hs hk, rfl⟩
/-- A table that is made: the map's block, then the table's. -/
theorem TabP.made (w : World) (m : Int) (t : TypeId) : TabP P kt it e size ok lit cs ((w.alloc (.map #[] 0)).alloc (.cells #[.int .i64 m, .slice none 0 0, .map (some w.heap.size)] t)) (w.heap.size + 1) m [] w.heap.size (.slice none 0 0) := by
  have hs : (w.alloc (.map #[] 0)).heap.size = w.heap.size + 1 := by simp
  have hn := heap_alloc_new (w.alloc (.map #[] 0)) (.cells #[.int .i64 m, .slice none 0 0, .map (some w.heap.size)] t)
  rw [hs] at hn
  have hm : MapFn P kt it ok lit ((w.alloc (.map #[] 0)).alloc (.cells #[.int .i64 m, .slice none 0 0, .map (some w.heap.size)] t)) w.heap.size 0 (fun _ : κ => none) :=
    MapFn.keep (Go.MapFns.made w) (heap_alloc_old _ _ (by rw [hs]; omega))
  refine ⟨?_, ?_, ?_, ?_, hm.same (fun k _ => by simp [kf]), World.ownsRow_nil _ _ _ _, by omega, by simp [Value.ownBlock], by simp [Value.ownBlock], by simp⟩
  · unfold World.cell?; rw [hn]; rfl
  · unfold World.cell?; rw [hn]; rfl
  · unfold World.cell?; rw [hn]; rfl
  · unfold World.frozen?; rw [hn]; rfl
/-- What is left of the map, behind the deletion of the keys numbered from n to i. -/
def kc (K : List κ) (n i : Nat) (k : κ) : Option Int := if k ∈ K ∧ ¬ (n ≤ gix K k ∧ gix K k < i) then some (gix K k : Int) else none
theorem kc_start {K : List κ} {n : Nat} (k : κ) : kf K k = kc K n n k := by unfold kf kc; by_cases h : k ∈ K <;> simp [h]
theorem gix_at {K : List κ} (hn : K.Nodup) {i : Nat} (h : i < K.length) (z : κ) : gix K (K.getD i z) = i := by
  unfold gix
  rw [show K.getD i z = K[i] by simp [List.getD, h], hn.idxOf_getElem]
theorem kc_step {K : List κ} (hn : K.Nodup) {n i : Nat} (h : i < K.length) (hi : n ≤ i) (z k : κ) : (if k = K.getD i z then none else kc K n i k) = kc K n (i + 1) k := by
  by_cases e : k = K.getD i z
  · subst e
    rw [if_pos rfl]
    unfold kc
    rw [gix_at hn h z, if_neg (by omega)]
  · rw [if_neg e]
    unfold kc
    by_cases hk : k ∈ K
    · have : gix K k ≠ i := fun q => e (by
        have h2 := gix_lt hk
        have h3 : K[gix K k] = k := List.getElem_idxOf h2
        rw [show K.getD i z = K[i] by simp [List.getD, h], ← h3]
        simp only [q])
      by_cases q : n ≤ gix K k ∧ gix K k < i
      · rw [if_neg (by omega), if_neg (by omega)]
      · rw [if_pos ⟨hk, q⟩, if_pos ⟨hk, by omega⟩]
    · rw [if_neg (fun q => hk q.1), if_neg (fun q => hk q.1)]
theorem kc_there {K : List κ} (hn : K.Nodup) {n i : Nat} (h : i < K.length) (z : κ) : (kc K n i (K.getD i z)).isSome = true := by
  unfold kc
  rw [gix_at hn h z, if_pos ⟨by rw [show K.getD i z = K[i] by simp [List.getD, h]]; exact List.getElem_mem h, by omega⟩]
  rfl
theorem gix_take {K : List κ} {n : Nat} {k : κ} (h : k ∈ K.take n) : gix (K.take n) k = gix K k ∧ gix K k < n := by
  have h2 : gix (K.take n ++ K.drop n) k = gix (K.take n) k := by unfold gix; rw [List.idxOf_append, if_pos h]
  rw [List.take_append_drop] at h2
  have := gix_lt h
  rw [List.length_take] at this
  exact ⟨h2.symm, by omega⟩
theorem kc_end {K : List κ} {n : Nat} (k : κ) : kc K n K.length k = kf (K.take n) k := by
  unfold kc kf
  by_cases hk : k ∈ K.take n
  · have g := gix_take hk
    rw [if_pos hk, if_pos ⟨List.mem_of_mem_take hk, by omega⟩, g.1]
  · rw [if_neg hk, if_neg]
    rintro ⟨q, r⟩
    have hl := gix_lt q
    have h3 : K[gix K k] = k := List.getElem_idxOf hl
    exact hk (by rw [← h3]; exact List.mem_take_iff_getElem.2 ⟨gix K k, by omega, rfl⟩)
theorem row_take {w : World} {base n c k : Nat} {a : Option Addr} {xs : List Value} (h : w.ownsRow base e size (.slice a n c) n xs) (hk : k ≤ n) (hp : 0 < n) : w.ownsRow base e size (.slice a k c) k (xs.take (k * size)) := by
  have hl := h.1
  have hle : k * size ≤ n * size := Nat.mul_le_mul_right _ hk
  refine ⟨by rw [List.length_take]; omega, ?_⟩
  rcases h.2 with ⟨q, _⟩ | ⟨g, cap, cur, q, q1, q2, q3, q4, q5, q6⟩
  · cases q; omega
  · cases q
    refine Or.inr ⟨g, c, cur, rfl, q1, q2, by omega, q4, q5, ?_⟩
    rw [← q6, List.take_take, Nat.min_eq_left hle]
/-- Cells of a block that are laid anew from a place on. -/
theorem cells_wiped {e : TypeId} {fz : Nat × Nat} (b : Nat) : ∀ (vs : List Value) (o n : Nat) (w : World) (cur : Array Value), n ≤ o → w.heap[b]? = some (.cells cur e fz) →
    ∃ cur', (w.setCells b o vs).heap[b]? = some (.cells cur' e fz) ∧ cur'.size = cur.size ∧ cur'.toList.take n = cur.toList.take n ∧ Turn (fun j => j = b) w (w.setCells b o vs)
  | [], o, n, w, cur, _, h => ⟨cur, h, rfl, rfl, Turn.refl _ _⟩
  | u :: r, o, n, w, cur, hn, h => by
    have h1 : (w.setCell ⟨b, o, none⟩ u).heap[b]? = some (.cells (cur.setIfInBounds o u) e fz) := by
      simp only [World.setCell, Array.getElem?_modify, if_true, h]
      rfl
    obtain ⟨cur', q1, q2, q3, q4⟩ := cells_wiped b r (o + 1) n _ _ (by omega) h1
    refine ⟨cur', q1, by simpa using q2, ?_, (turn_set (F := fun j => j = b) (p := ⟨b, o, none⟩) (Turn.refl _ w) (Or.inl rfl) u).trans q4 (fun j q => Or.inl q)⟩
    rw [q3, Array.toList_setIfInBounds, List.take_set_of_le hn]
/-- A row that is wiped from a place on: what is ahead of it stands. -/
theorem row_wiped {w : World} {g n cap k : Nat} {xs : List Value} (h : w.ownsRow 0 e size (.slice (some ⟨g, 0, none⟩) n cap) n xs) (hk : k ≤ n) (vs : List Value) :
    (w.setCells g (k * size) vs).ownsRow 0 e size (.slice (some ⟨g, 0, none⟩) k cap) k (xs.take (k * size)) ∧ Turn (fun j => j = g) w (w.setCells g (k * size) vs) := by
  rcases h.2 with ⟨q, _⟩ | ⟨g', cap', cur, q, q1, q2, q3, q4, q5, q6⟩
  · cases q
  · cases q
    have hle : k * size ≤ n * size := Nat.mul_le_mul_right _ hk
    obtain ⟨cur', r1, r2, r3, r4⟩ := cells_wiped g vs (k * size) (k * size) w cur (Nat.le_refl _) q2
    refine ⟨⟨by rw [List.length_take, h.1]; omega, Or.inr ⟨g, cap, cur', rfl, q1, r1, Nat.le_trans hk q3, q4, r2.trans q5, ?_⟩⟩, r4⟩
    rw [r3, ← q6, List.take_take, Nat.min_eq_left hle]
theorem flat_take (cs : κ → List Value) (size : Nat) : ∀ (L : List κ) (j : Nat), (∀ k ∈ L, (cs k).length = size) → (L.flatMap cs).take (j * size) = (L.take j).flatMap cs := by
  intro L
  induction L with
  | nil => intro j _; simp
  | cons x L ih =>
    intro j hL
    cases j with
    | zero => simp
    | succ j =>
      have hx := hL x (by simp)
      rw [List.flatMap_cons, List.take_succ_cons, List.flatMap_cons, ← ih j (fun k hk => hL k (by simp [hk])), List.take_append, hx]
      rw [List.take_of_length_le (by rw [hx, Nat.add_mul]; omega)]
      congr 2
      rw [Nat.add_mul]; omega
/-- A cut: the slice wiped from n on and laid back shorter. -/
theorem TabH.clip {w : World} {B : Nat} {m : Int} {R : List κ} {c : Nat} {f : κ → Option Int} {bm g n cap : Nat} (h : TabH P kt it e size ok lit cs w B m R c f bm (.slice (some ⟨g, 0, none⟩) R.length cap)) (hcs : ∀ k ∈ R, (cs k).length = size) (hn : n ≤ R.length) (vs : List Value) :
    TabH P kt it e size ok lit cs ((w.setCells g (n * size) vs).setCell ⟨B, 1, none⟩ (.slice (some ⟨g, 0, none⟩) n cap)) B m (R.take n) c f bm (.slice (some ⟨g, 0, none⟩) n cap) ∧
      Turn (TabF B bm (.slice (some ⟨g, 0, none⟩) R.length cap)) w ((w.setCells g (n * size) vs).setCell ⟨B, 1, none⟩ (.slice (some ⟨g, 0, none⟩) n cap)) ∧ ∀ j, TabF B bm (.slice (some ⟨g, 0, none⟩) n cap) j → TabF B bm (.slice (some ⟨g, 0, none⟩) R.length cap) j := by
  obtain ⟨r1, t1⟩ := row_wiped h.row hn vs
  have hlen : (R.take n).length = n := by rw [List.length_take]; omega
  have t2 : Turn (fun j => (Value.slice (some ⟨g, 0, none⟩) R.length cap).ownBlock = some j) w (w.setCells g (n * size) vs) := t1.mono (fun j q => by subst q; rfl)
  have O : OwnO (fun j => j = B ∨ j = bm) (w.setCells g (n * size) vs) 0 e size (.slice (some ⟨g, 0, none⟩) n cap) (R.take n).length ((R.take n).flatMap cs) := by
    rw [hlen, ← flat_take cs size R n hcs]
    exact ⟨r1, fun b q => ⟨(World.ownsRow.lt r1 b q).2, fun r => r.elim (fun r => h.h2 (r ▸ q)) (fun r => h.h3 (r ▸ q))⟩⟩
  obtain ⟨q1, q2, q3⟩ := h.relay O t2 (Or.inl rfl)
  exact ⟨q1, q2, fun j q => q⟩
end
end Go.Proofs.Yteeonglebimnlaa
