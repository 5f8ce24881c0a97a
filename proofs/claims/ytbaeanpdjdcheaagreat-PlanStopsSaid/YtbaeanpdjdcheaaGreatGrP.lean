/-
  The landed graph: a block with a slice of rows, a slice of maps, a number. What it is, what keeps it, what each step of a change leaves. No Go function is walked here.
-/
import Derived.Test.YtbaeanpdjdcheaaGreatGrM
import Derived.OwnWalk
import Derived.Lib.SliceRun
namespace Go.Proofs.YtbaeanpdjdcheaaGreat
open Go.RowKit MapSets
set_option linter.unusedSimpArgs false
set_option linter.unusedVariables false

abbrev gkit : MapSets.SetKit Tryz.prog 3 67 69 := ⟨Tryz.underlying3, Tryz.underlying69, fun w => by kernel_rfl⟩
abbrev MSet (w : World) (b : Nat) (f : Int → Bool) : Prop := MapSets.MapSet Tryz.prog 3 w b f

theorem cell_of {w w' : World} {b : Nat} (h : w'.heap[b]? = w.heap[b]?) (i : Nat) : w'.cell? ⟨b, i, none⟩ = w.cell? ⟨b, i, none⟩ := by unfold World.cell?; rw [h]
theorem frozen_of {w w' : World} {b : Nat} (h : w'.heap[b]? = w.heap[b]?) (i : Nat) : w'.frozen? ⟨b, i, none⟩ = w.frozen? ⟨b, i, none⟩ := by unfold World.frozen?; rw [h]

/-- The readers' side: at S a map, or none, for each node. -/
structure GrS (w : World) (S n : Nat) (M : Nat → Option Nat) (q : Nat → Int → Bool) : Prop where
  s : ∀ v, v < n → w.cell? ⟨S, v, none⟩ = some (.map (M v))
  z : ∀ v, v < n → w.frozen? ⟨S, v, none⟩ = false
  no : ∀ v, v < n → M v = none → ∀ u, q v u = false
  yes : ∀ v b, v < n → M v = some b → MSet w b (q v)
  ne : ∀ v b, v < n → M v = some b → b ≠ S
  inj : ∀ v u b, v < n → u < n → M v = some b → M u = some b → v = u
  sup : ∀ v u, v < n → q v u = true → 0 ≤ u ∧ u < (n : Int)
theorem GrS.keep {w w' : World} {S n : Nat} {M : Nat → Option Nat} {q : Nat → Int → Bool} (h : GrS w S n M q) (hS : w'.heap[S]? = w.heap[S]?) (hM : ∀ v b, v < n → M v = some b → w'.heap[b]? = w.heap[b]?) : GrS w' S n M q :=
  ⟨fun v hv => (cell_of hS v).trans (h.s v hv), fun v hv => (frozen_of hS v).trans (h.z v hv), h.no, fun v b hv hb => (h.yes v b hv hb).keep (hM v b hv hb), h.ne, h.inj, h.sup⟩
theorem GrS.same {w : World} {S n : Nat} {M : Nat → Option Nat} {q q' : Nat → Int → Bool} (h : GrS w S n M q) (e : ∀ v, v < n → ∀ u, q v u = q' v u) : GrS w S n M q' :=
  ⟨h.s, h.z, fun v hv hM u => (e v hv u).symm.trans (h.no v hv hM u), fun v b hv hb => (h.yes v b hv hb).same fun u _ => e v hv u, h.ne, h.inj, fun v u hv hu => h.sup v u hv ((e v hv u).trans hu)⟩
/-- One map is another one. -/
theorem GrS.remap {w w' : World} {S n : Nat} {M : Nat → Option Nat} {q : Nat → Int → Bool} (h : GrS w S n M q) {v b : Nat} (hv : v < n) (hb : M v = some b) {f : Int → Bool} (hf : MSet w' b f) (hg : w.grownBy w' (some b))
    (hs : ∀ u, f u = true → 0 ≤ u ∧ u < (n : Int)) : GrS w' S n M (fun x u => if x = v then f u else q x u) := by
  have hS : w'.heap[S]? = w.heap[S]? := hg.block S (World.block_lt_of_cell? w _ (h.s v hv)) (fun e => h.ne v b hv hb (by simpa using e.symm))
  refine ⟨fun x hx => (cell_of hS x).trans (h.s x hx), fun x hx => (frozen_of hS x).trans (h.z x hx), fun x hx hM u => ?_, fun x c hx hc => ?_, h.ne, h.inj, fun x u hx hu => ?_⟩
  · by_cases e : x = v
    · subst e; rw [hb] at hM; cases hM
    · simp only [if_neg e]; exact h.no x hx hM u
  · by_cases e : x = v
    · subst e
      rw [hb] at hc; cases hc
      simp only [if_pos]; exact hf
    · simp only [if_neg e]
      exact (h.yes x c hx hc).keep (hg.block c (h.yes x c hx hc).lt (fun r => e (h.inj x v c hx hv hc (by rw [hb]; simpa using r.symm))))
  · by_cases e : x = v
    · simp only [if_pos e] at hu; exact hs u hu
    · simp only [if_neg e] at hu; exact h.sup x u hx hu
/-- A map that is made, for a node that nobody reads. -/
theorem GrS.fresh {w : World} {S n : Nat} {M : Nat → Option Nat} {q : Nat → Int → Bool} (h : GrS w S n M q) {v : Nat} (hv : v < n) (hb : M v = none) :
    GrS ((w.alloc (.map #[] 0)).setCell ⟨S, v, none⟩ (.map (some w.heap.size))) S n (fun x => if x = v then some w.heap.size else M x) q := by
  have hlS : S < w.heap.size := World.block_lt_of_cell? w _ (h.s v hv)
  have hc : ∀ x, (w.alloc (.map #[] 0)).cell? ⟨S, x, none⟩ = w.cell? ⟨S, x, none⟩ := fun x => cell_of (heap_alloc_old _ _ hlS) x
  have hz : ∀ x, (w.alloc (.map #[] 0)).frozen? ⟨S, x, none⟩ = w.frozen? ⟨S, x, none⟩ := fun x => frozen_of (heap_alloc_old _ _ hlS) x
  have hblk : ∀ k, k ≠ S → k < w.heap.size → ((w.alloc (.map #[] 0)).setCell ⟨S, v, none⟩ (.map (some w.heap.size))).heap[k]? = w.heap[k]? := fun k h1 h2 =>
    (Below.heap_setCell _ ⟨S, v, none⟩ _ k h1).trans (heap_alloc_old _ _ h2)
  have hnew : ((w.alloc (.map #[] 0)).setCell ⟨S, v, none⟩ (.map (some w.heap.size))).heap[w.heap.size]? = (w.alloc (.map #[] 0)).heap[w.heap.size]? := Below.heap_setCell _ ⟨S, v, none⟩ _ _ (fun e => by have : w.heap.size = S := e; omega)
  have hlt : ∀ x c, x < n → M x = some c → c < w.heap.size := fun x c hx hc => (h.yes x c hx hc).lt
  refine ⟨fun x hx => ?_, fun x hx => ?_, fun x hx hM u => ?_, fun x c hx hc' => ?_, fun x c hx hc' => ?_, fun x y c hx hy h1 h2 => ?_, h.sup⟩
  · by_cases e : x = v
    · subst e
      simp only [if_pos]
      exact World.cell?_setCell_same _ _ _ ((hc x).trans (h.s x hx))
    · simp only [if_neg e]
      rw [World.cell?_setCell_other _ _ _ _ (fun r => e (by cases r; rfl))]
      exact (hc x).trans (h.s x hx)
  · rw [World.frozen?_setCell]; exact (hz x).trans (h.z x hx)
  · by_cases e : x = v
    · simp [e] at hM
    · simp only [if_neg e] at hM; exact h.no x hx hM u
  · by_cases e : x = v
    · subst e
      simp only [if_pos, Option.some.injEq] at hc'
      subst hc'
      exact ((MapSets.made w).keep hnew).same fun u _ => (h.no x hx hb u).symm
    · simp only [if_neg e] at hc'
      exact (h.yes x c hx hc').keep (hblk c (h.ne x c hx hc') (hlt x c hx hc'))
  · by_cases e : x = v
    · simp only [if_pos e, Option.some.injEq] at hc'; omega
    · simp only [if_neg e] at hc'; exact h.ne x c hx hc'
  · by_cases e : x = v <;> by_cases e' : y = v
    · rw [e, e']
    · simp only [if_pos e, Option.some.injEq] at h1
      simp only [if_neg e'] at h2
      have := hlt y c hy h2; omega
    · simp only [if_neg e] at h1
      simp only [if_pos e', Option.some.injEq] at h2
      have := hlt x c hx h1; omega
    · simp only [if_neg e] at h1
      simp only [if_neg e'] at h2
      exact h.inj x y c hx hy h1 h2

/-- The readers' rows: at A a slice for each node. -/
structure GrA (w : World) (A n : Nat) (V : Nat → Value) (R : List (List Int)) : Prop where
  a : ∀ v, v < n → w.cell? ⟨A, v, none⟩ = some (V v)
  z : ∀ v, v < n → w.frozen? ⟨A, v, none⟩ = false
  r : ∀ v, v < n → Sl w (V v) (gR R v)
  lt : ∀ v b, v < n → (V v).ownBlock = some b → b < w.heap.size
theorem sl_keep {w w' : World} {v : Value} {L : List Int} (h : Sl w v L) (hb : ∀ b, v.ownBlock = some b → w'.heap[b]? = w.heap[b]?) : Sl w' v L := by
  obtain ⟨a, c, rfl, h2, h3, h4, h5⟩ := h
  refine ⟨a, c, rfl, h2, h3, h4, fun i hi => ?_⟩
  obtain ⟨b, off, rfl, hc⟩ := h5 i hi
  exact ⟨b, off, rfl, (cell_of (hb b rfl) _).trans hc⟩
theorem GrA.keep {w w' : World} {A n : Nat} {V : Nat → Value} {R : List (List Int)} (h : GrA w A n V R) (hA : w'.heap[A]? = w.heap[A]?) (hV : ∀ v b, v < n → (V v).ownBlock = some b → w'.heap[b]? = w.heap[b]?) (hs : w.heap.size ≤ w'.heap.size) : GrA w' A n V R :=
  ⟨fun v hv => (cell_of hA v).trans (h.a v hv), fun v hv => (frozen_of hA v).trans (h.z v hv), fun v hv => sl_keep (h.r v hv) fun b hb => hV v b hv hb, fun v b hv hb => Nat.lt_of_lt_of_le (h.lt v b hv hb) hs⟩

/-- A graph at B: its rows at A, its maps at S. -/
structure GrP (w : World) (B A S n : Nat) (V : Nat → Value) (M : Nat → Option Nat) (R : List (List Int)) (q : Nat → Int → Bool) (E : Int) : Prop where
  b0 : w.cell? ⟨B, 0, none⟩ = some (.slice (some ⟨A, 0, none⟩) n n)
  b1 : w.cell? ⟨B, 1, none⟩ = some (.slice (some ⟨S, 0, none⟩) n n)
  b2 : w.cell? ⟨B, 2, none⟩ = some (.int .i64 E)
  z2 : w.frozen? ⟨B, 2, none⟩ = false
  lo : 1 ≤ n
  hi : n ≤ 20000
  hA : GrA w A n V R
  hS : GrS w S n M q
  AB : A ≠ B
  SB : S ≠ B
  AS : A ≠ S
  mB : ∀ v b, v < n → M v = some b → b ≠ B ∧ b ≠ A
  vB : ∀ v b, v < n → (V v).ownBlock = some b → b ≠ B ∧ b ≠ A ∧ b ≠ S ∧ ∀ u, u < n → M u ≠ some b
def grF (B A S n : Nat) (V : Nat → Value) (M : Nat → Option Nat) (j : Nat) : Prop := j = B ∨ j = A ∨ j = S ∨ (∃ v, v < n ∧ M v = some j) ∨ ∃ v, v < n ∧ (V v).ownBlock = some j
section
variable {w w' : World} {B A S n : Nat} {V : Nat → Value} {M : Nat → Option Nat} {R : List (List Int)} {q : Nat → Int → Bool} {E : Int}
theorem GrP.ltB (h : GrP w B A S n V M R q E) : B < w.heap.size := World.block_lt_of_cell? w _ h.b2
theorem GrP.ltA (h : GrP w B A S n V M R q E) : A < w.heap.size := World.block_lt_of_cell? w _ (h.hA.a 0 h.lo)
theorem GrP.ltS (h : GrP w B A S n V M R q E) : S < w.heap.size := World.block_lt_of_cell? w _ (h.hS.s 0 h.lo)
theorem GrP.foot (h : GrP w B A S n V M R q E) : ∀ j, grF B A S n V M j → j < w.heap.size := by
  rintro j (rfl | rfl | rfl | ⟨v, hv, e⟩ | ⟨v, hv, e⟩)
  · exact h.ltB
  · exact h.ltA
  · exact h.ltS
  · exact (h.hS.yes v j hv e).lt
  · exact h.hA.lt v j hv e
theorem GrP.keep (h : GrP w B A S n V M R q E) (hs : w.heap.size ≤ w'.heap.size) (hk : ∀ j, grF B A S n V M j → w'.heap[j]? = w.heap[j]?) : GrP w' B A S n V M R q E := by
  have hB := hk B (Or.inl rfl)
  exact ⟨(cell_of hB 0).trans h.b0, (cell_of hB 1).trans h.b1, (cell_of hB 2).trans h.b2, (frozen_of hB 2).trans h.z2, h.lo, h.hi,
    h.hA.keep (hk A (Or.inr (Or.inl rfl))) (fun v b hv e => hk b (Or.inr (Or.inr (Or.inr (Or.inr ⟨v, hv, e⟩))))) hs,
    h.hS.keep (hk S (Or.inr (Or.inr (Or.inl rfl)))) (fun v b hv e => hk b (Or.inr (Or.inr (Or.inr (Or.inl ⟨v, hv, e⟩))))), h.AB, h.SB, h.AS, h.mB, h.vB⟩
theorem GrP.below (h : GrP w B A S n V M R q E) (hb : Below w.heap.size w w') : GrP w' B A S n V M R q E := h.keep hb.size fun j hj => hb.block j (h.foot j hj)
theorem GrP.drew (h : GrP w B A S n V M R q E) : GrP w.drew B A S n V M R q E := h.keep (Nat.le_refl _) fun _ _ => rfl
theorem GrP.drewN (h : GrP w B A S n V M R q E) (k : Nat) : GrP (w.drewN k) B A S n V M R q E := h.keep (Nat.le_refl _) fun _ _ => rfl
theorem GrP.turn {F : Nat → Prop} (h : GrP w B A S n V M R q E) (t : Turn F w w') (hd : ∀ j, grF B A S n V M j → ¬ F j) : GrP w' B A S n V M R q E := h.keep t.size fun j hj => t.block j (h.foot j hj) (hd j hj)
theorem GrP.same {q' : Nat → Int → Bool} (h : GrP w B A S n V M R q E) (e : ∀ v, v < n → ∀ u, q v u = q' v u) : GrP w B A S n V M R q' E :=
  ⟨h.b0, h.b1, h.b2, h.z2, h.lo, h.hi, h.hA, h.hS.same e, h.AB, h.SB, h.AS, h.mB, h.vB⟩
/-- One map is another one. -/
theorem GrP.remap (h : GrP w B A S n V M R q E) {v b : Nat} (hv : v < n) (hb : M v = some b) {f : Int → Bool} (hf : MSet w' b f) (hg : w.grownBy w' (some b)) (hs : ∀ u, f u = true → 0 ≤ u ∧ u < (n : Int)) :
    GrP w' B A S n V M R (fun x u => if x = v then f u else q x u) E ∧ Turn (grF B A S n V M) w w' := by
  have hk : ∀ j, j ≠ b → j < w.heap.size → w'.heap[j]? = w.heap[j]? := fun j h1 h2 => hg.block j h2 (fun r => h1 (by simpa using r))
  have hB := hk B (fun e => (h.mB v b hv hb).1 e.symm) h.ltB
  have hA := hk A (fun e => (h.mB v b hv hb).2 e.symm) h.ltA
  refine ⟨⟨(cell_of hB 0).trans h.b0, (cell_of hB 1).trans h.b1, (cell_of hB 2).trans h.b2, (frozen_of hB 2).trans h.z2, h.lo, h.hi, h.hA.keep hA (fun x c hx hc => hk c (fun e => (h.vB x c hx hc).2.2.2 v hv (by rw [hb, e])) (h.hA.lt x c hx hc)) hg.size,
    h.hS.remap hv hb hf hg hs, h.AB, h.SB, h.AS, h.mB, h.vB⟩, ⟨hg.os, hg.tape, hg.output, hg.size, fun j hj hn => hk j (fun e => hn (Or.inr (Or.inr (Or.inr (Or.inl ⟨v, hv, by rw [hb, e]⟩))))) hj⟩⟩
/-- A map that is made. -/
theorem GrP.fresh (h : GrP w B A S n V M R q E) {v : Nat} (hv : v < n) (hb : M v = none) :
    GrP ((w.alloc (.map #[] 0)).setCell ⟨S, v, none⟩ (.map (some w.heap.size))) B A S n V (fun x => if x = v then some w.heap.size else M x) R q E ∧ Turn (grF B A S n V M) w ((w.alloc (.map #[] 0)).setCell ⟨S, v, none⟩ (.map (some w.heap.size))) ∧
    ∀ j, grF B A S n V (fun x => if x = v then some w.heap.size else M x) j → grF B A S n V M j ∨ w.heap.size ≤ j := by
  have hblk : ∀ k, k ≠ S → k < w.heap.size → ((w.alloc (.map #[] 0)).setCell ⟨S, v, none⟩ (.map (some w.heap.size))).heap[k]? = w.heap[k]? := fun k h1 h2 =>
    (Below.heap_setCell _ ⟨S, v, none⟩ _ k h1).trans (heap_alloc_old _ _ h2)
  have hB := hblk B (Ne.symm h.SB) h.ltB
  have ht : Turn (grF B A S n V M) w ((w.alloc (.map #[] 0)).setCell ⟨S, v, none⟩ (.map (some w.heap.size))) :=
    turn_set (p := ⟨S, v, none⟩) (Turn.of_below ((Below.refl _ w).alloc (Nat.le_refl _) _)) (Or.inl (Or.inr (Or.inr (Or.inl rfl)))) _
  refine ⟨⟨(cell_of hB 0).trans h.b0, (cell_of hB 1).trans h.b1, (cell_of hB 2).trans h.b2, (frozen_of hB 2).trans h.z2, h.lo, h.hi,
    h.hA.keep (hblk A h.AS h.ltA) (fun x c hx hc => hblk c (h.vB x c hx hc).2.2.1 (h.hA.lt x c hx hc)) ht.size, h.hS.fresh hv hb, h.AB, h.SB, h.AS, fun x c hx hc => ?_, fun x c hx hc => ?_⟩, ht, ?_⟩
  · by_cases e : x = v
    · simp only [if_pos e, Option.some.injEq] at hc
      have := h.ltB; have := h.ltA; omega
    · simp only [if_neg e] at hc; exact h.mB x c hx hc
  · obtain ⟨h1, h2, h3, h4⟩ := h.vB x c hx hc
    refine ⟨h1, h2, h3, fun u hu => ?_⟩
    by_cases e : u = v
    · simp only [if_pos e]
      intro r
      have := h.hA.lt x c hx hc
      simp at r; omega
    · simp only [if_neg e]; exact h4 u hu
  · rintro j (r | r | r | ⟨x, hx, r⟩ | r)
    · exact Or.inl (Or.inl r)
    · exact Or.inl (Or.inr (Or.inl r))
    · exact Or.inl (Or.inr (Or.inr (Or.inl r)))
    · by_cases e : x = v
      · simp only [if_pos e, Option.some.injEq] at r; exact Or.inr (by omega)
      · simp only [if_neg e] at r; exact Or.inl (Or.inr (Or.inr (Or.inr (Or.inl ⟨x, hx, r⟩))))
    · exact Or.inl (Or.inr (Or.inr (Or.inr (Or.inr r))))
/-- A row that is laid anew. -/
theorem GrP.lay (h : GrP w B A S n V M R q E) {v : Nat} (hv : v < n) (hR : R.length = n) {u : Value} {l : List Int} (hu : Sl w u l) (hn : ∀ b, u.ownBlock = some b → b < w.heap.size ∧ ¬ grF B A S n V M b) :
    GrP (w.setCell ⟨A, v, none⟩ u) B A S n (fun x => if x = v then u else V x) M (R.set v l) q E ∧ Turn (grF B A S n V M) w (w.setCell ⟨A, v, none⟩ u) ∧
    ∀ j, grF B A S n (fun x => if x = v then u else V x) M j → grF B A S n V M j ∨ u.ownBlock = some j := by
  have hblk : ∀ k, k ≠ A → (w.setCell ⟨A, v, none⟩ u).heap[k]? = w.heap[k]? := fun k h1 => Below.heap_setCell _ ⟨A, v, none⟩ _ k h1
  have hB := hblk B (Ne.symm h.AB)
  have ht : Turn (grF B A S n V M) w (w.setCell ⟨A, v, none⟩ u) := turn_set (p := ⟨A, v, none⟩) (Turn.refl _ _) (Or.inl (Or.inr (Or.inl rfl))) _
  have huA : ∀ b, u.ownBlock = some b → b ≠ A := fun b hb e => (hn b hb).2 (Or.inr (Or.inl e))
  refine ⟨⟨(cell_of hB 0).trans h.b0, (cell_of hB 1).trans h.b1, (cell_of hB 2).trans h.b2, (frozen_of hB 2).trans h.z2, h.lo, h.hi, ⟨fun x hx => ?_, fun x hx => ?_, fun x hx => ?_, fun x c hx hc => ?_⟩,
    h.hS.keep (hblk S (Ne.symm h.AS)) (fun x c hx hc => hblk c (h.mB x c hx hc).2), h.AB, h.SB, h.AS, h.mB, fun x c hx hc => ?_⟩, ht, ?_⟩
  · by_cases e : x = v
    · subst e
      simp only [if_pos]
      exact World.cell?_setCell_same _ _ _ (h.hA.a x hx)
    · simp only [if_neg e]
      rw [World.cell?_setCell_other _ _ _ _ (fun r => e (by cases r; rfl))]
      exact h.hA.a x hx
  · rw [World.frozen?_setCell]; exact h.hA.z x hx
  · rw [gR_set (by omega)]
    by_cases e : x = v
    · simp only [if_pos e]
      exact sl_keep hu fun b hb => hblk b (huA b hb)
    · simp only [if_neg e]
      exact sl_keep (h.hA.r x hx) fun b hb => hblk b (h.vB x b hx hb).2.1
  · refine Nat.lt_of_lt_of_le ?_ ht.size
    by_cases e : x = v
    · simp only [if_pos e] at hc; exact (hn c hc).1
    · simp only [if_neg e] at hc; exact h.hA.lt x c hx hc
  · by_cases e : x = v
    · simp only [if_pos e] at hc
      have hcn := (hn c hc).2
      exact ⟨fun r => hcn (Or.inl r), fun r => hcn (Or.inr (Or.inl r)), fun r => hcn (Or.inr (Or.inr (Or.inl r))), fun y hy r => hcn (Or.inr (Or.inr (Or.inr (Or.inl ⟨y, hy, r⟩))))⟩
    · simp only [if_neg e] at hc; exact h.vB x c hx hc
  · rintro j (r | r | r | r | ⟨x, hx, r⟩)
    · exact Or.inl (Or.inl r)
    · exact Or.inl (Or.inr (Or.inl r))
    · exact Or.inl (Or.inr (Or.inr (Or.inl r)))
    · exact Or.inl (Or.inr (Or.inr (Or.inr (Or.inl r))))
    · by_cases e : x = v
      · simp only [if_pos e] at r; exact Or.inr r
      · simp only [if_neg e] at r; exact Or.inl (Or.inr (Or.inr (Or.inr (Or.inr ⟨x, hx, r⟩))))
/-- The number of edges is another one. -/
theorem GrP.count (h : GrP w B A S n V M R q E) (E' : Int) : GrP (w.setCell ⟨B, 2, none⟩ (.int .i64 E')) B A S n V M R q E' ∧ Turn (grF B A S n V M) w (w.setCell ⟨B, 2, none⟩ (.int .i64 E')) := by
  have hblk : ∀ k, k ≠ B → (w.setCell ⟨B, 2, none⟩ (.int .i64 E')).heap[k]? = w.heap[k]? := fun k h1 => Below.heap_setCell _ ⟨B, 2, none⟩ _ k h1
  have ht : Turn (grF B A S n V M) w (w.setCell ⟨B, 2, none⟩ (.int .i64 E')) := turn_set (p := ⟨B, 2, none⟩) (Turn.refl _ _) (Or.inl (Or.inl rfl)) _
  have ho : ∀ i, i ≠ 2 → (w.setCell ⟨B, 2, none⟩ (.int .i64 E')).cell? ⟨B, i, none⟩ = w.cell? ⟨B, i, none⟩ := fun i hi => World.cell?_setCell_other _ _ _ _ (fun r => hi (by cases r; rfl))
  exact ⟨⟨(ho 0 (by decide)).trans h.b0, (ho 1 (by decide)).trans h.b1, World.cell?_setCell_same _ _ _ h.b2, (World.frozen?_setCell _ _ _ _).trans h.z2, h.lo, h.hi,
    h.hA.keep (hblk A h.AB) (fun x c hx hc => hblk c (h.vB x c hx hc).1) ht.size, h.hS.keep (hblk S h.SB) (fun x c hx hc => hblk c (h.mB x c hx hc).1), h.AB, h.SB, h.AS, h.mB, h.vB⟩, ht⟩
end
/-- A graph of the rows R, whose blocks are F. -/
def GrR (w : World) (B : Nat) (R : List (List Int)) (F : Nat → Prop) : Prop := GrI R ∧ ∃ A S V M, GrP w B A S R.length V M R (gq R) (gedges R : Int) ∧ F = grF B A S R.length V M
theorem GrR.foot {w : World} {B : Nat} {R : List (List Int)} {F : Nat → Prop} (h : GrR w B R F) : ∀ j, F j → j < w.heap.size := by
  obtain ⟨_, A, S, V, M, h, rfl⟩ := h
  exact h.foot
theorem GrR.keep {w w' : World} {B : Nat} {R : List (List Int)} {F : Nat → Prop} (h : GrR w B R F) (hs : w.heap.size ≤ w'.heap.size) (hk : ∀ j, F j → w'.heap[j]? = w.heap[j]?) : GrR w' B R F := by
  obtain ⟨hI, A, S, V, M, h, rfl⟩ := h
  exact ⟨hI, A, S, V, M, h.keep hs hk, rfl⟩
theorem GrR.below {w w' : World} {B : Nat} {R : List (List Int)} {F : Nat → Prop} (h : GrR w B R F) (hb : Below w.heap.size w w') : GrR w' B R F := h.keep hb.size fun j hj => hb.block j (h.foot j hj)
theorem GrR.turn {w w' : World} {B : Nat} {R : List (List Int)} {F G : Nat → Prop} (h : GrR w B R F) (t : Turn G w w') (hd : ∀ j, F j → ¬ G j) : GrR w' B R F := h.keep t.size fun j hj => t.block j (h.foot j hj) (hd j hj)
end Go.Proofs.YtbaeanpdjdcheaaGreat
