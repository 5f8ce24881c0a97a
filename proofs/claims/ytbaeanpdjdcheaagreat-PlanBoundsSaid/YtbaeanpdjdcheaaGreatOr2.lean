/-
  The landed walk's blocks: which nodes are left, who waits where, what each still has to look at, the pile; what a store, an append, a push and a pop leave of them. No Go function is walked here. No conditions. The landed walk's state: which nodes are left, in its blocks; what steps leave of other blocks. No Go function is walked here. No conditions. The landed walk's closure: what holds a node back. The conditions: the walk's blocks. The landed hold: a node waits at what holds it back, or is made ready. The conditions: the walk's blocks; the node is in hand. The landed tell: a node holds others back no more. The conditions: the walk's blocks; the node is in hand.
-/
import Derived.Test.YtbaeanpdjdcheaaGreatOr1
import Derived.Test.YtbaeanpdjdcheaaGreatPilI
import Derived.Test.YtbaeanpdjdcheaaGreatRfH
import Derived.Deep.LoopGhost
import Derived.Deep.QuietTactic
import Derived.Deep.RegionHeld3
import Derived.BigQuiet
import Derived.WalkSmall
import Derived.RegionTactic
import Derived.BigRegion
namespace Go.Proofs.YtbaeanpdjdcheaaGreat
open Go.RowKit
set_option linter.unusedSimpArgs false
set_option linter.unusedVariables false

/- The landed walk's blocks: which nodes are left, who waits where, what each still has to look at, the pile; what a store, an append, a push and a pop leave of them. No Go function is walked here. No conditions. -/
/-- The blocks that stay: the struct, the rows of what is left, of who waits, of what is read, the two captured variables, the pile. -/
structure Cf where
  B : Nat
  gl : Nat
  gw : Nat
  gr : Nat
  bl : Nat
  br : Nat
  PB : Nat
abbrev HolderV (c : Cf) : Value := .func (.func 72) #[] #[.pointer (some ⟨c.br, 0, none⟩), .pointer (some ⟨c.bl, 0, none⟩)]
abbrev PushV (c : Cf) : Value := .func (.func 58) #[.pointer (some ⟨c.PB, 0, none⟩)] #[]
abbrev PopV (c : Cf) : Value := .func (.func 59) #[.pointer (some ⟨c.PB, 0, none⟩)] #[]
/-- What lies in a block, by a number: 0 the struct, 1 what is left, 2 who waits, 3 what is read, 4 and 5 the captured variables, 6 the pile, 7 what a node reads, 8 and more: who waits at a node. -/
def KF (c : Cf) (N : Nat) (Rl : Nat → List Int) (WV RV : Nat → Value) (F : Nat → Prop) (a j : Nat) : Prop :=
  (a = 0 ∧ j = c.B) ∨ (a = 1 ∧ j = c.gl) ∨ (a = 2 ∧ j = c.gw) ∨ (a = 3 ∧ j = c.gr) ∨ (a = 4 ∧ j = c.bl) ∨ (a = 5 ∧ j = c.br) ∨ (a = 6 ∧ F j) ∨ (a = 7 ∧ ∃ i, i < N ∧ Rl i ≠ [] ∧ (RV i).ownBlock = some j) ∨ ∃ i, i < N ∧ a = 8 + i ∧ (WV i).ownBlock = some j
def KA (c : Cf) (N : Nat) (Rl : Nat → List Int) (WV RV : Nat → Value) (F : Nat → Prop) (j : Nat) : Prop := ∃ a, KF c N Rl WV RV F a j
section
variable {c : Cf} {N : Nat} {Rl : Nat → List Int} {WV RV : Nat → Value} {F : Nat → Prop} {i j : Nat}
theorem kf0 : KF c N Rl WV RV F 0 c.B := Or.inl ⟨rfl, rfl⟩
theorem kf1 : KF c N Rl WV RV F 1 c.gl := Or.inr (Or.inl ⟨rfl, rfl⟩)
theorem kf2 : KF c N Rl WV RV F 2 c.gw := Or.inr (Or.inr (Or.inl ⟨rfl, rfl⟩))
theorem kf3 : KF c N Rl WV RV F 3 c.gr := Or.inr (Or.inr (Or.inr (Or.inl ⟨rfl, rfl⟩)))
theorem kf4 : KF c N Rl WV RV F 4 c.bl := Or.inr (Or.inr (Or.inr (Or.inr (Or.inl ⟨rfl, rfl⟩))))
theorem kf5 : KF c N Rl WV RV F 5 c.br := Or.inr (Or.inr (Or.inr (Or.inr (Or.inr (Or.inl ⟨rfl, rfl⟩)))))
theorem kf6 (h : F j) : KF c N Rl WV RV F 6 j := Or.inr (Or.inr (Or.inr (Or.inr (Or.inr (Or.inr (Or.inl ⟨rfl, h⟩))))))
theorem kf7 (hi : i < N) (h0 : Rl i ≠ []) (h : (RV i).ownBlock = some j) : KF c N Rl WV RV F 7 j := Or.inr (Or.inr (Or.inr (Or.inr (Or.inr (Or.inr (Or.inr (Or.inl ⟨rfl, i, hi, h0, h⟩)))))))
theorem kf8 (hi : i < N) (h : (WV i).ownBlock = some j) : KF c N Rl WV RV F (8 + i) j := Or.inr (Or.inr (Or.inr (Or.inr (Or.inr (Or.inr (Or.inr (Or.inr ⟨i, hi, rfl, h⟩)))))))
end
structure OB (w0 w : World) (c : Cf) (N : Nat) (lv : Nat → Bool) (W Rl : Nat → List Int) (P : List Int) (WV RV : Nat → Value) (F : Nat → Prop) : Prop where
  h0 : w.cell? ⟨c.B, 0, none⟩ = some (.slice (some ⟨c.gl, 0, none⟩) N N)
  h1 : w.cell? ⟨c.B, 1, none⟩ = some (.slice (some ⟨c.gw, 0, none⟩) N N)
  h2 : w.cell? ⟨c.B, 2, none⟩ = some (HolderV c)
  h3 : w.cell? ⟨c.B, 3, none⟩ = some (PushV c)
  h4 : w.cell? ⟨c.B, 4, none⟩ = some (PopV c)
  bl : w.cell? ⟨c.bl, 0, none⟩ = some (.slice (some ⟨c.gl, 0, none⟩) N N)
  br : w.cell? ⟨c.br, 0, none⟩ = some (.slice (some ⟨c.gr, 0, none⟩) N N)
  lr : ∀ i, i < N → w.cell? ⟨c.gl, i, none⟩ = some (.bool (lv i)) ∧ w.frozen? ⟨c.gl, i, none⟩ = false
  wr : ∀ i, i < N → w.cell? ⟨c.gw, i, none⟩ = some (WV i) ∧ w.frozen? ⟨c.gw, i, none⟩ = false
  rr : ∀ i, i < N → w.cell? ⟨c.gr, i, none⟩ = some (RV i) ∧ w.frozen? ⟨c.gr, i, none⟩ = false
  wo : ∀ i, i < N → w.ownsRow w0.heap.size 3 1 (WV i) (W i).length ((W i).map (Value.int .i64))
  ro : ∀ i, i < N → Sl w (RV i) (Rl i)
  pl : RepI w c.PB P F
  ds : ∀ a b j, KF c N Rl WV RV F a j → KF c N Rl WV RV F b j → a = b
  lo : ∀ a j, KF c N Rl WV RV F a j → w0.heap.size ≤ j ∧ j < w.heap.size
  wb : Below w0.heap.size w0 w
/-- What is kept where blocks of the kinds K alone are turned. -/
structure OBK (K : Nat → Prop) (w0 w : World) (c : Cf) (N : Nat) (lv : Nat → Bool) (W Rl : Nat → List Int) (P : List Int) (WV RV : Nat → Value) (F : Nat → Prop) : Prop where
  h0 : ¬ K 0 → w.cell? ⟨c.B, 0, none⟩ = some (.slice (some ⟨c.gl, 0, none⟩) N N)
  h1 : ¬ K 0 → w.cell? ⟨c.B, 1, none⟩ = some (.slice (some ⟨c.gw, 0, none⟩) N N)
  h2 : ¬ K 0 → w.cell? ⟨c.B, 2, none⟩ = some (HolderV c)
  h3 : ¬ K 0 → w.cell? ⟨c.B, 3, none⟩ = some (PushV c)
  h4 : ¬ K 0 → w.cell? ⟨c.B, 4, none⟩ = some (PopV c)
  bl : ¬ K 4 → w.cell? ⟨c.bl, 0, none⟩ = some (.slice (some ⟨c.gl, 0, none⟩) N N)
  br : ¬ K 5 → w.cell? ⟨c.br, 0, none⟩ = some (.slice (some ⟨c.gr, 0, none⟩) N N)
  lr : ¬ K 1 → ∀ i, i < N → w.cell? ⟨c.gl, i, none⟩ = some (.bool (lv i)) ∧ w.frozen? ⟨c.gl, i, none⟩ = false
  wr : ¬ K 2 → ∀ i, i < N → w.cell? ⟨c.gw, i, none⟩ = some (WV i) ∧ w.frozen? ⟨c.gw, i, none⟩ = false
  rr : ¬ K 3 → ∀ i, i < N → w.cell? ⟨c.gr, i, none⟩ = some (RV i) ∧ w.frozen? ⟨c.gr, i, none⟩ = false
  wo : ∀ i, i < N → ¬ K (8 + i) → w.ownsRow w0.heap.size 3 1 (WV i) (W i).length ((W i).map (Value.int .i64))
  ro : ¬ K 7 → ∀ i, i < N → Sl w (RV i) (Rl i)
  pl : ¬ K 6 → RepI w c.PB P F
  wb : Below w0.heap.size w0 w
section
variable {w0 w w' : World} {c : Cf} {N : Nat} {lv : Nat → Bool} {W Rl : Nat → List Int} {P : List Int} {WV RV : Nat → Value} {F T K : Nat → Prop}
theorem OB.same (h : OB w0 w c N lv W Rl P WV RV F) (t : Turn T w w') (hT : ∀ j, T j → ∃ k, K k ∧ KF c N Rl WV RV F k j) {a j : Nat} (hk : KF c N Rl WV RV F a j) (ha : ¬ K a) : w'.heap[j]? = w.heap[j]? :=
  t.block j (h.lo a j hk).2 fun q => by
    obtain ⟨k, h1, h2⟩ := hT j q
    exact ha (h.ds _ _ _ h2 hk ▸ h1)
theorem cell_same {w w' : World} {b : Nat} (h : w'.heap[b]? = w.heap[b]?) (i : Nat) : w'.cell? ⟨b, i, none⟩ = w.cell? ⟨b, i, none⟩ := by unfold World.cell?; rw [h]
theorem frozen_same {w w' : World} {b : Nat} (h : w'.heap[b]? = w.heap[b]?) (i : Nat) : w'.frozen? ⟨b, i, none⟩ = w.frozen? ⟨b, i, none⟩ := by unfold World.frozen?; rw [h]
theorem owns_same {base : Nat} {e : TypeId} {size n : Nat} {v : Value} {cs : List Value} (h : w.ownsRow base e size v n cs) (hk : ∀ b, v.ownBlock = some b → w'.heap[b]? = w.heap[b]?) : w'.ownsRow base e size v n cs := by
  refine ⟨h.1, ?_⟩
  rcases h.2 with q | ⟨g, cap, cur, rfl, h2, h3, h4⟩
  · exact Or.inl q
  · exact Or.inr ⟨g, cap, cur, rfl, h2, (hk g rfl).trans h3, h4⟩
theorem sl_same {v : Value} {L : List Int} (h : Sl w v L) (hk : L ≠ [] → ∀ b, v.ownBlock = some b → w'.heap[b]? = w.heap[b]?) : Sl w' v L := by
  obtain ⟨a, cap, rfl, h2, h3, h4, h5⟩ := h
  refine ⟨a, cap, rfl, h2, h3, h4, fun i hi => ?_⟩
  obtain ⟨b, off, rfl, hc⟩ := h5 i hi
  exact ⟨b, off, rfl, (cell_same (hk (fun q => by rw [q] at hi; cases hi) b rfl) _).trans hc⟩
theorem OB.parts2 (h : OB w0 w c N lv W Rl P WV RV F) (t : Turn T w w') (hT : ∀ a j, T j → KF c N Rl WV RV F a j → K a) (hl : ∀ j, T j → w0.heap.size ≤ j) : OBK K w0 w' c N lv W Rl P WV RV F := by
  have s : ∀ {a j : Nat}, KF c N Rl WV RV F a j → ¬ K a → w'.heap[j]? = w.heap[j]? := fun {a j} hk ha => t.block j (h.lo a j hk).2 fun q => ha (hT a j q hk)
  exact ⟨fun k => (cell_same (s kf0 k) 0).trans h.h0, fun k => (cell_same (s kf0 k) 1).trans h.h1, fun k => (cell_same (s kf0 k) 2).trans h.h2, fun k => (cell_same (s kf0 k) 3).trans h.h3, fun k => (cell_same (s kf0 k) 4).trans h.h4,
    fun k => (cell_same (s kf4 k) 0).trans h.bl, fun k => (cell_same (s kf5 k) 0).trans h.br,
    fun k i hi => ⟨(cell_same (s kf1 k) i).trans (h.lr i hi).1, (frozen_same (s kf1 k) i).trans (h.lr i hi).2⟩,
    fun k i hi => ⟨(cell_same (s kf2 k) i).trans (h.wr i hi).1, (frozen_same (s kf2 k) i).trans (h.wr i hi).2⟩,
    fun k i hi => ⟨(cell_same (s kf3 k) i).trans (h.rr i hi).1, (frozen_same (s kf3 k) i).trans (h.rr i hi).2⟩,
    fun i hi k => owns_same (h.wo i hi) fun b hb => s (kf8 hi hb) k,
    fun k i hi => sl_same (h.ro i hi) fun h0 b hb => s (kf7 hi h0 hb) k,
    fun k => h.pl.keep fun j hj => s (kf6 hj) k,
    h.wb.trans (t.below hl h.wb.size)⟩
theorem OB.parts (h : OB w0 w c N lv W Rl P WV RV F) (t : Turn T w w') (hT : ∀ j, T j → ∃ k, K k ∧ KF c N Rl WV RV F k j) : OBK K w0 w' c N lv W Rl P WV RV F :=
  h.parts2 t (fun a j q hk => by obtain ⟨k, h1, h2⟩ := hT j q; exact h.ds _ _ _ h2 hk ▸ h1) (fun j q => by obtain ⟨k, _, h2⟩ := hT j q; exact (h.lo _ _ h2).1)
/-- Other blocks have turned. -/
theorem OB.other (h : OB w0 w c N lv W Rl P WV RV F) (t : Turn T w w') (hT : ∀ j, T j → ¬ KA c N Rl WV RV F j) (hl : ∀ j, T j → w0.heap.size ≤ j) : OB w0 w' c N lv W Rl P WV RV F := by
  have p := h.parts2 (K := fun _ => False) t (fun a j q hk => hT j q ⟨a, hk⟩) hl
  exact ⟨p.h0 id, p.h1 id, p.h2 id, p.h3 id, p.h4 id, p.bl id, p.br id, p.lr id, p.wr id, p.rr id, fun i hi => p.wo i hi id, p.ro id, p.pl id, h.ds, fun a j q => ⟨(h.lo a j q).1, Nat.lt_of_lt_of_le (h.lo a j q).2 t.size⟩, p.wb⟩
/-- Blocks of one kind alone are new: all kinds stay apart. -/
theorem ds_step {Rl' : Nat → List Int} {WV' RV' : Nat → Value} {F' : Nat → Prop} (h : OB w0 w c N lv W Rl P WV RV F) (k : Nat) (hs : w.heap.size ≤ w'.heap.size) (hn : ∀ a j, KF c N Rl' WV' RV' F' a j → KF c N Rl WV RV F a j ∨ (a = k ∧ w.heap.size ≤ j ∧ j < w'.heap.size)) :
    (∀ a b j, KF c N Rl' WV' RV' F' a j → KF c N Rl' WV' RV' F' b j → a = b) ∧ ∀ a j, KF c N Rl' WV' RV' F' a j → w0.heap.size ≤ j ∧ j < w'.heap.size := by
  refine ⟨fun a b j ha hb => ?_, fun a j ha => ?_⟩
  · rcases hn a j ha with p | p <;> rcases hn b j hb with q | q
    · exact h.ds _ _ _ p q
    · have := (h.lo _ _ p).2; omega
    · have := (h.lo _ _ q).2; omega
    · exact p.1.trans q.1.symm
  · rcases hn a j ha with p | p
    · have := h.lo _ _ p; omega
    · have := h.wb.size; omega
theorem OB.congr {lv' : Nat → Bool} (h : OB w0 w c N lv W Rl P WV RV F) (e : ∀ i, i < N → lv' i = lv i) : OB w0 w c N lv' W Rl P WV RV F :=
  ⟨h.h0, h.h1, h.h2, h.h3, h.h4, h.bl, h.br, fun i hi => by rw [e i hi]; exact h.lr i hi, h.wr, h.rr, h.wo, h.ro, h.pl, h.ds, h.lo, h.wb⟩
/-- New blocks alone. -/
theorem OB.below (h : OB w0 w c N lv W Rl P WV RV F) (hb : Below w.heap.size w w') : OB w0 w' c N lv W Rl P WV RV F := by
  have p := h.parts (K := fun _ => False) (T := fun _ => False) (Turn.of_below hb) (fun j q => q.elim)
  exact ⟨p.h0 id, p.h1 id, p.h2 id, p.h3 id, p.h4 id, p.bl id, p.br id, p.lr id, p.wr id, p.rr id, fun i hi => p.wo i hi id, p.ro id, p.pl id, h.ds, fun a j q => ⟨(h.lo a j q).1, Nat.lt_of_lt_of_le (h.lo a j q).2 hb.size⟩, p.wb⟩
theorem set_kind (w : World) (b i : Nat) (u : Value) : Turn (fun j => j = b) w (w.setCell ⟨b, i, none⟩ u) := turn_set (F := fun j => j = b) (p := ⟨b, i, none⟩) (Turn.refl _ _) (Or.inl (show b = b from rfl)) u
/-- A node is told: it is left no more. -/
theorem OB.gone (h : OB w0 w c N lv W Rl P WV RV F) {v : Nat} (hv : v < N) : OB w0 (w.setCell ⟨c.gl, v, none⟩ (.bool false)) c N (fun i => if i = v then false else lv i) W Rl P WV RV F ∧ Turn (fun j => j = c.gl) w (w.setCell ⟨c.gl, v, none⟩ (.bool false)) := by
  have t := set_kind w c.gl v (.bool false)
  have p := h.parts (K := fun k => k = 1) t (fun j q => ⟨1, rfl, by rw [q]; exact kf1⟩)
  obtain ⟨d1, d2⟩ := ds_step (Rl' := Rl) (WV' := WV) (RV' := RV) (F' := F) h 1 t.size (fun a j q => Or.inl q)
  refine ⟨⟨p.h0 (by omega), p.h1 (by omega), p.h2 (by omega), p.h3 (by omega), p.h4 (by omega), p.bl (by omega), p.br (by omega), fun i hi => ?_, p.wr (by omega), p.rr (by omega), fun i hi => p.wo i hi (by omega), p.ro (by omega), p.pl (by omega), d1, d2, p.wb⟩, t⟩
  refine ⟨?_, (World.frozen?_setCell _ _ _ _).trans (h.lr i hi).2⟩
  by_cases e : i = v
  · subst e
    simp only [if_true]
    exact World.cell?_setCell_same _ _ _ (h.lr i hi).1
  · rw [if_neg e]
    exact (World.cell?_setCell_other _ _ _ _ (fun q => e (by cases q; rfl))).trans (h.lr i hi).1
/-- A read is gone by. -/
theorem OB.drop (h : OB w0 w c N lv W Rl P WV RV F) {v : Nat} (hv : v < N) {u : Value} {L : List Int} (hu : Sl w u L) (hb : ∀ b, L ≠ [] → u.ownBlock = some b → Rl v ≠ [] ∧ (RV v).ownBlock = some b) :
    OB w0 (w.setCell ⟨c.gr, v, none⟩ u) c N lv W (updL Rl v L) P WV (updV RV v u) F ∧ Turn (fun j => j = c.gr) w (w.setCell ⟨c.gr, v, none⟩ u) ∧ ∀ j, KA c N (updL Rl v L) WV (updV RV v u) F j → KA c N Rl WV RV F j := by
  have t := set_kind w c.gr v u
  have hn : ∀ a j, KF c N (updL Rl v L) WV (updV RV v u) F a j → KF c N Rl WV RV F a j := by
    rintro a j (q | q | q | q | q | q | q | ⟨q, i, hi, h0, hq⟩ | q)
    · exact Or.inl q
    · exact Or.inr (Or.inl q)
    · exact Or.inr (Or.inr (Or.inl q))
    · exact Or.inr (Or.inr (Or.inr (Or.inl q)))
    · exact Or.inr (Or.inr (Or.inr (Or.inr (Or.inl q))))
    · exact Or.inr (Or.inr (Or.inr (Or.inr (Or.inr (Or.inl q)))))
    · exact Or.inr (Or.inr (Or.inr (Or.inr (Or.inr (Or.inr (Or.inl q))))))
    · subst q
      unfold updL at h0
      unfold updV at hq
      by_cases e : i = v
      · rw [if_pos e] at h0 hq
        obtain ⟨r1, r2⟩ := hb j h0 hq
        exact kf7 hv r1 r2
      · rw [if_neg e] at h0 hq
        exact kf7 hi h0 hq
    · exact Or.inr (Or.inr (Or.inr (Or.inr (Or.inr (Or.inr (Or.inr (Or.inr q)))))))
  have p := h.parts (K := fun k => k = 3) t (fun j q => ⟨3, rfl, by rw [q]; exact kf3⟩)
  obtain ⟨d1, d2⟩ := ds_step (Rl' := updL Rl v L) (WV' := WV) (RV' := updV RV v u) (F' := F) h 3 t.size (fun a j q => Or.inl (hn a j q))
  refine ⟨⟨p.h0 (by omega), p.h1 (by omega), p.h2 (by omega), p.h3 (by omega), p.h4 (by omega), p.bl (by omega), p.br (by omega), p.lr (by omega), p.wr (by omega), fun i hi => ?_, fun i hi => p.wo i hi (by omega), fun i hi => ?_, p.pl (by omega), d1, d2, p.wb⟩, t, fun j ⟨a, q⟩ => ⟨a, hn a j q⟩⟩
  · refine ⟨?_, (World.frozen?_setCell _ _ _ _).trans (h.rr i hi).2⟩
    unfold updV
    by_cases e : i = v
    · subst e
      rw [if_pos rfl]
      obtain ⟨a, cap, rfl, _⟩ := hu
      exact World.cell?_setCell_same _ _ _ (h.rr i hi).1
    · rw [if_neg e]
      exact (World.cell?_setCell_other _ _ _ _ (fun q => e (by cases q; rfl))).trans (h.rr i hi).1
  · unfold updV updL
    by_cases e : i = v
    · subst e
      rw [if_pos rfl, if_pos rfl]
      refine sl_same hu fun h0 b hq => ?_
      obtain ⟨r1, r2⟩ := hb b h0 hq
      exact h.same (K := fun k => k = 3) t (fun j q => ⟨3, rfl, by rw [q]; exact kf3⟩) (kf7 hi r1 r2) (by omega)
    · rw [if_neg e, if_neg e]
      exact p.ro (by omega) i hi
/-- The pile alone has turned. -/
theorem OB.pile {P' : List Int} {F' : Nat → Prop} (h : OB w0 w c N lv W Rl P WV RV F) (hr : RepI w' c.PB P' F') (t : Turn F w w') (hF : ∀ j, F' j → F j ∨ w.heap.size ≤ j) :
    OB w0 w' c N lv W Rl P' WV RV F' ∧ ∀ j, KA c N Rl WV RV F' j → KA c N Rl WV RV F j ∨ w.heap.size ≤ j := by
  have hn : ∀ a j, KF c N Rl WV RV F' a j → KF c N Rl WV RV F a j ∨ (a = 6 ∧ w.heap.size ≤ j ∧ j < w'.heap.size) := by
    rintro a j (q | q | q | q | q | q | ⟨q, hq⟩ | q | q)
    · exact Or.inl (Or.inl q)
    · exact Or.inl (Or.inr (Or.inl q))
    · exact Or.inl (Or.inr (Or.inr (Or.inl q)))
    · exact Or.inl (Or.inr (Or.inr (Or.inr (Or.inl q))))
    · exact Or.inl (Or.inr (Or.inr (Or.inr (Or.inr (Or.inl q)))))
    · exact Or.inl (Or.inr (Or.inr (Or.inr (Or.inr (Or.inr (Or.inl q))))))
    · subst q
      rcases hF j hq with r | r
      · exact Or.inl (kf6 r)
      · exact Or.inr ⟨rfl, r, hr.foot j hq⟩
    · exact Or.inl (Or.inr (Or.inr (Or.inr (Or.inr (Or.inr (Or.inr (Or.inr (Or.inl q))))))))
    · exact Or.inl (Or.inr (Or.inr (Or.inr (Or.inr (Or.inr (Or.inr (Or.inr (Or.inr q))))))))
  have p := h.parts (K := fun k => k = 6) t (fun j q => ⟨6, rfl, kf6 q⟩)
  obtain ⟨d1, d2⟩ := ds_step (Rl' := Rl) (WV' := WV) (RV' := RV) (F' := F') h 6 t.size hn
  exact ⟨⟨p.h0 (by omega), p.h1 (by omega), p.h2 (by omega), p.h3 (by omega), p.h4 (by omega), p.bl (by omega), p.br (by omega), p.lr (by omega), p.wr (by omega), p.rr (by omega), fun i hi => p.wo i hi (by omega), p.ro (by omega), hr, d1, d2, p.wb⟩,
    fun j ⟨a, q⟩ => (hn a j q).imp (fun r => ⟨a, r⟩) (fun r => r.2.1)⟩
/-- One more waits at a node. -/
theorem OB.wait {w1 : World} {v : Nat} {x : Int} {u : Value} (h : OB w0 w c N lv W Rl P WV RV F) (hv : v < N) (t1 : Turn (fun j => (WV v).ownBlock = some j) w w1)
    (ho : w1.ownsRow w0.heap.size 3 1 u ((W v).length + 1) ((W v).map (Value.int .i64) ++ [.int .i64 x])) (hl : u.ownBlock = (WV v).ownBlock ∨ ∃ g, u.ownBlock = some g ∧ w.heap.size ≤ g) :
    OB w0 (w1.setCell ⟨c.gw, v, none⟩ u) c N lv (updL W v (W v ++ [x])) Rl P (updV WV v u) RV F ∧ Turn (KA c N Rl WV RV F) w (w1.setCell ⟨c.gw, v, none⟩ u) ∧ ∀ j, KA c N Rl (updV WV v u) RV F j → KA c N Rl WV RV F j ∨ w.heap.size ≤ j := by
  have t : Turn (fun j => (WV v).ownBlock = some j ∨ j = c.gw) w (w1.setCell ⟨c.gw, v, none⟩ u) := turn_set (F := fun j => (WV v).ownBlock = some j ∨ j = c.gw) (p := ⟨c.gw, v, none⟩) (t1.mono fun j q => Or.inl q) (Or.inl (Or.inr rfl)) u
  have ts := set_kind w1 c.gw v u
  have hT : ∀ j, (WV v).ownBlock = some j ∨ j = c.gw → ∃ k, (k = 2 ∨ k = 8 + v) ∧ KF c N Rl WV RV F k j := by
    rintro j (q | q)
    · exact ⟨8 + v, Or.inr rfl, kf8 hv q⟩
    · exact ⟨2, Or.inl rfl, by rw [q]; exact kf2⟩
  have hgw : ∀ b, u.ownBlock = some b → b ≠ c.gw := fun b hb e => by
    subst e
    rcases hl with q | ⟨g, q, hg⟩
    · have := h.ds _ _ _ (kf8 (i := v) hv (q ▸ hb)) kf2; omega
    · rw [q] at hb; cases hb; have := (h.lo _ _ (kf2 (c := c) (N := N) (Rl := Rl) (WV := WV) (RV := RV) (F := F))).2; omega
  have hn : ∀ a j, KF c N Rl (updV WV v u) RV F a j → KF c N Rl WV RV F a j ∨ (a = 8 + v ∧ w.heap.size ≤ j ∧ j < (w1.setCell ⟨c.gw, v, none⟩ u).heap.size) := by
    rintro a j (q | q | q | q | q | q | q | q | ⟨i, hi, q, hq⟩)
    · exact Or.inl (Or.inl q)
    · exact Or.inl (Or.inr (Or.inl q))
    · exact Or.inl (Or.inr (Or.inr (Or.inl q)))
    · exact Or.inl (Or.inr (Or.inr (Or.inr (Or.inl q))))
    · exact Or.inl (Or.inr (Or.inr (Or.inr (Or.inr (Or.inl q)))))
    · exact Or.inl (Or.inr (Or.inr (Or.inr (Or.inr (Or.inr (Or.inl q))))))
    · exact Or.inl (Or.inr (Or.inr (Or.inr (Or.inr (Or.inr (Or.inr (Or.inl q)))))))
    · exact Or.inl (Or.inr (Or.inr (Or.inr (Or.inr (Or.inr (Or.inr (Or.inr (Or.inl q))))))))
    · subst q
      unfold updV at hq
      by_cases e : i = v
      · subst e
        rw [if_pos rfl] at hq
        rcases hl with r | ⟨g, r, hg⟩
        · exact Or.inl (kf8 hi (r ▸ hq))
        · rw [r] at hq; cases hq
          exact Or.inr ⟨rfl, hg, Nat.lt_of_lt_of_le (World.ownsRow.lt ho _ r).2 ts.size⟩
      · rw [if_neg e] at hq
        exact Or.inl (kf8 hi hq)
  have p := h.parts (K := fun k => k = 2 ∨ k = 8 + v) t hT
  obtain ⟨d1, d2⟩ := ds_step (Rl' := Rl) (WV' := updV WV v u) (RV' := RV) (F' := F) h (8 + v) t.size hn
  refine ⟨⟨p.h0 (by omega), p.h1 (by omega), p.h2 (by omega), p.h3 (by omega), p.h4 (by omega), p.bl (by omega), p.br (by omega), p.lr (by omega), fun i hi => ?_, p.rr (by omega), fun i hi => ?_, p.ro (by omega), p.pl (by omega), d1, d2, p.wb⟩,
    t.mono fun j q => by obtain ⟨k, _, h2⟩ := hT j q; exact ⟨k, h2⟩, fun j ⟨a, q⟩ => (hn a j q).imp (fun r => ⟨a, r⟩) (fun r => r.2.1)⟩
  · have hz : w1.heap[c.gw]? = w.heap[c.gw]? := t1.block c.gw (h.lo _ _ kf2).2 fun q => by
      have := h.ds _ _ _ (kf8 (i := v) hv q) kf2; omega
    refine ⟨?_, (World.frozen?_setCell _ _ _ _).trans ((frozen_same hz i).trans (h.wr i hi).2)⟩
    unfold updV
    by_cases e : i = v
    · subst e
      rw [if_pos rfl]
      obtain ⟨a, cap, rfl⟩ := (ownsRow_slc ho).form
      exact World.cell?_setCell_same _ _ _ ((cell_same hz i).trans (h.wr i hi).1)
    · rw [if_neg e]
      exact (World.cell?_setCell_other _ _ _ _ (fun q => e (by cases q; rfl))).trans ((cell_same hz i).trans (h.wr i hi).1)
  · unfold updV updL
    by_cases e : i = v
    · subst e
      rw [if_pos rfl, if_pos rfl, List.length_append, List.map_append]
      exact own_turn ho ts fun b q r => hgw b q r
    · rw [if_neg e, if_neg e]
      exact p.wo i hi (by omega)
end
/- The landed walk's state: which nodes are left, in its blocks; what steps leave of other blocks. No Go function is walked here. No conditions. -/
structure Dt where
  P : List Int
  W : Nat → List Int
  D : Nat → Nat
  WV : Nat → Value
  RV : Nat → Value
  F : Nat → Prop
def rl (R : List (List Int)) (A : List Int) (D : Nat → Nat) (i : Nat) : List Int := if ((i : Nat) : Int) ∈ A then (gR R i).drop (D i) else []
def lvP (pos : Nat → Int) (i : Nat) : Bool := decide (pos i ≠ -1)
structure St (w0 w : World) (c : Cf) (R : List (List Int)) (A : List Int) (pos : Nat → Int) (out : List Int) (d : Dt) : Prop where
  hi : HI R A pos out d.P d.W d.D
  ob : OB w0 w c R.length (lvP pos) d.W (rl R A d.D) d.P d.WV d.RV d.F
def SA (c : Cf) (R : List (List Int)) (A : List Int) (d : Dt) (j : Nat) : Prop := KA c R.length (rl R A d.D) d.WV d.RV d.F j
/-- What a step turns. -/
structure Step (c : Cf) (R : List (List Int)) (A : List Int) (w w' : World) (d d' : Dt) : Prop where
  t : Turn (SA c R A d) w w'
  g : ∀ j, SA c R A d' j → SA c R A d j ∨ w.heap.size ≤ j
section
variable {c : Cf} {R : List (List Int)} {A : List Int} {w0 w w' w'' : World} {d d' d'' : Dt} {pos : Nat → Int} {out : List Int}
theorem Step.refl (w : World) (d : Dt) : Step c R A w w d d := ⟨Turn.refl _ _, fun j q => Or.inl q⟩
theorem Step.trans (h : Step c R A w w' d d') (k : Step c R A w' w'' d' d'') : Step c R A w w'' d d'' :=
  ⟨h.t.trans k.t h.g, fun j q => by
    rcases k.g j q with r | r
    · exact h.g j r
    · exact Or.inr (Nat.le_trans h.t.size r)⟩
theorem Step.below (h : Step c R A w w' d d') (hb : Below w'.heap.size w' w'') : Step c R A w w'' d d' := h.trans ⟨Turn.of_below hb, fun j q => Or.inl q⟩
theorem St.below (h : St w0 w c R A pos out d) (hb : Below w.heap.size w w') : St w0 w' c R A pos out d := ⟨h.hi, h.ob.below hb⟩
theorem St.other {T : Nat → Prop} (h : St w0 w c R A pos out d) (t : Turn T w w') (hT : ∀ j, T j → ¬ SA c R A d j) (hl : ∀ j, T j → w0.heap.size ≤ j) : St w0 w' c R A pos out d := ⟨h.hi, h.ob.other t hT hl⟩
/-- What is new may turn. -/
theorem Step.new {T : Nat → Prop} (h : Step c R A w w' d d') (t : Turn T w' w'') (hT : ∀ j, T j → w.heap.size ≤ j) : Step c R A w w'' d d' := ⟨h.t.trans t (fun j q => Or.inr (hT j q)), h.g⟩
theorem St.foot (h : St w0 w c R A pos out d) : ∀ j, SA c R A d j → w0.heap.size ≤ j ∧ j < w.heap.size := fun j ⟨a, q⟩ => h.ob.lo a j q
theorem Step.low (h : Step c R A w w' d d') (hs : St w0 w c R A pos out d) : Below w0.heap.size w w' := h.t.below (fun j q => (hs.foot j q).1) hs.ob.wb.size
/-- A row that the call owns beside the walk stays. -/
theorem Step.own {base : Nat} {e : TypeId} {size n : Nat} {v : Value} {xs : List Value} (h : Step c R A w w' d d') (ho : OwnO (SA c R A d) w base e size v n xs) : OwnO (SA c R A d') w' base e size v n xs :=
  ho.turn h.t (fun b q => (ho.2 b q).2) h.g
theorem lvP_upd {v : Nat} {z : Int} (h1 : pos v ≠ -1) (h2 : z ≠ -1) : lvP (upd1 pos v z) = lvP pos := by
  funext i
  unfold lvP upd1
  by_cases e : i = v
  · subst e; rw [if_pos rfl, decide_eq_true h1, decide_eq_true h2]
  · rw [if_neg e]
theorem lvP_tell {v : Nat} : lvP (tellP pos v) = fun i => if i = v then false else lvP pos i := by
  funext i
  unfold lvP tellP
  by_cases e : i = v
  · subst e; simp
  · rw [if_neg e, if_neg e]
    by_cases q : pos i = (v : Int)
    · rw [if_pos q]
      rw [decide_eq_true (show ((-3 : Int) ≠ -1) by omega), decide_eq_true (show pos i ≠ -1 by omega)]
    · rw [if_neg q]
theorem rl_upd {D : Nat → Nat} {v : Nat} (hA : ((v : Nat) : Int) ∈ A) : rl R A (updN D v (D v + 1)) = updL (rl R A D) v ((gR R v).drop (D v + 1)) := by
  funext i
  unfold rl updL updN
  by_cases e : i = v
  · subst e; rw [if_pos hA, if_pos rfl, if_pos rfl]
  · rw [if_neg e, if_neg e]
theorem rl_in {D : Nat → Nat} {v : Nat} (hA : ((v : Nat) : Int) ∈ A) : rl R A D v = (gR R v).drop (D v) := by unfold rl; rw [if_pos hA]
theorem drop_cons {L : List Int} {k : Nat} (h : k < L.length) : L.drop k = L.getD k 0 :: L.drop (k + 1) := by
  rw [getD_lt _ _ h, List.getElem_cons_drop]
/-- What is left of a slice behind its first number. -/
theorem sl_tail {w : World} {b off m cap : Nat} {x : Int} {L : List Int} (h : Sl w (.slice (some ⟨b, off, none⟩) m cap) (x :: L)) (a : Option Addr) (cap' : Nat) (hc : L.length ≤ cap') (hn : a = none → cap' = 0) (ha : L ≠ [] → a = some ⟨b, off + 1, none⟩) : Sl w (.slice a L.length cap') L := by
  obtain ⟨a', cap2, e, h2, h3, h4, h5⟩ := h
  cases e
  refine ⟨a, cap', rfl, hc, hn, fun z hz => h4 z (by simp [hz]), fun i hi => ?_⟩
  obtain ⟨b', off', e, hc'⟩ := h5 (i + 1) (by simpa using hi)
  cases e
  refine ⟨b, off + 1, ha (fun q => by rw [q] at hi; cases hi), ?_⟩
  rw [show off + 1 + i = off + (i + 1) by omega, hc']
  simp
end
/-- One more read is gone by. -/
theorem St.drop {c : Cf} {R : List (List Int)} {A : List Int} {w0 w : World} {d : Dt} {pos : Nat → Int} {out : List Int} (h : St w0 w c R A pos out d) {v : Nat} (hv : v < R.length) (hA : ((v : Nat) : Int) ∈ A) (hd : d.D v < (gR R v).length) (hx : pos ((gR R v).getD (d.D v) 0).toNat = -1)
    {b off cap : Nat} (hRV : d.RV v = .slice (some ⟨b, off, none⟩) ((gR R v).length - d.D v) cap) (a : Option Addr) (cap' : Nat) (hc : (gR R v).length - d.D v - 1 ≤ cap') (hn : a = none → cap' = 0) (ha : (gR R v).length - d.D v - 1 ≠ 0 → a = some ⟨b, off + 1, none⟩) :
    ∃ d', St w0 (w.setCell ⟨c.gr, v, none⟩ (.slice a ((gR R v).length - d.D v - 1) cap')) c R A pos out d' ∧ Step c R A w (w.setCell ⟨c.gr, v, none⟩ (.slice a ((gR R v).length - d.D v - 1) cap')) d d' ∧ d'.P = d.P ∧ d'.W = d.W ∧ d'.WV = d.WV ∧ d'.F = d.F ∧ d'.D v = d.D v + 1 := by
  have hs := h.ob.ro v hv
  rw [rl_in hA, drop_cons hd, hRV] at hs
  have hl : ((gR R v).drop (d.D v + 1)).length = (gR R v).length - d.D v - 1 := by rw [List.length_drop]; omega
  have ht := sl_tail hs a cap' (by rw [hl]; exact hc) hn (fun q => ha (fun r => q (List.length_eq_zero_iff.1 (by rw [hl]; exact r))))
  rw [hl] at ht
  obtain ⟨o1, o2, o3⟩ := h.ob.drop hv ht (fun b' h0 hb' => by
    have := ha (fun r => h0 (List.length_eq_zero_iff.1 (by rw [hl]; exact r)))
    subst this
    cases hb'
    refine ⟨?_, by rw [hRV]; rfl⟩
    rw [rl_in hA, drop_cons hd]; simp)
  rw [← rl_upd hA] at o1 o3
  exact ⟨⟨d.P, d.W, updN d.D v (d.D v + 1), d.WV, updV d.RV v (.slice a ((gR R v).length - d.D v - 1) cap'), d.F⟩, ⟨h.hi.drop hv hd hx, o1⟩, ⟨o2.mono fun j q => ⟨3, by rw [q]; exact kf3⟩, fun j q => Or.inl (o3 j q)⟩, rfl, rfl, rfl, rfl, by show updN _ _ _ _ = _; unfold updN; rw [if_pos rfl]⟩
/- The landed walk's closure: what holds a node back. The conditions: the walk's blocks. -/
set_option maxHeartbeats 2000000 in
set_option maxRecDepth 100000 in
theorem holder_c {c : Cf} {R : List (List Int)} {A : List Int} {w0 w : World} {d : Dt} {pos : Nat → Int} {out : List Int} (hI : GrI R) (h : St w0 w c R A pos out d) {v : Nat} (hv : v < R.length) (hA : ((v : Nat) : Int) ∈ A) :
    Calls Tryz.prog 72 #[.int .i64 (v : Int), .pointer (some ⟨c.br, 0, none⟩), .pointer (some ⟨c.bl, 0, none⟩)] w fun e w' =>
      e = .returned (.tuple #[.int .i64 ((hf R pos v).getD 0), .bool (hf R pos v).isSome]) ∧ ∃ d', St w0 w' c R A pos out d' ∧ Step c R A w w' d d' ∧ d'.P = d.P ∧ d'.W = d.W ∧ d'.WV = d.WV ∧ d'.F = d.F := by
  have H := Lib.hid h
  have i0 : (0 : Int) ≤ (v : Int) := by omega
  have i1 : (v : Int) < (R.length : Int) := by omega
  clear h
  go_enter Tryz.func72, Tryz.ntmps72
  go_wp2_with fail
  go_loopg [] (gR R v).length (fun k wr => ∃ d', St w0 wr c R A pos out d' ∧ Step c R A w wr d d' ∧ d'.P = d.P ∧ d'.W = d.W ∧ d'.WV = d.WV ∧ d'.F = d.F ∧ (gR R v).length - d'.D v ≤ k)
  case atStart => exact ⟨d, H.out, Step.refl _ _, rfl, rfl, rfl, rfl, Nat.sub_le _ _⟩
  case round =>
    clear H
    obtain ⟨d', hS, hT, e1, e2, e3, e4, hk⟩ := hrel
    have HE := Lib.hid (And.intro e1 (And.intro e2 (And.intro e3 e4)))
    have HT := Lib.hid hT
    have c1 := hS.ob.br
    have c2 := hS.ob.bl
    obtain ⟨c3, z3⟩ := hS.ob.rr v hv
    have hro := hS.ob.ro v hv
    have hDl := (hS.hi.dr v hv).1
    rw [rl_in hA] at hro
    by_cases hd : d'.D v < (gR R v).length
    · have hg := hI.nodes v ((gR R v).getD (d'.D v) 0) (by rw [getD_lt _ _ hd]; exact List.getElem_mem hd)
      obtain ⟨x, hx⟩ : ∃ x : Nat, (gR R v).getD (d'.D v) 0 = (x : Int) := ⟨((gR R v).getD (d'.D v) 0).toNat, by unfold gnd at hg; omega⟩
      have hxl : x < R.length := by unfold gnd at hg; omega
      have hfa := hf_at hS.hi hv hd
      rw [hx, Int.toNat_natCast] at hfa
      obtain ⟨c4, _⟩ := hS.ob.lr x hxl
      have hlen : ((gR R v).drop (d'.D v)).length = (gR R v).length - d'.D v := by rw [List.length_drop]
      obtain ⟨a, cap, hRV, hcap, hac, hrd⟩ := hro
      obtain ⟨b, off, rfl, hcx⟩ := hrd.2 0 (by rw [hlen]; omega)
      rw [Nat.add_zero, drop_cons hd] at hcx
      simp only [List.getD_cons_zero] at hcx
      rw [hx] at hcx
      rw [hlen] at hRV hcap
      have hdr := fun q => hS.drop hv hA hd (by rw [hx, Int.toNat_natCast]; exact q) hRV
      rw [hRV] at c3
      obtain ⟨m, hm⟩ : ∃ m, (gR R v).length - d'.D v = m + 1 := ⟨(gR R v).length - d'.D v - 1, by omega⟩
      rw [hm] at c3 hdr hcap hk
      simp only [Nat.add_sub_cancel] at hdr
      have j0 : (0 : Int) ≤ (x : Int) := by omega
      have j1 : (x : Int) < (R.length : Int) := by omega
      have hS' := Lib.hid hS
      have HDR := Lib.hid hdr
      have HM := Lib.hid hm
      clear hS hdr hRV hrd hlen hx hg hac hd hm hDl
      by_cases hp : pos x = -1
      · have hlv : lvP pos x = false := by unfold lvP; simp [hp]
        rw [hlv] at c4
        have k0 : (1 : Int) ≤ (cap : Int) := by omega
        have k1 : ((m + 1 : Nat) : Int) ≤ (cap : Int) := by omega
        clear hfa
        by_cases hc1 : cap = 1
        · subst hc1
          obtain rfl : m = 0 := by omega
          go_wp2_with fail
          go_region
          obtain ⟨d2, hS2, hT2, f1, f2, f3, f4, f5⟩ := HDR.out hp (some ⟨b, off, none⟩) 0 (by omega) (fun q => by cases q) (fun q => absurd rfl q)
          have HX := Lib.hid (And.intro hS2 (And.intro hT2 (And.intro f1 (And.intro f2 (And.intro f3 (And.intro f4 f5))))))
          clear hS2 hT2 f1 f2 f3 f4 f5
          go_wp2_with fail
          go_roundg (gk - 1)
          case measure => omega
          case rel =>
            obtain ⟨hS2, hT2, f1, f2, f3, f4, f5⟩ := HX.out
            obtain ⟨g1, g2, g3, g4⟩ := HE.out
            exact ⟨d2, hS2.below ((Below.refl _ _).drew), (HT.out.trans hT2).below ((Below.refl _ _).drew), f1.trans g1, f2.trans g2, f3.trans g3, f4.trans g4, by have := HM.out; rw [f5]; omega⟩
        · have hck : ¬ 1 = cap := fun q => hc1 q.symm
          go_wp2_with fail
          go_region
          obtain ⟨d2, hS2, hT2, f1, f2, f3, f4, f5⟩ := HDR.out hp (some ⟨b, off + 1, none⟩) (cap - 1) (by omega) (fun q => by cases q) (fun q => rfl)
          have HX := Lib.hid (And.intro hS2 (And.intro hT2 (And.intro f1 (And.intro f2 (And.intro f3 (And.intro f4 f5))))))
          clear hS2 hT2 f1 f2 f3 f4 f5
          go_wp2_with fail
          go_roundg (gk - 1)
          case measure => omega
          case rel =>
            obtain ⟨hS2, hT2, f1, f2, f3, f4, f5⟩ := HX.out
            obtain ⟨g1, g2, g3, g4⟩ := HE.out
            exact ⟨d2, hS2.below ((Below.refl _ _).drew), (HT.out.trans hT2).below ((Below.refl _ _).drew), f1.trans g1, f2.trans g2, f3.trans g3, f4.trans g4, by have := HM.out; rw [f5]; omega⟩
      · have hlv : lvP pos x = true := by unfold lvP; simp [hp]
        rw [hlv] at c4
        have HF := Lib.hid (hfa hp)
        clear hfa
        go_wp2_with fail
        go_ret2
        exact ⟨by rw [HF.out]; rfl, d', hS'.out, HT.out, HE.out⟩
    · have h0 : (gR R v).drop (d'.D v) = [] := List.drop_eq_nil_of_le (by omega)
      rw [h0] at hro
      obtain ⟨a, cap, hRV, hcap, hac, hrd⟩ := hro
      rw [hRV] at c3
      have HF := Lib.hid (hf_no hS.hi hv (by omega))
      have HS := Lib.hid hS
      clear hS hRV hrd hd h0 hac hcap hk hDl
      simp only [List.length_nil] at c3
      go_wp2_with fail
      go_ret2
      exact ⟨by rw [HF.out]; rfl, d', HS.out, HT.out, HE.out⟩
/- The landed hold: a node waits at what holds it back, or is made ready. The conditions: the walk's blocks; the node is in hand. -/
section
variable {c : Cf} {R : List (List Int)} {A : List Int} {w0 w w1 w' : World} {d d1 : Dt} {pos : Nat → Int} {out : List Int} {v x : Nat}
/-- What hold leaves. -/
def HoldQ (w0 w w' : World) (c : Cf) (R : List (List Int)) (A : List Int) (pos : Nat → Int) (out : List Int) (d : Dt) (v : Nat) : Prop :=
  ∃ pos' d', St w0 w' c R A pos' out d' ∧ Step c R A w w' d d' ∧ (pos' v ≠ -3 ∧ pos' v ≠ -1) ∧ (∀ u, u ≠ v → pos' u = pos u) ∧ ∀ u, u < R.length → pos u = -1 → d'.W u = d.W u ∧ d'.WV u = d.WV u
theorem St.push {F' : Nat → Prop} (hI : GrI R) (h : St w0 w1 c R A pos out d1) (s : Step c R A w w1 d d1) (hv : v < R.length) (hp : pos v = -3) (hr : ∀ y ∈ gR R v, pos y.toNat = -1) (e1 : d1.W = d.W) (e2 : d1.WV = d.WV)
    (q : RepI w' c.PB (d1.P ++ [((v : Nat) : Int)]) F') (t : Turn d1.F w1 w') (hF : ∀ j, F' j → d1.F j ∨ w1.heap.size ≤ j) : HoldQ w0 w w' c R A pos out d v := by
  obtain ⟨o1, o2⟩ := h.ob.pile q t hF
  refine ⟨upd1 pos v (-2), ⟨d1.P ++ [((v : Nat) : Int)], d1.W, d1.D, d1.WV, d1.RV, F'⟩, ⟨h.hi.push hI hv hp hr, ?_⟩, s.trans ⟨t.mono fun j q => ⟨6, kf6 q⟩, o2⟩, ?_, fun u hu => ?_, fun u hu _ => ⟨congrFun e1 u, congrFun e2 u⟩⟩
  · rw [lvP_upd (by omega) (by omega)]; exact o1
  · unfold upd1; rw [if_pos rfl]; omega
  · unfold upd1; rw [if_neg hu]
theorem St.wait {w3 : World} {u : Value} (hI : GrI R) (h : St w0 w1 c R A pos out d1) (s : Step c R A w w1 d d1) (hv : v < R.length) (hp : pos v = -3) (hx : x < R.length) (hl : pos x ≠ -1) (hr : ((x : Nat) : Int) ∈ gR R v) (e1 : d1.W = d.W) (e2 : d1.WV = d.WV)
    (t1 : Turn (fun j => (d1.WV x).ownBlock = some j) w1 w3) (ho : w3.ownsRow w0.heap.size 3 1 u ((d1.W x).length + 1) ((d1.W x).map (Value.int .i64) ++ [.int .i64 (v : Int)])) (hl2 : u.ownBlock = (d1.WV x).ownBlock ∨ ∃ g, u.ownBlock = some g ∧ w1.heap.size ≤ g) :
    HoldQ w0 w (w3.setCell ⟨c.gw, x, none⟩ u) c R A pos out d v := by
  obtain ⟨o1, o2, o3⟩ := h.ob.wait hx t1 ho hl2
  refine ⟨upd1 pos v (x : Int), ⟨d1.P, updL d1.W x (d1.W x ++ [((v : Nat) : Int)]), d1.D, updV d1.WV x u, d1.RV, d1.F⟩, ⟨h.hi.wait hI hv hp hx hl hr, ?_⟩, s.trans ⟨o2, o3⟩, ?_, fun u hu => ?_, fun z hz hz1 => ?_⟩
  · rw [lvP_upd (by omega) (by omega)]; exact o1
  · unfold upd1; rw [if_pos rfl]; omega
  · unfold upd1; rw [if_neg hu]
  · have e : z ≠ x := fun r => hl (r ▸ hz1)
    refine ⟨?_, ?_⟩
    · show updL d1.W x _ z = _; unfold updL; rw [if_neg e, e1]
    · show updV d1.WV x _ z = _; unfold updV; rw [if_neg e, e2]
theorem HoldQ.below (h : HoldQ w0 w w1 c R A pos out d v) (hb : Below w1.heap.size w1 w') : HoldQ w0 w w' c R A pos out d v := by
  obtain ⟨p, d', h1, h2, h3, h4, h5⟩ := h
  exact ⟨p, d', h1.below hb, h2.below hb, h3, h4, h5⟩
set_option maxHeartbeats 4000000 in
set_option maxRecDepth 100000 in
theorem hold_h (hI : GrI R) (h : St w0 w c R A pos out d) (hv : v < R.length) (hp : pos v = -3) :
    Calls Tryz.prog 60 #[.pointer (some ⟨c.B, 0, none⟩), .int .i64 (v : Int)] w fun e w' => e = .returned (.tuple #[]) ∧ HoldQ w0 w w' c R A pos out d v := by
  have hA : ((v : Nat) : Int) ∈ A := ((h.hi.lf v hv).1 (by omega)).1
  have hc := holder_c hI h hv hA
  have c0 := h.ob.h2
  have hlen := h.hi.push_len hv hp
  have hIh := hI.hi
  clear h hA
  go_enter Tryz.func60, Tryz.ntmps60
  go_wp2_with fail
  refine hc.mono ?_; clear hc; rintro e w1 ⟨rfl, d1, hS, hT, e1, e2, e3, e4⟩
  cases hq : hf R pos v with
  | none =>
    have c1 := hS.ob.h3
    have hpu := push_i ((v : Nat) : Int) hS.ob.pl (by rw [e1]; omega)
    have hfin := fun w' F' q t hF => St.push (w' := w') (F' := F') hI hS hT hv hp (hf_none hq) e2 e3 q t hF
    have HF := Lib.hid hfin
    clear hS hT hfin hq e1 e2 e3 e4
    simp only [Option.getD_none, Option.isSome_none]
    go_wp2_with fail
    refine hpu.mono ?_; clear hpu; rintro e w2 ⟨rfl, F', hq, ht, hF⟩
    have HQ := Lib.hid (HF.out _ _ hq ht hF)
    clear hq ht hF
    go_wp2_with fail
    exact bodyPost_ret (v := .tuple #[]) (by simp [results, Tryz.results60, go_sem]) rfl ⟨rfl, HQ.out⟩
  | some x0 =>
    obtain ⟨hx1, hx2⟩ := hf_some hq
    have hg := hI.nodes v x0 hx1
    obtain ⟨x, rfl⟩ : ∃ x : Nat, x0 = (x : Int) := ⟨x0.toNat, by unfold gnd at hg; omega⟩
    rw [Int.toNat_natCast] at hx2
    have hx : x < R.length := by unfold gnd at hg; omega
    simp only [Option.getD_some, Option.isSome_some]
    have b1 := hS.ob.h1
    obtain ⟨g1, z1⟩ := hS.ob.wr x hx
    have how := hS.ob.wo x hx
    obtain ⟨wa, wc, hWV⟩ := (ownsRow_slc how).form
    have hwl := hS.hi.wlen hx
    have hnb : c.B ≠ c.gw := fun r => by have := hS.ob.ds 0 2 c.B kf0 (by rw [r]; exact kf2); omega
    have hnb' : c.gw ≠ c.B := fun r => hnb r.symm
    have hB := (hS.ob.lo _ _ kf0).2
    have hgw := (hS.ob.lo _ _ kf2).2
    have hsz := hS.ob.wb.size
    have hnB : ¬ (d1.WV x).ownBlock = some c.B := fun q => by have := hS.ob.ds _ _ _ (kf8 hx q) kf0; omega
    have hnG : ¬ (d1.WV x).ownBlock = some c.gw := fun q => by have := hS.ob.ds _ _ _ (kf8 hx q) kf2; omega
    have hfin := fun w3 u t1 ho hl2 => St.wait (w3 := w3) (u := u) hI hS hT hv hp hx hx2 hx1 e2 e3 t1 ho hl2
    have hoo : OwnO (fun j => j = c.B ∨ j = c.gw) w1 w0.heap.size 3 1 (d1.WV x) (d1.W x).length ((d1.W x).map (Value.int .i64)) := ⟨how, fun b q => ⟨(World.ownsRow.lt how b q).2, fun r => r.elim (fun r => hnB (r ▸ q)) (fun r => hnG (r ▸ q))⟩⟩
    rw [hWV] at g1 hnB hnG hfin hoo
    generalize d1.W x = L at *
    have S4 : Hid (∀ wz, Turn (fun j => (Value.slice wa L.length wc).ownBlock = some j) w1 wz → wz.cell? ⟨c.B, 1, none⟩ = some (.slice (some ⟨c.gw, 0, none⟩) R.length R.length)) := by
      intro wz q
      exact (q.cell (a := ⟨c.B, 1, none⟩) hB hnB).trans b1
    have S5 : Hid (∀ wz u, Turn (fun j => (Value.slice wa L.length wc).ownBlock = some j) w1 wz → (wz.setCell ⟨c.gw, x, none⟩ u).cell? ⟨c.B, 1, none⟩ = some (.slice (some ⟨c.gw, 0, none⟩) R.length R.length)) := by
      intro wz u q
      exact (World.cell?_setCell_other _ _ _ _ (fun r => hnb' (congrArg Addr.block r))).trans (S4.out wz q)
    have x1 : (w1.alloc (.cells #[.int .i64 (v : Int)] 3)).cell? ⟨c.gw, x, none⟩ = some (.slice wa L.length wc) := ((below1 w1 _).cell (p := ⟨c.gw, x, none⟩) hgw).trans g1
    have i0 : (0 : Int) ≤ (x : Int) := by omega
    have i1 : (x : Int) < (R.length : Int) := by omega
    have HFN := Lib.hid hfin
    have HOO := Lib.hid hoo
    have HNG := Lib.hid hnG
    clear hfin hoo hS hT how hWV hq hg hnb hnB hnG e1 e2 e3 e4
    go_wp2_with fail
    refine wp_region_held_drew (S := (fun wz => wz.cell? ⟨c.B, 1, none⟩ = some (.slice (some ⟨c.gw, 0, none⟩) R.length R.length))) (by kernel_rfl) ((b1)) (fun hHeld => ?_)
    refine wpAnyH_take (i := 0) (v := ?_) rfl (by kernel_rfl) (by kernel_rfl) (by kernel_rfl) (fun _ _ _ h => h) (Or.inl ⟨by rfl, ?y0⟩) (by assumption) ?_
    case y0 => intro w hSw; (try dsimp only at hSw); go_simp; (try with_reducible rfl)
    (try simp only [Act.put, List.setIfInBounds_toArray, List.set_cons_zero, List.set_cons_succ, List.getElem_toArray, List.getElem_cons_zero, List.getElem_cons_succ])
    refine wpAnyH_take (i := 1) (v := ?_) rfl (by kernel_rfl) (by kernel_rfl) (by kernel_rfl) (fun _ _ _ h => h) (Or.inl ⟨by rfl, ?y1⟩) (by assumption) ?_
    case y1 => intro w hSw; (try dsimp only at hSw); go_simp; (try with_reducible rfl)
    (try simp only [Act.put, List.setIfInBounds_toArray, List.set_cons_zero, List.set_cons_succ, List.getElem_toArray, List.getElem_cons_zero, List.getElem_cons_succ])
    refine wpAnyH_take (i := 2) (v := ?_) rfl (by kernel_rfl) (by kernel_rfl) (by kernel_rfl) (fun _ _ _ h => h) (Or.inl ⟨by rfl, ?y2⟩) (by assumption) ?_
    case y2 => intro w hSw; (try dsimp only at hSw); go_simp; (try with_reducible rfl)
    (try simp only [Act.put, List.setIfInBounds_toArray, List.set_cons_zero, List.set_cons_succ, List.getElem_toArray, List.getElem_cons_zero, List.getElem_cons_succ])
    refine wpAnyH_take (i := 3) (v := ?_) rfl (by kernel_rfl) (by kernel_rfl) (by kernel_rfl) (fun _ _ _ h => h) (Or.inl ⟨by rfl, ?y3⟩) (by assumption) ?_
    case y3 => intro w hSw; (try dsimp only at hSw); go_simp; (try with_reducible rfl)
    (try simp only [Act.put, List.setIfInBounds_toArray, List.set_cons_zero, List.set_cons_succ, List.getElem_toArray, List.getElem_cons_zero, List.getElem_cons_succ])
    refine wpAnyH_take (i := 4) (v := ?_) rfl (by kernel_rfl) (by kernel_rfl) (by kernel_rfl) (fun _ _ _ h => h) (Or.inl ⟨by rfl, ?y4⟩) (by assumption) ?_
    case y4 => intro w hSw; (try dsimp only at hSw); go_simp; (try with_reducible rfl)
    (try simp only [Act.put, List.setIfInBounds_toArray, List.set_cons_zero, List.set_cons_succ, List.getElem_toArray, List.getElem_cons_zero, List.getElem_cons_succ])
    refine wpAnyH_take (i := 5) (v := ?_) rfl (by kernel_rfl) (by kernel_rfl) (by kernel_rfl) (fun _ _ _ h => h) (Or.inl ⟨by rfl, ?y5⟩) (by assumption) ?_
    case y5 => intro w hSw; (try dsimp only at hSw); go_simp; (try with_reducible rfl)
    (try simp only [Act.put, List.setIfInBounds_toArray, List.set_cons_zero, List.set_cons_succ, List.getElem_toArray, List.getElem_cons_zero, List.getElem_cons_succ])
    refine wpAnyH_take (i := 6) (v := ?_) rfl (by kernel_rfl) (by kernel_rfl) (by kernel_rfl) (fun _ _ _ h => h) (Or.inl ⟨by rfl, ?y6⟩) (by assumption) ?_
    case y6 => intro w hSw; (try dsimp only at hSw); go_simp; (try with_reducible rfl)
    (try simp only [Act.put, List.setIfInBounds_toArray, List.set_cons_zero, List.set_cons_succ, List.getElem_toArray, List.getElem_cons_zero, List.getElem_cons_succ])
    refine wpAnyH_take (i := 7) (v := ?_) rfl (by kernel_rfl) (by kernel_rfl) (by kernel_rfl) (fun _ _ _ h => h) (Or.inl ⟨by rfl, ?y7⟩) (by assumption) ?_
    case y7 => intro w hSw; (try dsimp only at hSw); go_simp; (try with_reducible rfl)
    (try simp only [Act.put, List.setIfInBounds_toArray, List.set_cons_zero, List.set_cons_succ, List.getElem_toArray, List.getElem_cons_zero, List.getElem_cons_succ])
    refine wpAnyH_take (i := 8) (v := ?_) rfl (by kernel_rfl) (by kernel_rfl) (by kernel_rfl) (fun _ _ _ h => h) (Or.inl ⟨by rfl, ?y8⟩) (by assumption) ?_
    case y8 => intro w hSw; (try dsimp only at hSw); go_simp; (try with_reducible rfl)
    (try simp only [Act.put, List.setIfInBounds_toArray, List.set_cons_zero, List.set_cons_succ, List.getElem_toArray, List.getElem_cons_zero, List.getElem_cons_succ])
    refine wpAnyH_take (i := 9) (v := ?_) rfl (by kernel_rfl) (by kernel_rfl) (by kernel_rfl) (fun _ _ _ h => h) (Or.inl ⟨by rfl, ?y9⟩) (by assumption) ?_
    case y9 => intro w hSw; (try dsimp only at hSw); go_simp; (try with_reducible rfl)
    (try simp only [Act.put, List.setIfInBounds_toArray, List.set_cons_zero, List.set_cons_succ, List.getElem_toArray, List.getElem_cons_zero, List.getElem_cons_succ])
    refine wpAnyH_take (i := 10) (v := ?_) rfl (by kernel_rfl) (by kernel_rfl) (by kernel_rfl) (fun _ _ _ h => h) (Or.inl ⟨by rfl, ?y10⟩) (by assumption) ?_
    case y10 => intro w hSw; (try dsimp only at hSw); go_simp; (try with_reducible rfl)
    (try simp only [Act.put, List.setIfInBounds_toArray, List.set_cons_zero, List.set_cons_succ, List.getElem_toArray, List.getElem_cons_zero, List.getElem_cons_succ])
    refine wpAnyH_take (i := 12) (v := ?_) rfl (by kernel_rfl) (by kernel_rfl) (by kernel_rfl) (fun _ _ _ h => h) (Or.inl ⟨by rfl, ?y12⟩) (by assumption) ?_
    case y12 => intro w hSw; (try dsimp only at hSw); go_simp; (try with_reducible rfl)
    (try simp only [Act.put, List.setIfInBounds_toArray, List.set_cons_zero, List.set_cons_succ, List.getElem_toArray, List.getElem_cons_zero, List.getElem_cons_succ])
    refine wpAnyH_ready (rs := [11, 13]) (by kernel_rfl) (by simp) ?_
    refine AllReadyH.cons rfl (fun KK hKK => ?_) (AllReadyH.cons rfl (fun KK hKK => ?_) AllReadyH.nil)
    · go_simp
      refine hKK.out _ _ ?_ (fun hHeld => ?_)
      · first | exact b1 | exact S4.out _ (Turn.of_below ((below1 w1 _).drew))
      clear hKK KK
      (try simp only [Act.put, List.setIfInBounds_toArray, List.set_cons_zero, List.set_cons_succ, List.getElem_toArray, List.getElem_cons_zero, List.getElem_cons_succ])
      refine wpAnyH_ready (rs := [13]) (by kernel_rfl) (by simp) ?_
      refine AllReadyH.cons rfl (fun KK hKK => ?_) AllReadyH.nil
      go_simp
      refine hKK.out _ _ (S4.out _ (Turn.of_below ((below1 w1 _).drew))) (fun hHeld => ?_)
      clear hKK KK
      (try simp only [Act.put, List.setIfInBounds_toArray, List.set_cons_zero, List.set_cons_succ, List.getElem_toArray, List.getElem_cons_zero, List.getElem_cons_succ])
      refine wpAnyH_ready (rs := [14]) (by kernel_rfl) (by simp) ?_
      refine AllReadyH.cons rfl (fun KK hKK => ?_) AllReadyH.nil
      refine step_push1 rfl (.tmp 34) (.tmp 36) 23 rfl (fun j => j = c.B ∨ j = c.gw) w0.heap.size 3 1 8 (.int .i64 0) Tryz.underlying23 int_info rfl (by decide) [.int .i64 (v : Int)] rfl (.slice wa L.length wc) L.length (L.map (Value.int .i64)) (by simp [Act.eval, Act.put]) (w := w1.drew) ⟨HOO.out.1.drew, HOO.out.2⟩ (by simp [Act.eval, Act.put]) (by intro u hu; simp at hu; subst hu; rfl) (by omega) (by decide) hsz (fun j q => q.elim (fun q => q ▸ hB) (fun q => q ▸ hgw)) ?_
      intro v3 w3 o3 t3 l3
      have t3' : Turn (fun j => (Value.slice wa L.length wc).ownBlock = some j) w1 w3 := ⟨t3.os, t3.tape, t3.output, t3.size, t3.block⟩
      have HP := Lib.hid (HFN.out w3 v3 t3' o3.1 l3)
      have hB3 : w3.heap[c.gw]? = w1.heap[c.gw]? := t3'.block c.gw hgw HNG.out
      have T3 := Lib.hid t3'
      have y1 : w3.cell? ⟨c.gw, x, none⟩ = some (.slice wa L.length wc) := (World.cell?_of_block hB3).trans g1
      have y2 : w3.frozen? ⟨c.gw, x, none⟩ = false := (World.frozen?_of_block hB3).trans z1
      obtain ⟨a3, c3, rfl⟩ := (ownsRow_slc o3.1).form
      clear hB3 o3 t3 l3 t3'
      refine hKK.out _ _ (S4.out _ T3.out) (fun hHeld => ?_)
      clear hKK KK
      (try simp only [Act.put, List.setIfInBounds_toArray, List.set_cons_zero, List.set_cons_succ, List.getElem_toArray, List.getElem_cons_zero, List.getElem_cons_succ])
      refine wpAnyH_take (i := 15) (v := ?_) rfl (by kernel_rfl) (by kernel_rfl) (by kernel_rfl) (fun _ _ _ h => h) (Or.inl ⟨by rfl, ?y15⟩) (by assumption) ?_
      case y15 => intro w hSw; (try dsimp only at hSw); go_simp; (try with_reducible rfl)
      (try simp only [Act.put, List.setIfInBounds_toArray, List.set_cons_zero, List.set_cons_succ, List.getElem_toArray, List.getElem_cons_zero, List.getElem_cons_succ])
      refine wpAnyH_ready (rs := [16]) (by kernel_rfl) (by simp) ?_
      refine AllReadyH.cons rfl (fun KK hKK => ?_) AllReadyH.nil
      go_simp
      refine hKK.out _ _ (S5.out _ _ T3.out) (fun hHeld => ?_)
      clear hKK KK
      (try simp only [Act.put, List.setIfInBounds_toArray, List.set_cons_zero, List.set_cons_succ, List.getElem_toArray, List.getElem_cons_zero, List.getElem_cons_succ])
      refine wpAnyH_done (by kernel_rfl) ?_ _
      have HQ := Lib.hid (HP.out.below (Below.refl _ _).drew)
      clear x1 y1 y2 g1 z1 b1
      go_wp2_with fail
      go_end0
      first | exact ⟨rfl, HP.out⟩ | exact ⟨rfl, HQ.out⟩
    · go_simp
      refine hKK.out _ _ (S4.out _ (Turn.of_below ((below1 w1 _).drew))) (fun hHeld => ?_)
      clear hKK KK
      (try simp only [Act.put, List.setIfInBounds_toArray, List.set_cons_zero, List.set_cons_succ, List.getElem_toArray, List.getElem_cons_zero, List.getElem_cons_succ])
      refine wpAnyH_ready (rs := [11]) (by kernel_rfl) (by simp) ?_
      refine AllReadyH.cons rfl (fun KK hKK => ?_) AllReadyH.nil
      go_simp
      refine hKK.out _ _ ?_ (fun hHeld => ?_)
      · first | exact b1 | exact S4.out _ (Turn.of_below ((below1 w1 _).drew))
      clear hKK KK
      (try simp only [Act.put, List.setIfInBounds_toArray, List.set_cons_zero, List.set_cons_succ, List.getElem_toArray, List.getElem_cons_zero, List.getElem_cons_succ])
      refine wpAnyH_ready (rs := [14]) (by kernel_rfl) (by simp) ?_
      refine AllReadyH.cons rfl (fun KK hKK => ?_) AllReadyH.nil
      refine step_push1 rfl (.tmp 34) (.tmp 36) 23 rfl (fun j => j = c.B ∨ j = c.gw) w0.heap.size 3 1 8 (.int .i64 0) Tryz.underlying23 int_info rfl (by decide) [.int .i64 (v : Int)] rfl (.slice wa L.length wc) L.length (L.map (Value.int .i64)) (by simp [Act.eval, Act.put]) (w := w1.drew) ⟨HOO.out.1.drew, HOO.out.2⟩ (by simp [Act.eval, Act.put]) (by intro u hu; simp at hu; subst hu; rfl) (by omega) (by decide) hsz (fun j q => q.elim (fun q => q ▸ hB) (fun q => q ▸ hgw)) ?_
      intro v3 w3 o3 t3 l3
      have t3' : Turn (fun j => (Value.slice wa L.length wc).ownBlock = some j) w1 w3 := ⟨t3.os, t3.tape, t3.output, t3.size, t3.block⟩
      have HP := Lib.hid (HFN.out w3 v3 t3' o3.1 l3)
      have hB3 : w3.heap[c.gw]? = w1.heap[c.gw]? := t3'.block c.gw hgw HNG.out
      have T3 := Lib.hid t3'
      have y1 : w3.cell? ⟨c.gw, x, none⟩ = some (.slice wa L.length wc) := (World.cell?_of_block hB3).trans g1
      have y2 : w3.frozen? ⟨c.gw, x, none⟩ = false := (World.frozen?_of_block hB3).trans z1
      obtain ⟨a3, c3, rfl⟩ := (ownsRow_slc o3.1).form
      clear hB3 o3 t3 l3 t3'
      refine hKK.out _ _ (S4.out _ T3.out) (fun hHeld => ?_)
      clear hKK KK
      (try simp only [Act.put, List.setIfInBounds_toArray, List.set_cons_zero, List.set_cons_succ, List.getElem_toArray, List.getElem_cons_zero, List.getElem_cons_succ])
      refine wpAnyH_take (i := 15) (v := ?_) rfl (by kernel_rfl) (by kernel_rfl) (by kernel_rfl) (fun _ _ _ h => h) (Or.inl ⟨by rfl, ?y15⟩) (by assumption) ?_
      case y15 => intro w hSw; (try dsimp only at hSw); go_simp; (try with_reducible rfl)
      (try simp only [Act.put, List.setIfInBounds_toArray, List.set_cons_zero, List.set_cons_succ, List.getElem_toArray, List.getElem_cons_zero, List.getElem_cons_succ])
      refine wpAnyH_ready (rs := [16]) (by kernel_rfl) (by simp) ?_
      refine AllReadyH.cons rfl (fun KK hKK => ?_) AllReadyH.nil
      go_simp
      refine hKK.out _ _ (S5.out _ _ T3.out) (fun hHeld => ?_)
      clear hKK KK
      (try simp only [Act.put, List.setIfInBounds_toArray, List.set_cons_zero, List.set_cons_succ, List.getElem_toArray, List.getElem_cons_zero, List.getElem_cons_succ])
      refine wpAnyH_done (by kernel_rfl) ?_ _
      have HQ := Lib.hid (HP.out.below (Below.refl _ _).drew)
      clear x1 y1 y2 g1 z1 b1
      go_wp2_with fail
      go_end0
      first | exact ⟨rfl, HP.out⟩ | exact ⟨rfl, HQ.out⟩
end
/- The landed tell: a node holds others back no more. The conditions: the walk's blocks; the node is in hand. -/
section
variable {c : Cf} {R : List (List Int)} {A : List Int} {w0 w w' wr : World} {d : Dt} {pos : Nat → Int} {out : List Int} {v : Nat}
/-- What tell leaves. -/
def TellQ (w0 w w' : World) (c : Cf) (R : List (List Int)) (A : List Int) (pos : Nat → Int) (out : List Int) (d : Dt) (v : Nat) : Prop :=
  ∃ pos' d', St w0 w' c R A pos' (out ++ [((v : Nat) : Int)]) d' ∧ Step c R A w w' d d' ∧ ∀ u, u < R.length → (pos' u = -3 ↔ pos u = -3 ∧ u ≠ v)
/-- At the head of tell's loop: the first k of those that waited are in hand no more. -/
def TellI (w0 w wr : World) (c : Cf) (R : List (List Int)) (A : List Int) (pos : Nat → Int) (out : List Int) (d : Dt) (v k : Nat) : Prop :=
  ∃ pos' d', St w0 wr c R A pos' (out ++ [((v : Nat) : Int)]) d' ∧ Step c R A w wr d d' ∧ (d'.W v = d.W v ∧ d'.WV v = d.WV v) ∧ pos' v = -1 ∧ ∀ u, u < R.length → (pos' u = -3 ↔ (pos u = -3 ∧ u ≠ v) ∨ ((u : Nat) : Int) ∈ (d.W v).drop k)
theorem TellI.enter (h : St w0 w c R A pos out d) (hv : v < R.length) (hp : pos v = -3) : TellI w0 w (w.setCell ⟨c.gl, v, none⟩ (.bool false)) c R A pos out d v 0 := by
  obtain ⟨o1, t⟩ := h.ob.gone hv
  refine ⟨tellP pos v, d, ⟨h.hi.tell hv hp, ?_⟩, ⟨t.mono fun j q => ⟨1, by rw [q]; exact kf1⟩, fun j q => Or.inl q⟩, ⟨rfl, rfl⟩, by unfold tellP; rw [if_pos rfl], fun u hu => ?_⟩
  · rw [lvP_tell]; exact o1
  · rw [List.drop_zero, h.hi.ww v hv (by omega), Int.toNat_natCast]
    unfold tellP
    constructor
    · intro q
      split at q
      · omega
      · rename_i e
        split at q
        · rename_i e2; exact Or.inr ⟨gnd_nat hu, e2⟩
        · exact Or.inl ⟨q, e⟩
    · rintro (⟨q1, q2⟩ | ⟨_, q⟩)
      · rw [if_neg q2, if_neg (by omega)]; exact q1
      · rw [if_neg (fun r => by rw [r, hp] at q; omega), if_pos q]
theorem TellI.leave (h : TellI w0 w wr c R A pos out d v (d.W v).length) : TellQ w0 w wr c R A pos out d v := by
  obtain ⟨p, d', h1, h2, _, _, h5⟩ := h
  refine ⟨p, d', h1, h2, fun u hu => ?_⟩
  rw [h5 u hu, List.drop_length]
  simp
theorem TellI.at {k : Nat} (h : TellI w0 w wr c R A pos out d v k) (h0 : St w0 w c R A pos out d) (hv : v < R.length) (hk : k < (d.W v).length) : ∃ x : Nat, (d.W v).getD k 0 = (x : Int) ∧ x < R.length := by
  have hg := h0.hi.wd v hv ((d.W v).getD k 0) (by rw [getD_lt _ _ hk]; exact List.getElem_mem hk)
  exact ⟨((d.W v).getD k 0).toNat, by unfold gnd at hg; omega, by unfold gnd at hg; omega⟩
theorem TellI.next {k x : Nat} {pos1 : Nat → Int} {d1 : Dt} (h0 : St w0 w c R A pos out d) (hv : v < R.length) (hp : pos v = -3) (hk : k < (d.W v).length) (hx : (d.W v).getD k 0 = (x : Int)) (hxl : x < R.length)
    (hT : Step c R A w wr d d1) (e1 : d1.W v = d.W v ∧ d1.WV v = d.WV v) (hg : pos1 v = -1) (hl : ∀ u, u < R.length → (pos1 u = -3 ↔ (pos u = -3 ∧ u ≠ v) ∨ ((u : Nat) : Int) ∈ (d.W v).drop k))
    (hq : HoldQ w0 wr w' c R A pos1 (out ++ [((v : Nat) : Int)]) d1 x) : TellI w0 w w' c R A pos out d v (k + 1) := by
  obtain ⟨pos2, d2, s1, s2, ⟨s3, s3'⟩, s4, s5⟩ := hq
  have hmem : ((x : Nat) : Int) ∈ d.W v := by rw [← hx, getD_lt _ _ hk]; exact List.getElem_mem hk
  have hpx : pos x = (v : Int) := by
    have := ((h0.hi.ww v hv (by omega) _).1 hmem).2
    rwa [Int.toNat_natCast] at this
  have hdk := drop_cons hk
  rw [hx] at hdk
  have hnx : ((x : Nat) : Int) ∉ (d.W v).drop (k + 1) := by
    have hn : ((d.W v).drop k).Nodup := (h0.hi.wn v hv).sublist (List.drop_sublist _ _)
    rw [hdk] at hn
    exact (List.nodup_cons.1 hn).1
  have hvx : v ≠ x := fun r => by subst r; omega
  obtain ⟨f1, f2⟩ := s5 v hv hg
  refine ⟨pos2, d2, s1, hT.trans s2, ⟨f1.trans e1.1, f2.trans e1.2⟩, by rw [s4 v hvx]; exact hg, fun u hu => ?_⟩
  by_cases e : u = x
  · subst e
    refine ⟨fun q => absurd q s3, fun q => ?_⟩
    rcases q with ⟨q, _⟩ | q
    · omega
    · exact absurd q hnx
  · rw [s4 u e, hl u hu, hdk, List.mem_cons]
    constructor
    · rintro (q | q | q)
      · exact Or.inl q
      · exact absurd (by omega) e
      · exact Or.inr q
    · rintro (q | q)
      · exact Or.inl q
      · exact Or.inr (Or.inr q)
set_option maxHeartbeats 4000000 in
set_option maxRecDepth 100000 in
theorem tell_h (hI : GrI R) (h : St w0 w c R A pos out d) (hv : v < R.length) (hp : pos v = -3) :
    Calls Tryz.prog 61 #[.pointer (some ⟨c.B, 0, none⟩), .int .i64 (v : Int)] w fun e w' => e = .returned (.tuple #[]) ∧ TellQ w0 w w' c R A pos out d v := by
  have c0 := h.ob.h0
  obtain ⟨l0, z0⟩ := h.ob.lr v hv
  have i0 : (0 : Int) ≤ (v : Int) := by omega
  have i1 : (v : Int) < (R.length : Int) := by omega
  have HE := Lib.hid (TellI.enter h hv hp)
  have HN := Lib.hid h
  obtain ⟨o1, _⟩ := h.ob.gone hv
  have c1 := o1.h1
  have c2 := (o1.wr v hv).1
  have hwl := h.hi.wlen hv
  have hIh := hI.hi
  obtain ⟨wa, wc, hWV⟩ := (ownsRow_slc (h.ob.wo v hv)).form
  rw [hWV] at c2
  have HWV := Lib.hid hWV
  clear h o1 hWV
  go_enter Tryz.func61, Tryz.ntmps61
  go_wp2_with fail
  obtain ⟨L, hL⟩ : ∃ L, L = d.W v := ⟨_, rfl⟩
  rw [← hL] at hwl HWV ⊢
  have HL := Lib.hid hL
  clear hL c0 l0 z0 c1 c2
  go_loopw [20] (fun i wr => ∃ k : Nat, k ≤ L.length ∧ i = .int .i64 (k : Int) ∧ TellI w0 w wr c R A pos out d v k) (fun i _ => L.length - (RowKit.intOf i).toNat)
  case atStart => exact ⟨0, Nat.zero_le _, rfl, HE.out⟩
  case round =>
    clear HE
    obtain ⟨k, hk, rfl, hTI⟩ := hrel
    by_cases hlt : k < L.length
    · obtain ⟨x, hx, hxl⟩ := hTI.at HN.out hv (by rw [← HL.out]; exact hlt)
      obtain ⟨pos1, d1, hS, hT, e1, hg, hl⟩ := hTI
      have hnext := fun w' => TellI.next (w' := w') HN.out hv hp (by rw [← HL.out]; exact hlt) hx hxl hT e1 hg hl
      rw [← HL.out] at hx
      have hpx : pos1 x = -3 := (hl x hxl).2 (Or.inr (by rw [← HL.out, drop_cons hlt, hx]; simp))
      have hho := hold_h hI hS hxl hpx
      have how := hS.ob.wo v hv
      rw [e1.1, e1.2, ← HL.out, HWV.out] at how
      obtain ⟨b, cap, eq⟩ : ∃ b cap, Value.slice wa L.length wc = .slice (some ⟨b, 0, none⟩) L.length cap := ownI_some how (by omega)
      injection eq with q1 _ q3
      subst q1 q3
      have hcx := World.ownsRow.cellAt how k (by omega)
      rw [show (L.map (Value.int .i64))[k]? = some (.int .i64 (x : Int)) by rw [← hx]; simp [List.getD, hlt]] at hcx
      have j0 : (0 : Int) ≤ (k : Int) := by omega
      have j1 : (k : Int) < (L.length : Int) := by omega
      have HNX := Lib.hid hnext
      have HLT := Lib.hid hlt
      clear hS hT e1 hg hl hnext hx hpx how hlt hk
      go_wp2_with fail
      refine hho.mono ?_; clear hho; rintro e w2 ⟨rfl, hq⟩
      have HQ := Lib.hid (HNX.out _ hq)
      clear hq
      go_wp2_with fail
      go_roundw
      · exact ⟨k + 1, HLT.out, by go_num, HQ.out⟩
      · have := HLT.out; simp [RowKit.intOf]; omega
    · obtain rfl : k = L.length := by omega
      have hd0 : decide ((L.length : Int) < (L.length : Int)) = false := decide_eq_false (by omega)
      have HF := Lib.hid (TellI.leave (by rw [← HL.out]; exact hTI))
      clear hTI hk hlt
      go_wp2_with fail
      go_end0
      exact ⟨rfl, HF.out⟩
end
end Go.Proofs.YtbaeanpdjdcheaaGreat
