/-
  A tree as a function of numbers: one and those above it, where two meet, the way up, those that are something. No Go function is walked here. No conditions.
-/
import Derived.Test.YteendpdidkekkaaWay
namespace Go.Proofs.Yteendpdidkekkaa
open Go.RowKit
set_option linter.unusedSimpArgs false
set_option linter.unusedVariables false


/-- One of n entities. -/
abbrev Ent (n x : Int) : Prop := 1 ≤ x ∧ x ≤ n
/-- Who holds whom: nobody comes back to itself. -/
structure FOk (n : Int) (f : Int → Int) : Prop where
  out : ∀ x, ¬ Ent n x → f x = 0
  rng : ∀ x, 0 ≤ f x ∧ (f x = 0 ∨ f x ≤ n)
  free : ∀ x, x ≠ 0 → ¬ Back f x
def lin (n : Int) (f : Int → Int) : Nat → Int → List Int
  | 0, _ => []
  | k + 1, x => if Ent n x then x :: lin n f k (f x) else []
theorem lin_way {n : Int} {f : Int → Int} : ∀ (k : Nat) (x : Int) (j : Nat), j < (lin n f k x).length → Ent n (way f j x)
  | 0, _, _, h => by cases h
  | k + 1, x, j, h => by
    unfold lin at h
    by_cases e : Ent n x
    · rw [if_pos e, List.length_cons] at h
      cases j with
      | zero => exact e
      | succ j =>
        have := lin_way (n := n) (f := f) k (f x) j (by omega)
        have e1 := way_add f 1 x j
        rw [Nat.add_comm] at e1
        rw [e1]; exact this
    · rw [if_neg e] at h; cases h
theorem lin_len {n : Int} {f : Int → Int} (h : FOk n f) (k : Nat) (x : Int) : (lin n f k x).length ≤ n.toNat := by
  rcases Nat.eq_zero_or_pos (lin n f k x).length with q | q
  · omega
  · have hw := lin_way (n := n) (f := f) k x
    have h0 : Ent n x := hw 0 q
    have := way_stop (f := f) (n := n) (x := x) (m := (lin n f k x).length - 1) h.free h.rng h0 (fun j hj => by have := hw j (by omega); unfold Ent at this; omega)
    omega
theorem lin_more {n : Int} {f : Int → Int} : ∀ (k : Nat) (x : Int), (lin n f k x).length < k → lin n f (k + 1) x = lin n f k x
  | 0, _, h => by cases h
  | k + 1, x, h => by
    unfold lin at h ⊢
    by_cases e : Ent n x
    · rw [if_pos e, List.length_cons] at h
      rw [if_pos e, if_pos e, lin_more k (f x) (by omega)]
    · rw [if_neg e, if_neg e]
/-- An entity and those above it. -/
def up (n : Int) (f : Int → Int) (x : Int) : List Int := lin n f (n.toNat + 1) x
theorem up_no {n : Int} {f : Int → Int} {x : Int} (h : ¬ Ent n x) : up n f x = [] := by unfold up lin; rw [if_neg h]
theorem up_yes {n : Int} {f : Int → Int} {x : Int} (hf : FOk n f) (h : Ent n x) : up n f x = x :: up n f (f x) := by
  have e : up n f x = x :: lin n f n.toNat (f x) := by unfold up; rw [lin, if_pos h]
  have h1 := lin_len hf (n.toNat + 1) x
  have h2 : (lin n f (n.toNat + 1) x).length = (lin n f n.toNat (f x)).length + 1 := by
    have := congrArg List.length e
    simpa [up] using this
  rw [e]
  unfold up
  rw [lin_more n.toNat (f x) (by omega)]
theorem ups_len {n : Int} {f : Int → Int} (hf : FOk n f) (x : Int) : (up n f x).length ≤ n.toNat := lin_len hf _ x
theorem up_ind {n : Int} {f : Int → Int} (hf : FOk n f) {P : Int → Prop} (no : ∀ x, ¬ Ent n x → P x) (yes : ∀ x, Ent n x → P (f x) → P x) : ∀ x, P x := by
  have hm : ∀ (m : Nat) (x : Int), (up n f x).length = m → P x := by
    intro m
    induction m with
    | zero =>
      intro x h
      by_cases e : Ent n x
      · rw [up_yes hf e] at h; cases h
      · exact no x e
    | succ m ih =>
      intro x h
      by_cases e : Ent n x
      · rw [up_yes hf e, List.length_cons] at h
        exact yes x e (ih (f x) (by omega))
      · exact no x e
  exact fun x => hm _ x rfl
theorem up_ent {n : Int} {f : Int → Int} (hf : FOk n f) {y : Int} : ∀ x, y ∈ up n f x → Ent n y :=
  up_ind hf (fun x e h => by rw [up_no e] at h; cases h) (fun x e ih h => by
    rw [up_yes hf e] at h
    rcases List.mem_cons.1 h with rfl | h
    · exact e
    · exact ih h)
theorem up_self {n : Int} {f : Int → Int} (hf : FOk n f) {x : Int} (h : Ent n x) : x ∈ up n f x := by rw [up_yes hf h]; simp
theorem up_suf {n : Int} {f : Int → Int} (hf : FOk n f) {y : Int} : ∀ x, y ∈ up n f x → ∃ A, up n f x = A ++ up n f y :=
  up_ind hf (fun x e h => by rw [up_no e] at h; cases h) (fun x e ih h => by
    have h' := h
    rw [up_yes hf e] at h
    rcases List.mem_cons.1 h with rfl | h
    · exact ⟨[], rfl⟩
    · obtain ⟨A, q⟩ := ih h
      exact ⟨x :: A, by rw [up_yes hf e, q]; rfl⟩)
theorem up_trans {n : Int} {f : Int → Int} (hf : FOk n f) {x y z : Int} (h : y ∈ up n f x) (k : z ∈ up n f y) : z ∈ up n f x := by
  obtain ⟨A, q⟩ := up_suf hf x h
  rw [q]; exact List.mem_append_right _ k
theorem up_lin {n : Int} {f : Int → Int} (hf : FOk n f) {y z : Int} : ∀ x, y ∈ up n f x → z ∈ up n f x → y ∈ up n f z ∨ z ∈ up n f y :=
  up_ind hf (fun x e h => by rw [up_no e] at h; cases h) (fun x e ih h k => by
    have h' := h; have k' := k
    rw [up_yes hf e] at h k
    rcases List.mem_cons.1 h with rfl | h
    · exact Or.inr k'
    · rcases List.mem_cons.1 k with rfl | k
      · exact Or.inl h'
      · exact ih h k)
theorem up_anti {n : Int} {f : Int → Int} (hf : FOk n f) {x y : Int} (h : y ∈ up n f x) (k : x ∈ up n f y) : x = y := by
  obtain ⟨A, q⟩ := up_suf hf x h
  obtain ⟨B, r⟩ := up_suf hf y k
  have e1 := congrArg List.length q
  have e2 := congrArg List.length r
  rw [List.length_append] at e1 e2
  have hA : A = [] := List.length_eq_zero_iff.1 (by omega)
  rw [hA, List.nil_append, up_yes hf (up_ent hf y k), up_yes hf (up_ent hf x h)] at q
  exact (List.cons.inj q).1
theorem up_new {n : Int} {f : Int → Int} (hf : FOk n f) {x : Int} (h : Ent n x) : ¬ x ∈ up n f (f x) := fun q => by
  obtain ⟨A, e⟩ := up_suf hf _ q
  have := congrArg List.length e
  rw [up_yes hf h, List.length_append, List.length_cons] at this
  omega
theorem up_nodup {n : Int} {f : Int → Int} (hf : FOk n f) : ∀ x, (up n f x).Nodup :=
  up_ind hf (fun x e => by rw [up_no e]; exact List.nodup_nil) (fun x e ih => by rw [up_yes hf e]; exact List.nodup_cons.2 ⟨up_new hf e, ih⟩)
theorem up_inR {n : Int} {f : Int → Int} (hf : FOk n f) (hn : n ≤ 1000) (x : Int) : ∀ z ∈ up n f x, InR z := fun z hz => by
  have := up_ent hf x hz; unfold Ent at this; unfold InR; omega
theorem mem_up_cons {n : Int} {f : Int → Int} (hf : FOk n f) {x z : Int} (h : Ent n x) : z ∈ up n f x ↔ z = x ∨ z ∈ up n f (f x) := by rw [up_yes hf h, List.mem_cons]
theorem f_ent {n : Int} {f : Int → Int} (hf : FOk n f) (x : Int) (h : f x ≠ 0) : Ent n (f x) := by
  have := hf.rng x; unfold Ent; omega
theorem f_from {n : Int} {f : Int → Int} (hf : FOk n f) (x : Int) (h : f x ≠ 0) : Ent n x := Decidable.not_not.1 fun q => h (hf.out x q)
theorem not_ent0 (n : Int) : ¬ Ent n 0 := fun q => by unfold Ent at q; omega

/-- Where two meet. -/
def IsM (n : Int) (f : Int → Int) (a b m : Int) : Prop := (m ∈ up n f a ∧ m ∈ up n f b ∧ ∀ t, t ∈ up n f a → t ∈ up n f b → t ∈ up n f m) ∨ (m = 0 ∧ ∀ t, t ∈ up n f a → ¬ t ∈ up n f b)
theorem isM_one {n : Int} {f : Int → Int} (hf : FOk n f) {a b m m' : Int} (h : IsM n f a b m) (h' : IsM n f a b m') : m = m' := by
  rcases h with ⟨h1, h2, h3⟩ | ⟨h1, h2⟩
  · rcases h' with ⟨k1, k2, k3⟩ | ⟨k1, k2⟩
    · exact up_anti hf (h3 m' k1 k2) (k3 m h1 h2)
    · exact absurd h2 (k2 m h1)
  · rcases h' with ⟨k1, k2, k3⟩ | ⟨k1, k2⟩
    · exact absurd k2 (h2 m' k1)
    · rw [h1, k1]
def mt (n : Int) (f : Int → Int) (a b : Int) : Int := ((up n f a).find? fun z => decide (z ∈ up n f b)).getD 0
theorem mt_is {n : Int} {f : Int → Int} (hf : FOk n f) (b : Int) : ∀ a, IsM n f a b (mt n f a b) :=
  up_ind hf (fun a e => by
    unfold mt; rw [up_no e]
    exact Or.inr ⟨rfl, fun t ht => by rw [up_no e] at ht; cases ht⟩) (fun a e ih => by
    by_cases hb : a ∈ up n f b
    · have : mt n f a b = a := by unfold mt; rw [up_yes hf e, List.find?_cons_of_pos (by simpa using hb)]; rfl
      rw [this]
      exact Or.inl ⟨up_self hf e, hb, fun t ht _ => ht⟩
    · have : mt n f a b = mt n f (f a) b := by unfold mt; rw [up_yes hf e, List.find?_cons_of_neg (by simpa using hb)]
      rw [this]
      rcases ih with ⟨h1, h2, h3⟩ | ⟨h1, h2⟩
      · refine Or.inl ⟨(mem_up_cons hf e).2 (Or.inr h1), h2, fun t ht hb' => ?_⟩
        rcases (mem_up_cons hf e).1 ht with rfl | ht
        · exact absurd hb' hb
        · exact h3 t ht hb'
      · refine Or.inr ⟨h1, fun t ht => ?_⟩
        rcases (mem_up_cons hf e).1 ht with rfl | ht
        · exact hb
        · exact h2 t ht)
theorem mt_eq {n : Int} {f : Int → Int} (hf : FOk n f) {a b m : Int} (h : IsM n f a b m) : mt n f a b = m := isM_one hf (mt_is hf b a) h
theorem isM_at {n : Int} {f : Int → Int} (hf : FOk n f) {b : Int} : ∀ (a : Int) (k : Nat), k < (up n f a).length → (up n f a).getD k 0 ∈ up n f b → (∀ j, j < k → ¬ (up n f a).getD j 0 ∈ up n f b) → IsM n f a b ((up n f a).getD k 0) :=
  up_ind hf (fun a e k h => by rw [up_no e] at h; cases h) (fun a e ih k h h1 h2 => by
    rw [up_yes hf e] at h h1 h2 ⊢
    cases k with
    | zero =>
      rw [List.getD_cons_zero] at h1 ⊢
      exact Or.inl ⟨up_self hf e, h1, fun t ht _ => ht⟩
    | succ k =>
      rw [List.getD_cons_succ] at h1 ⊢
      have hb := h2 0 (by omega)
      rw [List.getD_cons_zero] at hb
      rw [List.length_cons] at h
      rcases ih k (by omega) h1 (fun j hj => by have := h2 (j + 1) (by omega); rwa [List.getD_cons_succ] at this) with ⟨q1, q2, q3⟩ | ⟨q1, q2⟩
      · refine Or.inl ⟨(mem_up_cons hf e).2 (Or.inr q1), q2, fun t ht hb' => ?_⟩
        rcases (mem_up_cons hf e).1 ht with rfl | ht
        · exact absurd hb' hb
        · exact q3 t ht hb'
      · refine Or.inr ⟨q1, fun t ht => ?_⟩
        rcases (mem_up_cons hf e).1 ht with rfl | ht
        · exact hb
        · exact q2 t ht)
theorem isM_none {n : Int} {f : Int → Int} {a b : Int} (h : ∀ j, j < (up n f a).length → ¬ (up n f a).getD j 0 ∈ up n f b) : IsM n f a b 0 := Or.inr ⟨rfl, fun t ht => by
  obtain ⟨j, hj, rfl⟩ := List.getElem_of_mem ht
  have := h j hj
  rwa [getD_lt _ _ hj] at this⟩
theorem mt_zero {n : Int} {f : Int → Int} (hf : FOk n f) (a b : Int) : mt n f a b = 0 ↔ ∀ t, t ∈ up n f a → ¬ t ∈ up n f b := by
  rcases mt_is hf b a with ⟨h1, h2, h3⟩ | ⟨h1, h2⟩
  · constructor
    · intro q; rw [q] at h1; exact absurd (up_ent hf a h1) (not_ent0 n)
    · intro q; exact absurd h2 (q _ h1)
  · exact ⟨fun _ => h2, fun _ => h1⟩
theorem mt_swap {n : Int} {f : Int → Int} (hf : FOk n f) (a b : Int) : mt n f a b = mt n f b a := mt_eq hf (by
  rcases mt_is hf a b with ⟨h1, h2, h3⟩ | ⟨h1, h2⟩
  · exact Or.inl ⟨h2, h1, fun t k1 k2 => h3 t k2 k1⟩
  · exact Or.inr ⟨h1, fun t k1 k2 => h2 t k2 k1⟩)
theorem mt_self {n : Int} {f : Int → Int} (hf : FOk n f) {a : Int} (h : Ent n a) : mt n f a a = a := mt_eq hf (Or.inl ⟨up_self hf h, up_self hf h, fun _ ht _ => ht⟩)
/-- The lowest of the first k that have both. -/
def BM (n : Int) (f : Int → Int) (a b : Int) (k best : Int) : Prop := (best = 0 ∧ ∀ t, t ≤ k → t ∈ up n f a → ¬ t ∈ up n f b) ∨ (best ∈ up n f a ∧ best ∈ up n f b ∧ best ≤ k ∧ ∀ t, t ≤ k → t ∈ up n f a → t ∈ up n f b → t ∈ up n f best)
theorem bm_start {n : Int} {f : Int → Int} (hf : FOk n f) (a b : Int) : BM n f a b 0 0 := Or.inl ⟨rfl, fun t ht h => by have := up_ent hf a h; unfold Ent at this; omega⟩
theorem bm_yes {n : Int} {f : Int → Int} (hf : FOk n f) {a b k best : Int} (h : BM n f a b k best) (h1 : k + 1 ∈ up n f a) (h2 : k + 1 ∈ up n f b) (h3 : best = 0 ∨ best ∈ up n f (k + 1)) : BM n f a b (k + 1) (k + 1) := by
  refine Or.inr ⟨h1, h2, Int.le_refl _, fun t ht t1 t2 => ?_⟩
  by_cases e : t = k + 1
  · rw [e]; exact up_self hf (up_ent hf a h1)
  · rcases h with ⟨q1, q2⟩ | ⟨q1, q2, q3, q4⟩
    · exact absurd t2 (q2 t (by omega) t1)
    · rcases h3 with r | r
      · rw [r] at q1; exact absurd (up_ent hf a q1) (not_ent0 n)
      · exact up_trans hf r (q4 t (by omega) t1 t2)
theorem bm_no {n : Int} {f : Int → Int} (hf : FOk n f) {a b k best : Int} (h : BM n f a b k best) (h1 : ¬ (k + 1 ∈ up n f a ∧ k + 1 ∈ up n f b ∧ (best = 0 ∨ best ∈ up n f (k + 1)))) : BM n f a b (k + 1) best := by
  rcases h with ⟨q1, q2⟩ | ⟨q1, q2, q3, q4⟩
  · refine Or.inl ⟨q1, fun t ht t1 t2 => ?_⟩
    by_cases e : t = k + 1
    · rw [e] at t1 t2; exact h1 ⟨t1, t2, Or.inl q1⟩
    · exact q2 t (by omega) t1 t2
  · refine Or.inr ⟨q1, q2, by omega, fun t ht t1 t2 => ?_⟩
    by_cases e : t = k + 1
    · rw [e] at t1 t2 ⊢
      rcases up_lin hf a t1 q1 with r | r
      · exact r
      · exact absurd ⟨t1, t2, Or.inr r⟩ h1
    · exact q4 t (by omega) t1 t2
theorem bm_end {n : Int} {f : Int → Int} (hf : FOk n f) {a b k best : Int} (hk : n ≤ k) (h : BM n f a b k best) : best = mt n f a b := (mt_eq hf (by
  rcases h with ⟨q1, q2⟩ | ⟨q1, q2, q3, q4⟩
  · exact Or.inr ⟨q1, fun t ht => q2 t (by have := up_ent hf a ht; unfold Ent at this; omega) ht⟩
  · exact Or.inl ⟨q1, q2, fun t ht => q4 t (by have := up_ent hf a ht; unfold Ent at this; omega) ht⟩)).symm
/-- The way up to one that is above, without it. -/
def pth (n : Int) (f : Int → Int) (t x : Int) : List Int := (up n f x).take ((up n f x).idxOf t)
theorem pth_eq {n : Int} {f : Int → Int} {t x : Int} {A B : List Int} (h : up n f x = A ++ t :: B) (hA : ¬ t ∈ A) : pth n f t x = A := by
  unfold pth
  rw [h, List.idxOf_append, if_neg hA, List.idxOf_cons_self, Nat.zero_add]
  exact List.take_left' rfl
/-- Those of the entities that are something, rising. -/
def flt (k : Nat) (g : Int → Bool) : List Int := ((List.range k).map fun i : Nat => (i : Int) + 1).filter g
theorem flt_zero (g : Int → Bool) : flt 0 g = [] := rfl
theorem flt_succ (k : Nat) (g : Int → Bool) : flt (k + 1) g = flt k g ++ if g ((k : Int) + 1) = true then [(k : Int) + 1] else [] := by
  unfold flt
  rw [List.range_succ, List.map_append, List.filter_append]
  congr 1
  by_cases h : g ((k : Int) + 1) = true <;> simp [h]
theorem flt_yes {k : Nat} {g : Int → Bool} (h : g ((k : Int) + 1) = true) : flt (k + 1) g = flt k g ++ [(k : Int) + 1] := by rw [flt_succ, if_pos h]
theorem flt_no {k : Nat} {g : Int → Bool} (h : g ((k : Int) + 1) = false) : flt (k + 1) g = flt k g := by rw [flt_succ, if_neg (by rw [h]; decide), List.append_nil]
theorem mem_flt {k : Nat} {g : Int → Bool} {y : Int} : y ∈ flt k g ↔ Ent (k : Int) y ∧ g y = true := by
  unfold flt Ent
  rw [List.mem_filter, List.mem_map]
  constructor
  · rintro ⟨⟨i, hi, rfl⟩, h⟩
    have := List.mem_range.1 hi
    exact ⟨⟨by omega, by omega⟩, h⟩
  · rintro ⟨⟨h1, h2⟩, h⟩
    exact ⟨⟨(y - 1).toNat, List.mem_range.2 (by omega), by omega⟩, h⟩
theorem flt_len (k : Nat) (g : Int → Bool) : (flt k g).length ≤ k := by
  have := List.length_filter_le g ((List.range k).map fun i : Nat => (i : Int) + 1)
  simpa [flt] using this
theorem flt_in {k : Nat} (hk : k ≤ 1000) (g : Int → Bool) : ∀ z ∈ flt k g, InR z := fun z hz => by
  have := (mem_flt.1 hz).1; unfold Ent at this; unfold InR; omega
theorem flt_congr {k : Nat} {g h : Int → Bool} (e : ∀ x, Ent (k : Int) x → g x = h x) : flt k g = flt k h := by
  unfold flt
  refine List.filter_congr fun x hx => ?_
  obtain ⟨i, hi, rfl⟩ := List.mem_map.1 hx
  have := List.mem_range.1 hi
  exact e _ ⟨by omega, by omega⟩

end Go.Proofs.Yteendpdidkekkaa
