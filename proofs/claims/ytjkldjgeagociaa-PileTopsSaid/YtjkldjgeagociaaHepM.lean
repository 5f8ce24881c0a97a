/-
  A heap of things with their turns, in plain words: what is ahead, what rising and sinking keep, which comes first. No Go function is walked here. No conditions.
-/
import Derived.Test.YtjkldjgeagociaaPilU
namespace Go.Proofs.Ytjkldjgeagociaa
open Go.RowKit
set_option linter.unusedSimpArgs false
set_option linter.unusedVariables false

/-- A pair with its turn. -/
abbrev Ent := Int × Int × Int
def z3 : Ent := (0, 0, 0)
def cells3 (e : Ent) : List Value := [.int .i64 e.1, .int .i64 e.2.1, .int .i64 e.2.2]
def enc3 (e : Ent) : Value := .agg #[.int .i64 e.1, .int .i64 e.2.1, .int .i64 e.2.2]
/-- Which is ahead. -/
def ahd (e f : Ent) : Prop := e.1 < f.1 ∨ (e.1 = f.1 ∧ e.2.2 < f.2.2)
instance (e f : Ent) : Decidable (ahd e f) := by unfold ahd; infer_instance
theorem ahd_asym {e f : Ent} (h : ahd e f) : ¬ ahd f e := by unfold ahd at *; omega
theorem ahd_irr (e : Ent) : ¬ ahd e e := by unfold ahd; omega
/-- Not ahead, one behind the other. -/
theorem nahd_trans {e f g : Ent} (h : ¬ ahd e f) (k : ¬ ahd f g) : ¬ ahd e g := by unfold ahd at *; omega

/-- The entry at a place. -/
def at3 (H : List Ent) (i : Nat) : Ent := H.getD i z3
theorem at3_mem {H : List Ent} {i : Nat} (h : i < H.length) : at3 H i ∈ H := by
  unfold at3; rw [show H.getD i z3 = H[i] by simp [List.getD, h]]; exact List.getElem_mem h
theorem at3_get {H : List Ent} {i : Nat} (h : i < H.length) : at3 H i = H[i] := by unfold at3; simp [List.getD, h]
/-- Two entries changed for each other. -/
def swp (H : List Ent) (i j : Nat) : List Ent := (H.set i (at3 H j)).set j (at3 H i)
theorem swp_len (H : List Ent) (i j : Nat) : (swp H i j).length = H.length := by simp [swp]
theorem swp_at {H : List Ent} {i j : Nat} (hi : i < H.length) (hj : j < H.length) (k : Nat) : at3 (swp H i j) k = if k = j then at3 H i else if k = i then at3 H j else at3 H k := by
  unfold swp
  conv => lhs; unfold at3
  rw [List.getD_eq_getElem?_getD, List.getElem?_set, List.getElem?_set]
  by_cases h1 : k = j
  · subst h1; simp [hj]; rfl
  · rw [if_neg (Ne.symm h1), if_neg h1]
    by_cases h2 : k = i
    · subst h2; simp [hi]; rfl
    · rw [if_neg (Ne.symm h2), if_neg h2]; rfl
theorem swp_perm {H : List Ent} {i j : Nat} (hi : i < H.length) (hj : j < H.length) : (swp H i j).Perm H := by
  have h := List.set_set_perm hi hj
  unfold swp
  rw [at3_get hi, at3_get hj]
  exact h

/-- None is ahead of the one above it. -/
def Heap (H : List Ent) : Prop := ∀ i, 0 < i → i < H.length → ¬ ahd (at3 H i) (at3 H ((i - 1) / 2))
/-- .. but for the one at a. -/
def Rising (H : List Ent) (a : Nat) : Prop := (∀ i, 0 < i → i < H.length → i ≠ a → ¬ ahd (at3 H i) (at3 H ((i - 1) / 2))) ∧ (0 < a → ∀ i, 0 < i → i < H.length → (i - 1) / 2 = a → ¬ ahd (at3 H i) (at3 H ((a - 1) / 2)))
/-- .. but for those below a. -/
def Sinking (H : List Ent) (a : Nat) : Prop := (∀ i, 0 < i → i < H.length → (i - 1) / 2 ≠ a → ¬ ahd (at3 H i) (at3 H ((i - 1) / 2))) ∧ (0 < a → ∀ i, 0 < i → i < H.length → (i - 1) / 2 = a → ¬ ahd (at3 H i) (at3 H ((a - 1) / 2)))
theorem heap_nil : Heap [] := fun i _ h => by cases h
theorem rise_start {H : List Ent} (h : Heap H) (e : Ent) : Rising (H ++ [e]) H.length := by
  have hx : ∀ i, i < H.length → at3 (H ++ [e]) i = at3 H i := fun i hi => by unfold at3; simp [List.getD, hi, List.getElem?_append_left hi]
  refine ⟨fun i h0 hi hn => ?_, fun h0 i h1 hi hp => ?_⟩
  · have hl : i < H.length := by rw [List.length_append] at hi; simp at hi; omega
    rw [hx i hl, hx _ (by omega)]
    exact h i h0 hl
  · rw [List.length_append] at hi; simp at hi; omega
theorem rise_top {H : List Ent} (h : Rising H 0) : Heap H := fun i h0 hi => h.1 i h0 hi (by omega)
theorem rise_done {H : List Ent} {a : Nat} (h : Rising H a) (h2 : ¬ ahd (at3 H a) (at3 H ((a - 1) / 2))) : Heap H := fun i h0 hi => by
  by_cases q : i = a
  · subst q; exact h2
  · exact h.1 i h0 hi q
theorem rise_step {H : List Ent} {a : Nat} (h : Rising H a) (h0 : 0 < a) (ha : a < H.length) (h2 : ahd (at3 H a) (at3 H ((a - 1) / 2))) : Rising (swp H a ((a - 1) / 2)) ((a - 1) / 2) := by
  have hp : (a - 1) / 2 < a := by omega
  generalize hq : (a - 1) / 2 = p at *
  have hsw := fun k => swp_at (H := H) (i := a) (j := p) ha (by omega) k
  obtain ⟨r1, r2⟩ := h
  refine ⟨fun i hi0 hi hn => ?_, fun hp0 i hi0 hi hpi => ?_⟩
  · rw [swp_len] at hi
    rw [hsw i, hsw ((i - 1) / 2), if_neg hn]
    by_cases e1 : i = a
    · subst e1
      rw [if_pos rfl, hq, if_pos rfl]
      exact ahd_asym h2
    · rw [if_neg e1]
      by_cases e2 : (i - 1) / 2 = p
      · rw [if_pos e2]
        have := r1 i hi0 hi e1
        rw [e2] at this
        exact nahd_trans this (ahd_asym h2)
      · rw [if_neg e2]
        by_cases e3 : (i - 1) / 2 = a
        · rw [if_pos e3]
          have := r2 h0 i hi0 hi e3
          rwa [hq] at this
        · rw [if_neg e3]
          exact r1 i hi0 hi e1
  · rw [swp_len] at hi
    have e1 : i ≠ p := by omega
    rw [hsw i, hsw ((p - 1) / 2), if_neg e1, if_neg (show ¬ (p - 1) / 2 = p by omega), if_neg (show ¬ (p - 1) / 2 = a by omega)]
    have hpp := r1 p hp0 (by omega) (by omega)
    by_cases e2 : i = a
    · rw [if_pos e2]; exact hpp
    · rw [if_neg e2]
      have := r1 i hi0 hi e2
      rw [hpi] at this
      exact nahd_trans this hpp
theorem sink_done {H : List Ent} {a : Nat} (h : Sinking H a) (h2 : ∀ i, 0 < i → i < H.length → (i - 1) / 2 = a → ¬ ahd (at3 H i) (at3 H a)) : Heap H := fun i h0 hi => by
  by_cases q : (i - 1) / 2 = a
  · rw [q]; exact h2 i h0 hi q
  · exact h.1 i h0 hi q
theorem sink_step {H : List Ent} {a f : Nat} (h : Sinking H a) (hf0 : 0 < f) (hf : f < H.length) (hfa : (f - 1) / 2 = a) (h1 : ahd (at3 H f) (at3 H a)) (h2 : ∀ i, 0 < i → i < H.length → (i - 1) / 2 = a → ¬ ahd (at3 H i) (at3 H f)) : Sinking (swp H a f) f := by
  have hsw := fun k => swp_at (H := H) (i := a) (j := f) (by omega) hf k
  obtain ⟨r1, r2⟩ := h
  refine ⟨fun i hi0 hi hn => ?_, fun hp0 i hi0 hi hpi => ?_⟩
  · rw [swp_len] at hi
    rw [hsw i, hsw ((i - 1) / 2), if_neg hn]
    by_cases e1 : i = f
    · subst e1
      rw [if_pos rfl, if_pos hfa]
      exact ahd_asym h1
    · rw [if_neg e1]
      by_cases e2 : i = a
      · rw [if_pos e2, e2, if_neg (show ¬ (a - 1) / 2 = a by omega)]
        exact r2 (by omega) f hf0 hf hfa
      · rw [if_neg e2]
        by_cases e3 : (i - 1) / 2 = a
        · rw [if_pos e3]
          exact h2 i hi0 hi e3
        · rw [if_neg e3]
          exact r1 i hi0 hi e3
  · rw [swp_len] at hi
    rw [hsw i, hsw ((f - 1) / 2), if_neg (show ¬ i = f by omega), if_neg (show ¬ i = a by omega), if_neg (show ¬ (f - 1) / 2 = f by omega), if_pos hfa]
    have := r1 i hi0 hi (by omega)
    rw [hpi] at this
    exact this
/-- What is left, its last one at the top. -/
def tkn (H : List Ent) : List Ent := (H.set 0 (at3 H (H.length - 1))).take (H.length - 1)
theorem tkn_len {H : List Ent} : (tkn H).length = H.length - 1 := by simp [tkn, List.length_take]
theorem sink_start {H : List Ent} (h : Heap H) : Sinking (tkn H) 0 := by
  refine ⟨fun i h0 hi hn => ?_, fun h0 => absurd h0 (by omega)⟩
  rw [tkn_len] at hi
  have hx : ∀ j, 0 < j → j < H.length - 1 → at3 (tkn H) j = at3 H j := fun j hj0 hj => by
    unfold at3 tkn
    rw [List.getD_eq_getElem?_getD, List.getD_eq_getElem?_getD, List.getElem?_take, if_pos hj, List.getElem?_set, if_neg (by omega)]
  rw [hx i h0 hi, hx _ (by omega) (by omega)]
  exact h i h0 (by omega)
theorem tkn_perm {H : List Ent} (h : 0 < H.length) : (at3 H 0 :: tkn H).Perm H := by
  cases H with
  | nil => cases h
  | cons a t =>
    rcases List.eq_nil_or_concat t with rfl | ⟨m, z, rfl⟩
    · exact List.Perm.refl _
    · have e1 : at3 (a :: m.concat z) 0 = a := rfl
      have e2 : at3 (a :: m.concat z) ((a :: m.concat z).length - 1) = z := by
        unfold at3; simp [List.getD]
      have e3 : tkn (a :: m.concat z) = z :: m := by
        unfold tkn
        rw [e2]
        simp
      rw [e1, e3, List.concat_eq_append]
      exact List.Perm.cons a (List.perm_append_comm (l₁ := [z]) (l₂ := m))
/-- The top one is ahead of all. -/
theorem heap_top {H : List Ent} (h : Heap H) : ∀ i, i < H.length → ¬ ahd (at3 H i) (at3 H 0) := by
  intro i
  induction i using Nat.strongRecOn with
  | _ i ih =>
    intro hi
    rcases Nat.eq_zero_or_pos i with rfl | h0
    · exact ahd_irr _
    · exact nahd_trans (h i h0 hi) (ih _ (by omega) (by omega))

/-- The entries in the order of their turns: what they are, and that each turn is below p. -/
structure InTurn (K : List Ent) (L : List (Int × Int)) (p : Int) : Prop where
  things : K.map (fun e => (e.1, e.2.1)) = L
  rise : K.Pairwise (fun e f => e.2.2 < f.2.2)
  low : ∀ e ∈ K, e.2.2 < p
theorem InTurn.len {K : List Ent} {L : List (Int × Int)} {p : Int} (h : InTurn K L p) : K.length = L.length := by rw [← h.things]; simp
theorem InTurn.push {K : List Ent} {L : List (Int × Int)} {p : Int} (h : InTurn K L p) (x y : Int) : InTurn (K ++ [(x, y, p)]) (L ++ [(x, y)]) (p + 1) := by
  refine ⟨by rw [List.map_append, h.things]; rfl, ?_, ?_⟩
  · rw [List.pairwise_append]
    refine ⟨h.rise, List.pairwise_singleton _ _, fun a ha b hb => ?_⟩
    rw [List.mem_singleton] at hb
    subst hb
    exact h.low a ha
  · intro e he
    rcases List.mem_append.mp he with q | q
    · have := h.low e q; omega
    · rw [List.mem_singleton] at q; subst q; show p < p + 1; omega
theorem InTurn.get {K : List Ent} {L : List (Int × Int)} {p : Int} (h : InTurn K L p) {j : Nat} (hj : j < L.length) : L.getD j (0, 0) = ((at3 K j).1, (at3 K j).2.1) := by
  have hk : j < K.length := by rw [h.len]; exact hj
  rw [at3_get hk, ← h.things]
  simp [List.getD, hk]
/-- The top of the heap is the first one; what is left of it is what the rest holds. -/
theorem InTurn.pop {H K : List Ent} {L : List (Int × Int)} {p : Int} (h : InTurn K L p) (hp : K.Perm H) (hh : Heap H) (h0 : 0 < L.length) :
    peekv L = ((at3 H 0).1, (at3 H 0).2.1) ∧ ∃ K', InTurn K' (popv L) p ∧ K'.Perm (tkn H) := by
  have hHl : H.length = L.length := by rw [← hp.length_eq, h.len]
  have hlen := h.len
  have hb := lowi_bd h0
  have hlt : (lowi L).toNat < L.length := by omega
  have hpk : peekv L = L.getD (lowi L).toNat (0, 0) := by unfold peekv; rw [if_neg (by omega)]
  have hpo : popv L = L.take (lowi L).toNat ++ L.drop ((lowi L).toNat + 1) := by unfold popv; rw [if_neg (by omega)]
  have hlow : ∀ j, j < L.length → (j < (lowi L).toNat → (L.getD (lowi L).toNat (0, 0)).1 < (L.getD j (0, 0)).1) ∧ (L.getD (lowi L).toNat (0, 0)).1 ≤ (L.getD j (0, 0)).1 := fun j hj => lowAt_is L L.length h0 j hj
  generalize (lowi L).toNat = m at *
  have hkm : m < K.length := by omega
  obtain ⟨j, hj, ej⟩ : ∃ j, j < K.length ∧ K[j]! = at3 H 0 ∧ at3 K j = at3 H 0 := by
    have : at3 H 0 ∈ K := hp.mem_iff.mpr (at3_mem (by omega))
    obtain ⟨j, hj, e⟩ := List.getElem_of_mem this
    exact ⟨j, hj, by simp [hj, e], by rw [at3_get hj, e]⟩
  have ej := ej.2
  have htop : ¬ ahd (at3 K m) (at3 K j) := by
    have : at3 K m ∈ H := hp.mem_iff.mp (at3_mem hkm)
    obtain ⟨i, hi, e⟩ := List.getElem_of_mem this
    rw [ej, ← e, ← at3_get hi]
    exact heap_top hh i hi
  have hjm : j = m := by
    have l1 := hlow j (by omega)
    rw [h.get hlt, h.get (show j < L.length by omega)] at l1
    obtain ⟨l1, l2⟩ := l1
    simp only at l1 l2
    unfold ahd at htop
    rcases Nat.lt_trichotomy j m with q | q | q
    · have := l1 q; omega
    · exact q
    · have := List.pairwise_iff_getElem.mp h.rise m j hkm hj q
      rw [← at3_get hkm, ← at3_get hj] at this
      omega
  subst hjm
  refine ⟨by rw [hpk, h.get hlt, ej], K.take j ++ K.drop (j + 1), ⟨?_, ?_, ?_⟩, ?_⟩
  · rw [hpo, List.map_append, List.map_take, List.map_drop, h.things]
  · refine h.rise.sublist ?_
    conv => rhs; rw [← List.take_append_drop j K]
    exact List.Sublist.append (List.Sublist.refl _) (by rw [← List.drop_drop]; exact List.drop_sublist 1 _)
  · intro e he
    refine h.low e ?_
    rcases List.mem_append.mp he with q | q
    · exact List.mem_of_mem_take q
    · exact List.mem_of_mem_drop q
  · have hs : K = K.take j ++ at3 K j :: K.drop (j + 1) := by
      rw [at3_get hj, List.getElem_cons_drop, List.take_append_drop]
    have p1 : (at3 K j :: (K.take j ++ K.drop (j + 1))).Perm K := by
      conv => rhs; rw [hs]
      exact List.perm_middle.symm
    have p2 := p1.trans (hp.trans (tkn_perm (H := H) (by omega)).symm)
    rw [ej] at p2
    exact List.Perm.cons_inv p2

/-- The cells of a row of entries. -/
theorem flat3_len : ∀ H : List Ent, (H.flatMap cells3).length = H.length * 3
  | [] => rfl
  | e :: H => by rw [List.flatMap_cons, List.length_append, flat3_len H]; simp [cells3]; omega
theorem flat3_at : ∀ (H : List Ent) (k j : Nat), k < H.length → j < 3 → (H.flatMap cells3)[k * 3 + j]? = (cells3 (at3 H k))[j]?
  | [], k, j, h, _ => by cases h
  | e :: H, 0, j, _, hj => by
    rw [List.flatMap_cons, List.getElem?_append_left (by simp [cells3]; omega), Nat.zero_mul, Nat.zero_add]; rfl
  | e :: H, k + 1, j, h, hj => by
    rw [List.flatMap_cons, List.getElem?_append_right (by simp [cells3]; omega), show (k + 1) * 3 + j - (cells3 e).length = k * 3 + j by simp [cells3]; omega, flat3_at H k j (by simpa using h) hj]
    rfl
theorem flat3_set : ∀ (H : List Ent) (k : Nat) (e : Ent), k < H.length → (((H.flatMap cells3).set (k * 3) (.int .i64 e.1)).set (k * 3 + 1) (.int .i64 e.2.1)).set (k * 3 + 2) (.int .i64 e.2.2) = (H.set k e).flatMap cells3
  | [], k, e, h => by cases h
  | f :: H, 0, e, _ => by simp [cells3]
  | f :: H, k + 1, e, h => by
    have := flat3_set H k e (by simpa using h)
    rw [List.set_cons_succ, List.flatMap_cons, List.flatMap_cons, ← this, show (k + 1) * 3 = k * 3 + 3 by omega]
    simp [cells3]
theorem flat3_take : ∀ (H : List Ent) (k : Nat), (H.flatMap cells3).take (k * 3) = (H.take k).flatMap cells3
  | [], k => by simp
  | e :: H, 0 => by simp
  | e :: H, k + 1 => by
    rw [List.take_succ_cons, List.flatMap_cons, List.flatMap_cons, ← flat3_take H k, show (k + 1) * 3 = k * 3 + 3 by omega]
    simp [cells3]
end Go.Proofs.Ytjkldjgeagociaa
