/-
  Rows of accounts in words: whose Parent one is, the own ones, what is wrong with one, what may be, what is added and moved. No Go function is walked here. No conditions.
-/
import Derived.Test.YteendpdidkekkaaAccR
import Derived.Test.YteendpdidkekkaaAccM
namespace Go.Proofs.Yteendpdidkekkaa
open Go.RowKit
set_option linter.unusedSimpArgs false
set_option linter.unusedVariables false

/-- The one above an account. -/
def pa (L : List AcT) (x : Int) : Int := if Ent (L.length : Int) x then (L.getD (x - 1).toNat zA).1 else 0
theorem pa_po (L : List AcT) : PO L.length (pa L) := fun x h => if_neg h
theorem pa_at {L : List AcT} {k : Nat} (h : k < L.length) : pa L ((k : Int) + 1) = (L.getD k zA).1 := by
  unfold pa
  rw [if_pos ⟨by omega, by omega⟩, show ((k : Int) + 1 - 1).toNat = k by omega]
def ownL : List AcT := [(0, 1, true, false), (0, 1, false, false), (0, 1, false, false)]
/-- What is wrong with an account by itself. -/
def tsA (s : AcT) (n : Int) : Nat → Bool
  | 0 => decide (s.1 < 0 ∨ n < s.1)
  | 1 => decide (1 ≤ s.1 ∧ s.1 ≤ 3)
  | _ => decide (s.2.1 < 1 ∨ 3 < s.2.1 ∨ (s.2.2.1 = true ∧ s.2.2.2 = true))
def wrA (s : AcT) (n : Int) : Int := if tsA s n 0 = true then 21 else if tsA s n 1 = true then 28 else if tsA s n 2 = true then 25 else 0
theorem wrA_in (s : AcT) (n : Int) : 0 ≤ wrA s n ∧ wrA s n ≤ 28 := by unfold wrA; split <;> (try split) <;> (try split) <;> omega
theorem wrA_zero {s : AcT} {n : Int} (h : wrA s n = 0) : tsA s n 0 = false ∧ tsA s n 1 = false ∧ tsA s n 2 = false := by
  unfold wrA at h
  split at h
  · omega
  · split at h
    · omega
    · split at h
      · omega
      · rename_i h1 h2 h3
        exact ⟨by simpa using h1, by simpa using h2, by simpa using h3⟩
theorem wrA_of {s : AcT} {n : Int} (h0 : tsA s n 0 = false) (h1 : tsA s n 1 = false) (h2 : tsA s n 2 = false) : wrA s n = 0 := by unfold wrA; rw [h0, h1, h2]; rfl
theorem ts0_no {s : AcT} {n : Int} : tsA s n 0 = false ↔ ¬ (s.1 < 0 ∨ n < s.1) := decide_eq_false_iff_not
theorem ts1_no {s : AcT} {n : Int} : tsA s n 1 = false ↔ ¬ (1 ≤ s.1 ∧ s.1 ≤ 3) := decide_eq_false_iff_not
/-- The first place of so many. -/
def fI (m : Nat) (g : Nat → Bool) : Nat := (List.range m).findIdx g
theorem fI_le (m : Nat) (g : Nat → Bool) : fI m g ≤ m := by have := List.findIdx_le_length (p := g) (xs := List.range m); simpa [fI] using this
theorem fI_at {m : Nat} {g : Nat → Bool} {k : Nat} (hk : k < m) (h : ∀ j, j < k → g j = false) (h2 : g k = true) : fI m g = k := by
  unfold fI
  rw [List.findIdx_eq (by simpa using hk)]
  exact ⟨by simpa using h2, fun j hj => by simpa using h j hj⟩
theorem fI_all {m : Nat} {g : Nat → Bool} (h : ∀ j, j < m → g j = false) : fI m g = m := by
  have e : (List.range m).findIdx g = (List.range m).length := List.findIdx_eq_length.2 fun x hx => h x (List.mem_range.1 hx)
  unfold fI
  rw [e, List.length_range]
theorem fI_no {m : Nat} {g : Nat → Bool} {j : Nat} (h : j < fI m g) : g j = false := by
  have hl := fI_le m g
  unfold fI at h hl
  have := List.not_of_lt_findIdx h
  simpa using this
theorem fI_yes {m : Nat} {g : Nat → Bool} (h : fI m g < m) : g (fI m g) = true := by
  have h' : (List.range m).findIdx g < (List.range m).length := by rw [List.length_range]; exact h
  have e := List.findIdx_getElem (p := g) (w := h')
  rw [List.getElem_range] at e
  exact e
def bgO (L : List AcT) : Bool := decide (3 ≤ L.length) && decide (L.take 3 = ownL)
def bad1 (L : List AcT) (j : Nat) : Bool := decide (wrA (L.getD j zA) (L.length : Int) ≠ 0)
def bad2 (L : List AcT) (j : Nat) : Bool := rnd L.length (pa L) ((j : Int) + 1)
def fb1 (L : List AcT) : Nat := fI L.length (bad1 L)
def fb2 (L : List AcT) : Nat := fI L.length (bad2 L)
def ckV (L : List AcT) : Int := if 60 < L.length then 0 else if bgO L = false then 0 else if fb1 L < L.length then (fb1 L : Int) else (fb2 L : Int)
def ckE (L : List AcT) : Int := if 60 < L.length then 3 else if bgO L = false then 28 else if fb1 L < L.length then wrA (L.getD (fb1 L) zA) (L.length : Int) else if fb2 L < L.length then 26 else 0
theorem ckE_in (L : List AcT) : 0 ≤ ckE L ∧ ckE L ≤ 28 := by
  unfold ckE
  have := wrA_in (L.getD (fb1 L) zA) (L.length : Int)
  split <;> (try split) <;> (try split) <;> (try split) <;> omega
structure OkL (L : List AcT) : Prop where
  few : L.length ≤ 60
  own : bgO L = true
  one : ∀ j, j < L.length → wrA (L.getD j zA) (L.length : Int) = 0
  cir : ∀ j, j < L.length → rnd L.length (pa L) ((j : Int) + 1) = false
theorem ck_ok {L : List AcT} (h : ckE L = 0) : OkL L ∧ ckV L = (L.length : Int) := by
  unfold ckE at h
  by_cases h1 : 60 < L.length
  · rw [if_pos h1] at h; omega
  · rw [if_neg h1] at h
    cases h2 : bgO L with
    | false => rw [if_pos h2] at h; omega
    | true =>
      rw [if_neg (by rw [h2]; decide)] at h
      by_cases h3 : fb1 L < L.length
      · rw [if_pos h3] at h
        have := fI_yes (m := L.length) (g := bad1 L) h3
        unfold bad1 at this
        rw [decide_eq_true_eq] at this
        exact absurd h this
      · rw [if_neg h3] at h
        by_cases h4 : fb2 L < L.length
        · rw [if_pos h4] at h; omega
        · have l1 := fI_le L.length (bad1 L)
          have l2 := fI_le L.length (bad2 L)
          unfold fb1 at h3; unfold fb2 at h4
          refine ⟨⟨by omega, h2, fun j hj => ?_, fun j hj => ?_⟩, ?_⟩
          · have := fI_no (m := L.length) (g := bad1 L) (j := j) (by omega)
            unfold bad1 at this
            simpa using this
          · exact fI_no (m := L.length) (g := bad2 L) (j := j) (by omega)
          · unfold ckV fb1 fb2
            rw [if_neg h1, if_neg (by rw [h2]; decide), if_neg h3]
            omega
theorem ck_of {L : List AcT} (h : OkL L) : ckE L = 0 ∧ ckV L = (L.length : Int) := by
  have e1 : fb1 L = L.length := fI_all fun j hj => by unfold bad1; rw [h.one j hj]; rfl
  have e2 : fb2 L = L.length := fI_all fun j hj => h.cir j hj
  have h1 := h.few
  unfold ckE ckV
  rw [e1, e2, if_neg (by omega), if_neg (by rw [h.own]; decide), if_neg (by omega), if_neg (by omega), if_neg (by omega), if_neg (by rw [h.own]; decide), if_neg (by omega)]
  exact ⟨rfl, rfl⟩
theorem OkL.par {L : List AcT} (h : OkL L) {x : Int} (hx : Ent (L.length : Int) x) : 0 ≤ pa L x ∧ pa L x ≤ L.length ∧ ¬ (1 ≤ pa L x ∧ pa L x ≤ 3) := by
  obtain ⟨k, rfl⟩ : ∃ k : Nat, x = (k : Int) + 1 := ⟨(x - 1).toNat, by unfold Ent at hx; omega⟩
  have hk : k < L.length := by unfold Ent at hx; omega
  obtain ⟨h0, h1, _⟩ := wrA_zero (h.one k hk)
  rw [pa_at hk]
  rw [ts0_no] at h0
  rw [ts1_no] at h1
  omega
theorem OkL.fok {L : List AcT} (h : OkL L) : FOk (L.length : Int) (pa L) :=
  fok_of (pa_po L) (fun x hx => by have := h.par hx; omega) fun x hx => by
    obtain ⟨k, rfl⟩ : ∃ k : Nat, x = (k : Int) + 1 := ⟨(x - 1).toNat, by unfold Ent at hx; omega⟩
    exact h.cir k (by unfold Ent at hx; omega)
def adE (L : List AcT) (s : AcT) : Int := if 60 ≤ L.length then 3 else wrA s (L.length : Int)
def adL (L : List AcT) (s : AcT) : List AcT := if adE L s = 0 then L ++ [s] else []
def mvE (L : List AcT) (a p : Int) : Int := if ¬ Ent (L.length : Int) a ∨ (p ≠ 0 ∧ ¬ Ent (L.length : Int) p) then 21 else if (1 ≤ a ∧ a ≤ 3) ∨ (1 ≤ p ∧ p ≤ 3) then 28 else if p = a ∨ a ∈ ups L.length (pa L) p then 26 else 0
def setP (L : List AcT) (k : Nat) (p : Int) : List AcT := L.set k (p, (L.getD k zA).2)
def mvL (L : List AcT) (a p : Int) : List AcT := if mvE L a p = 0 then setP L (a - 1).toNat p else []
theorem adE_in (L : List AcT) (s : AcT) : 0 ≤ adE L s ∧ adE L s ≤ 28 := by unfold adE; have := wrA_in s (L.length : Int); split <;> omega
theorem mvE_in (L : List AcT) (a p : Int) : 0 ≤ mvE L a p ∧ mvE L a p ≤ 28 := by unfold mvE; split <;> (try split) <;> (try split) <;> omega
/-- With one more. -/
theorem pa_snoc {L : List AcT} {s : AcT} {x : Int} (hx : Ent (L.length : Int) x) : pa (L ++ [s]) x = pa L x := by
  obtain ⟨k, rfl⟩ : ∃ k : Nat, x = (k : Int) + 1 := ⟨(x - 1).toNat, by unfold Ent at hx; omega⟩
  have hk : k < L.length := by unfold Ent at hx; omega
  rw [pa_at hk, pa_at (by rw [List.length_append]; omega)]
  simp [List.getD, List.getElem?_append_left hk]
theorem pa_last (L : List AcT) (s : AcT) : pa (L ++ [s]) ((L.length : Int) + 1) = s.1 := by
  rw [pa_at (by simp)]
  simp [List.getD]
theorem stay_add {L : List AcT} {s : AcT} (h : OkL L) (hs : adE L s = 0) : OkL (L ++ [s]) := by
  unfold adE at hs
  have h60 : ¬ 60 ≤ L.length := fun q => by rw [if_pos q] at hs; omega
  rw [if_neg h60] at hs
  have hl : (L ++ [s]).length = L.length + 1 := by simp
  have hw : ∀ t : AcT, wrA t (L.length : Int) = 0 → wrA t ((L ++ [s]).length : Int) = 0 := fun t ht => by
    obtain ⟨h0, h1, h2⟩ := wrA_zero ht
    refine wrA_of ?_ h1 h2
    rw [ts0_no] at h0 ⊢
    rw [hl]; push_cast; omega
  obtain ⟨s0, _, _⟩ := wrA_zero hs
  rw [ts0_no] at s0
  refine ⟨by rw [hl]; omega, ?_, fun j hj => ?_, fun j hj => ?_⟩
  · have := h.own
    unfold bgO at this ⊢
    rw [Bool.and_eq_true, decide_eq_true_eq, decide_eq_true_eq] at this ⊢
    refine ⟨by rw [hl]; omega, ?_⟩
    rw [List.take_append_of_le_length this.1]; exact this.2
  · rw [hl] at hj
    rcases Nat.lt_or_ge j L.length with q | q
    · have e : (L ++ [s]).getD j zA = L.getD j zA := by simp [List.getD, List.getElem?_append_left q]
      rw [e]; exact hw _ (h.one j q)
    · have e : (L ++ [s]).getD j zA = s := by rw [show j = L.length by omega]; simp [List.getD]
      rw [e]; exact hw _ hs
  · rw [hl] at hj
    have hj' : Ent ((L ++ [s]).length : Int) ((j : Int) + 1) := ⟨by omega, by rw [hl]; push_cast; omega⟩
    cases hr : rnd (L ++ [s]).length (pa (L ++ [s])) ((j : Int) + 1) with
    | false => rfl
    | true =>
      exfalso
      have hb := (rnd_back (pa_po _) hj').1 hr
      -- from one of the old ones the steps stay among them, or end
      have hold : ∀ y, Ent (L.length : Int) y → ∀ i, way (pa (L ++ [s])) i y = way (pa L) i y ∧ (Ent (L.length : Int) (way (pa L) i y) ∨ way (pa L) i y = 0) := by
        intro y hy i
        induction i with
        | zero => exact ⟨rfl, Or.inl hy⟩
        | succ i ih =>
          obtain ⟨e, r⟩ := ih
          show pa (L ++ [s]) (way (pa (L ++ [s])) i y) = pa L (way (pa L) i y) ∧ (Ent (L.length : Int) (pa L (way (pa L) i y)) ∨ pa L (way (pa L) i y) = 0)
          rw [e]
          rcases r with r | r
          · refine ⟨pa_snoc r, ?_⟩
            have := h.par r
            unfold Ent; omega
          · rw [r, pa_po L 0 (not_ent_zero _), pa_po (L ++ [s]) 0 (not_ent_zero _)]
            exact ⟨rfl, Or.inr rfl⟩
      obtain ⟨k, k1, k2⟩ := hb
      rcases Nat.lt_or_ge j L.length with q | q
      · have hy : Ent (L.length : Int) ((j : Int) + 1) := ⟨by omega, by omega⟩
        rw [(hold _ hy k).1] at k2
        exact h.fok.free _ (by omega) ⟨k, k1, k2⟩
      · obtain rfl : j = L.length := by omega
        obtain ⟨i, rfl⟩ : ∃ i, k = i + 1 := ⟨k - 1, by omega⟩
        rw [way_one, pa_last] at k2
        by_cases hs1 : Ent (L.length : Int) s.1
        · have := hold _ hs1 i
          rw [this.1] at k2
          rcases this.2 with r | r
          · rw [k2] at r; unfold Ent at r; omega
          · rw [k2] at r; omega
        · have hz : s.1 = 0 := by unfold Ent at hs1; omega
          rw [hz] at k2
          have : way (pa (L ++ [s])) i 0 = 0 := way_zero (pa_po _ 0 (not_ent_zero _)) i
          omega
theorem setP_len (L : List AcT) (k : Nat) (p : Int) : (setP L k p).length = L.length := by unfold setP; rw [List.length_set]
theorem setP_at {L : List AcT} {k j : Nat} {p : Int} (hk : k < L.length) : (setP L k p).getD j zA = if j = k then (p, (L.getD k zA).2) else L.getD j zA := by
  unfold setP
  by_cases e : j = k
  · subst e; rw [if_pos rfl]; simp [List.getD, List.getElem?_set_self hk]
  · rw [if_neg e]; simp [List.getD, List.getElem?_set_ne (fun q => e q.symm)]
theorem pa_set {L : List AcT} {a p x : Int} (ha : Ent (L.length : Int) a) : pa (setP L (a - 1).toNat p) x = if x = a then p else pa L x := by
  by_cases hx : Ent (L.length : Int) x
  · obtain ⟨k, rfl⟩ : ∃ k : Nat, x = (k : Int) + 1 := ⟨(x - 1).toNat, by unfold Ent at hx; omega⟩
    have hk : k < L.length := by unfold Ent at hx; omega
    rw [pa_at (by rw [setP_len]; exact hk), setP_at (by unfold Ent at ha; omega)]
    by_cases e : (k : Int) + 1 = a
    · rw [if_pos e, if_pos (by omega)]
    · rw [if_neg e, if_neg (by unfold Ent at ha; omega), pa_at hk]
  · rw [pa_po _ x (by rw [setP_len]; exact hx), pa_po L x hx, if_neg (fun q : x = a => hx (q ▸ ha))]
theorem stay_move {L : List AcT} {a p : Int} (h : OkL L) (hm : mvE L a p = 0) : OkL (setP L (a - 1).toNat p) := by
  unfold mvE at hm
  by_cases m1 : ¬ Ent (L.length : Int) a ∨ (p ≠ 0 ∧ ¬ Ent (L.length : Int) p)
  · rw [if_pos m1] at hm; omega
  rw [if_neg m1] at hm
  by_cases m2 : (1 ≤ a ∧ a ≤ 3) ∨ (1 ≤ p ∧ p ≤ 3)
  · rw [if_pos m2] at hm; omega
  rw [if_neg m2] at hm
  by_cases m3 : p = a ∨ a ∈ ups L.length (pa L) p
  · rw [if_pos m3] at hm; omega
  clear hm
  have ha : Ent (L.length : Int) a := Decidable.not_not.1 fun q => m1 (Or.inl q)
  have hp : p = 0 ∨ Ent (L.length : Int) p := by
    by_cases e : p = 0
    · exact Or.inl e
    · exact Or.inr (Decidable.not_not.1 fun q => m1 (Or.inr ⟨e, q⟩))
  have ha3 : 4 ≤ a := by unfold Ent at ha; omega
  have hk : (a - 1).toNat < L.length := by unfold Ent at ha; omega
  have hf := h.fok
  have hpa : ¬ ∃ k, way (pa L) k p = a := by
    rcases hp with rfl | hp
    · rintro ⟨k, e⟩
      rw [way_zero (pa_po L 0 (not_ent_zero _))] at e
      omega
    · intro q
      exact m3 (Or.inr ((mem_ups (pa_po L) hp).2 ⟨fun r => m3 (Or.inl r.symm), ha, q⟩))
  refine ⟨by rw [setP_len]; exact h.few, ?_, fun j hj => ?_, fun j hj => ?_⟩
  · have := h.own
    unfold bgO at this ⊢
    rw [Bool.and_eq_true, decide_eq_true_eq, decide_eq_true_eq] at this ⊢
    refine ⟨by rw [setP_len]; exact this.1, ?_⟩
    unfold setP
    rw [List.take_set_of_le (by omega)]; exact this.2
  · rw [setP_len] at hj ⊢
    rw [setP_at hk]
    by_cases e : j = (a - 1).toNat
    · rw [if_pos e]
      obtain ⟨_, _, h2⟩ := wrA_zero (h.one _ hk)
      refine wrA_of ?_ ?_ h2
      · rw [ts0_no]; show ¬ (p < 0 ∨ _ < p); unfold Ent at hp; omega
      · rw [ts1_no]; show ¬ (1 ≤ p ∧ p ≤ 3); omega
    · rw [if_neg e]; exact h.one j hj
  · rw [setP_len] at hj ⊢
    have hj' : Ent (L.length : Int) ((j : Int) + 1) := ⟨by omega, by omega⟩
    have hpo : PO L.length (pa (setP L (a - 1).toNat p)) := by
      have := pa_po (setP L (a - 1).toNat p)
      rwa [setP_len] at this
    cases hr : rnd L.length (pa (setP L (a - 1).toNat p)) ((j : Int) + 1) with
    | false => rfl
    | true =>
      exfalso
      have hb := (rnd_back hpo hj').1 hr
      have hg : ∀ x, x ≠ a → pa (setP L (a - 1).toNat p) x = pa L x := fun x hx => by rw [pa_set ha, if_neg hx]
      have hga : pa (setP L (a - 1).toNat p) a = p := by rw [pa_set ha, if_pos rfl]
      generalize pa (setP L (a - 1).toNat p) = g at *
      generalize (j : Int) + 1 = y at *
      -- steps that never meet a are the old ones
      have hsame : ∀ y, (∀ i, way g i y ≠ a) → ∀ i, way g i y = way (pa L) i y := fun y hn i => by
        induction i with
        | zero => rfl
        | succ i ih =>
          show g (way g i y) = pa L (way (pa L) i y)
          rw [hg _ (hn i), ih]
      have hsame2 : ∀ i, way g i p = way (pa L) i p := fun i => by
        induction i with
        | zero => rfl
        | succ i ih =>
          show g (way g i p) = pa L (way (pa L) i p)
          rw [ih, hg _ (fun q => hpa ⟨i, q⟩)]
      by_cases hme : ∃ i, way g i y = a
      · obtain ⟨i, hi⟩ := hme
        have hb2 := back_turn hb i
        rw [hi] at hb2
        obtain ⟨k, k1, k2⟩ := hb2
        obtain ⟨m, rfl⟩ : ∃ m, k = m + 1 := ⟨k - 1, by omega⟩
        rw [way_one, hga, hsame2] at k2
        exact hpa ⟨m, k2⟩
      · have hn : ∀ i, way g i y ≠ a := fun i q => hme ⟨i, q⟩
        obtain ⟨k, k1, k2⟩ := hb
        rw [hsame y hn] at k2
        exact hf.free y (fun q => not_ent_zero _ (q ▸ hj')) ⟨k, k1, k2⟩
end Go.Proofs.Yteendpdidkekkaa
