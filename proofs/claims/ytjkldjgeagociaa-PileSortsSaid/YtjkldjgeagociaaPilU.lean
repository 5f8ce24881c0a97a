/-
  Keys with their places, as a row of pairs; what is popped of it, one behind the other: each place once, the least key first, of equal keys the one ahead. No Go function is walked here. No conditions.
-/
import Derived.Test.YtjkldjgeagociaaPilM
namespace Go.Proofs.Ytjkldjgeagociaa
open Go.RowKit
set_option linter.unusedSimpArgs false
set_option linter.unusedVariables false

/-- Keys with their places, from a place on. -/
def idxs : Nat → List Int → List (Int × Int)
  | _, [] => []
  | n, k :: l => (k, (n : Int)) :: idxs (n + 1) l
theorem idxs_len : ∀ (l : List Int) (n : Nat), (idxs n l).length = l.length
  | [], _ => rfl
  | k :: l, n => by simp [idxs, idxs_len l]
theorem idxs_mem : ∀ (l : List Int) (n : Nat) (p : Int × Int), p ∈ idxs n l → ∃ j : Nat, j < l.length ∧ p = (l.getD j 0, ((n + j : Nat) : Int))
  | [], _, p, h => by cases h
  | k :: l, n, p, h => by
    rcases List.mem_cons.mp h with h | h
    · exact ⟨0, by simp, by rw [h]; rfl⟩
    · obtain ⟨j, hj, e⟩ := idxs_mem l (n + 1) p h
      exact ⟨j + 1, by simpa using hj, by rw [e]; simp; omega⟩
theorem idxs_snoc : ∀ (l : List Int) (n : Nat) (k : Int), idxs n (l ++ [k]) = idxs n l ++ [(k, ((n + l.length : Nat) : Int))]
  | [], n, k => rfl
  | a :: l, n, k => by
    have := idxs_snoc l (n + 1) k
    simp only [List.cons_append, idxs, this]
    rw [show n + 1 + l.length = n + (a :: l).length by simp; omega]
theorem idxs_take (l : List Int) (k : Nat) (h : k < l.length) : idxs 0 (l.take (k + 1)) = idxs 0 (l.take k) ++ [(l.getD k 0, (k : Int))] := by
  rw [List.take_succ_eq_append_getElem h, idxs_snoc, List.length_take, Nat.min_eq_left (by omega)]
  simp [List.getD, h]
theorem idxs_rise : ∀ (l : List Int) (n : Nat), (idxs n l).Pairwise (fun p q => p.2 < q.2)
  | [], _ => List.Pairwise.nil
  | k :: l, n => by
    refine List.Pairwise.cons (fun p hp => ?_) (idxs_rise l (n + 1))
    obtain ⟨j, _, e⟩ := idxs_mem l (n + 1) p hp
    rw [e]; show (n : Int) < _; simp; omega

/-- The first one is none of those ahead, and no one is less. -/
theorem lowAt_is (L : List (Int × Int)) : ∀ k, 0 < k → ∀ j, j < k → (j < (lowAt L k).toNat → (L.getD (lowAt L k).toNat (0, 0)).1 < (L.getD j (0, 0)).1) ∧ (L.getD (lowAt L k).toNat (0, 0)).1 ≤ (L.getD j (0, 0)).1
  | 0, h, _, _ => absurd h (by omega)
  | k + 1, _, j, hj => by
    rcases Nat.eq_zero_or_pos k with rfl | hk
    · obtain rfl : j = 0 := by omega
      have : lowAt L 1 = 0 := by simp [lowAt]
      rw [this]; exact ⟨fun h => absurd h (by decide), Int.le_refl _⟩
    · have hbd := lowAt_bd L k
      have hb : 0 ≤ lowAt L k ∧ lowAt L k < (k : Int) := by rcases hbd with ⟨q, _⟩ | ⟨_, q⟩ <;> omega
      have ih := fun i hi => lowAt_is L k hk i hi
      unfold lowAt
      by_cases hc : lowAt L k < 0 ∨ (L.getD k (0, 0)).1 < (L.getD (lowAt L k).toNat (0, 0)).1
      · rw [if_pos hc, Int.toNat_natCast]
        have hc' : (L.getD k (0, 0)).1 < (L.getD (lowAt L k).toNat (0, 0)).1 := by rcases hc with q | q; omega; exact q
        rcases Nat.lt_or_ge j k with q | q
        · have := (ih j q).2
          exact ⟨fun _ => by omega, by omega⟩
        · obtain rfl : j = k := by omega
          exact ⟨fun r => absurd r (by omega), Int.le_refl _⟩
      · rw [if_neg hc]
        rcases Nat.lt_or_ge j k with q | q
        · exact ih j q
        · obtain rfl : j = k := by omega
          have : ¬ (L.getD j (0, 0)).1 < (L.getD (lowAt L j).toNat (0, 0)).1 := fun r => hc (Or.inr r)
          exact ⟨fun r => by omega, by omega⟩
theorem peek_mem {L : List (Int × Int)} (h : 0 < L.length) : peekv L ∈ L := by
  have := lowi_bd h
  unfold peekv
  rw [if_neg (by omega)]
  have hlt : (lowi L).toNat < L.length := by omega
  rw [show L.getD (lowi L).toNat (0, 0) = L[(lowi L).toNat] by simp [List.getD, hlt]]
  exact List.getElem_mem hlt
theorem pop_sub (L : List (Int × Int)) : (popv L).Sublist L := by
  unfold popv
  split
  · exact List.Sublist.refl _
  · conv => rhs; rw [← List.take_append_drop (lowi L).toNat L]
    exact List.Sublist.append (List.Sublist.refl _) (by rw [← List.drop_drop]; exact List.drop_sublist 1 _)
/-- Which come behind the first one. -/
def aftr (z y : Int × Int) : Prop := z.1 < y.1 ∨ (z.1 = y.1 ∧ z.2 < y.2)
theorem pop_aftr {L : List (Int × Int)} (h : 0 < L.length) (hr : L.Pairwise (fun p q => p.2 < q.2)) : ∀ y ∈ popv L, aftr (peekv L) y := by
  have hb := lowi_bd h
  have hlow := lowAt_is L L.length h
  intro y hy
  unfold popv at hy
  rw [if_neg (by omega)] at hy
  have hlt : (lowi L).toNat < L.length := by omega
  have hpk : peekv L = L.getD (lowi L).toNat (0, 0) := by unfold peekv; rw [if_neg (by omega)]
  rw [hpk]
  obtain ⟨j, hj, hne, e⟩ : ∃ j, j < L.length ∧ j ≠ (lowi L).toNat ∧ y = L.getD j (0, 0) := by
    rcases List.mem_append.mp hy with q | q
    · obtain ⟨j, hj, e⟩ := List.getElem_of_mem q
      rw [List.length_take] at hj
      refine ⟨j, by omega, by omega, ?_⟩
      rw [← e, List.getElem_take]
      simp [List.getD, show j < L.length by omega]
    · obtain ⟨j, hj, e⟩ := List.getElem_of_mem q
      rw [List.length_drop] at hj
      refine ⟨(lowi L).toNat + 1 + j, by omega, by omega, ?_⟩
      rw [← e, List.getElem_drop]
      simp [List.getD, show (lowi L).toNat + 1 + j < L.length by omega]
  rw [e]
  obtain ⟨h1, h2⟩ := hlow j hj
  change (j < (lowi L).toNat → (L.getD (lowi L).toNat (0, 0)).1 < (L.getD j (0, 0)).1) at h1
  change (L.getD (lowi L).toNat (0, 0)).1 ≤ (L.getD j (0, 0)).1 at h2
  rcases Nat.lt_or_ge j (lowi L).toNat with q | q
  · exact Or.inl (h1 q)
  · rcases Int.lt_or_le (L.getD (lowi L).toNat (0, 0)).1 (L.getD j (0, 0)).1 with r | r
    · exact Or.inl r
    · refine Or.inr ⟨by omega, ?_⟩
      have := List.pairwise_iff_getElem.mp hr (lowi L).toNat j hlt hj (by omega)
      simpa [List.getD, hlt, hj] using this
theorem sort_sub (L : List (Int × Int)) : ∀ k, (sortAt L k).2.Sublist L
  | 0 => List.Sublist.refl _
  | k + 1 => (pop_sub _).trans (sort_sub L k)
/-- Whether a place was told. -/
def told9 (R : List (Int × Int)) (j : Nat) : Bool := !(R.any fun y => y.2 == (j : Int))
theorem told_nil (j : Nat) : told9 [] j = true := rfl
theorem told_all (l : List Int) (j : Nat) (hj : j < l.length) : told9 (idxs 0 l) j = false := by
  unfold told9
  rw [Bool.not_eq_false', List.any_eq_true]
  have : ∀ (l : List Int) (n j : Nat), j < l.length → (l.getD j 0, ((n + j : Nat) : Int)) ∈ idxs n l := by
    intro l
    induction l with
    | nil => intro n j h; cases h
    | cons k l ih =>
      intro n j h
      cases j with
      | zero => simp [idxs]
      | succ j =>
        have := ih (n + 1) j (by simpa using h)
        rw [show n + 1 + j = n + (j + 1) by omega] at this
        simp only [idxs, List.getD_cons_succ]
        exact List.mem_cons_of_mem _ this
  exact ⟨_, this l 0 j hj, by simp⟩
theorem told_pop {R : List (Int × Int)} (h : 0 < R.length) (hr : R.Pairwise (fun p q => p.2 < q.2)) (j : Nat) : told9 (popv R) j = (decide ((j : Int) = (peekv R).2) || told9 R j) := by
  have hb := lowi_bd h
  have hlt : (lowi R).toNat < R.length := by omega
  have hpk : peekv R = R.getD (lowi R).toNat (0, 0) := by unfold peekv; rw [if_neg (by omega)]
  have hsplit : R = R.take (lowi R).toNat ++ peekv R :: R.drop ((lowi R).toNat + 1) := by
    rw [hpk, show R.getD (lowi R).toNat (0, 0) = R[(lowi R).toNat] by simp [List.getD, hlt], List.getElem_cons_drop, List.take_append_drop]
  have hpop : popv R = R.take (lowi R).toNat ++ R.drop ((lowi R).toNat + 1) := by unfold popv; rw [if_neg (by omega)]
  have hne : ∀ y ∈ popv R, y.2 ≠ (peekv R).2 := by
    rw [hpop]
    rw [hsplit] at hr
    rw [List.pairwise_append] at hr
    obtain ⟨_, r2, r3⟩ := hr
    rw [List.pairwise_cons] at r2
    intro y hy
    rcases List.mem_append.mp hy with q | q
    · have := r3 y q (peekv R) (by simp); omega
    · have := r2.1 y q; omega
  have key : ∀ (A B : List (Int × Int)) (z : Int × Int), told9 (A ++ z :: B) j = (told9 (A ++ B) j && !(z.2 == (j : Int))) := by
    intro A B z
    unfold told9
    simp only [List.any_append, List.any_cons, Bool.not_or]
    cases (!A.any fun y => y.2 == (j : Int)) <;> cases (!(z.2 == (j : Int))) <;> simp
  have e : told9 R j = (told9 (popv R) j && !((peekv R).2 == (j : Int))) := by
    have := key (R.take (lowi R).toNat) (R.drop ((lowi R).toNat + 1)) (peekv R)
    rw [← hsplit, ← hpop] at this
    exact this
  rw [e]
  by_cases q : (j : Int) = (peekv R).2
  · rw [decide_eq_true q, Bool.true_or]
    unfold told9
    rw [Bool.not_eq_true', List.any_eq_false]
    intro y hy r
    exact hne y hy (by rw [← q]; simpa using r)
  · rw [decide_eq_false q, Bool.false_or]
    have : ((peekv R).2 == (j : Int)) = false := beq_eq_false_iff_ne.mpr (Ne.symm q)
    rw [this]; simp
end Go.Proofs.Ytjkldjgeagociaa
