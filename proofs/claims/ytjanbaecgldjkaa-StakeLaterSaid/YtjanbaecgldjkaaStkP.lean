/-
  The pieces of all periods of layer 18, in plain words: what they are behind so many periods, that they cover these, and differ. No Go function is walked here. No conditions.
-/
import Derived.Test.YtjanbaecgldjkaaStkM
namespace Go.Proofs.Ytjanbaecgldjkaa
open Go.RowKit
set_option linter.unusedSimpArgs false
set_option linter.unusedVariables false

/-- The next period: a piece is (from, to, parent, share). -/
def pst (R : List K4) (k : Nat) (u s : Int) : List K4 :=
  match R.getLast? with
  | none => [((k : Int), (k : Int), u, s)]
  | some q => if q.2.2.1 = u ∧ q.2.2.2 = s then R.dropLast ++ [(q.1, (k : Int), u, s)] else R ++ [((k : Int), (k : Int), u, s)]
def spn (L : List K4) (x : Int) : Nat → List K4
  | 0 => []
  | k + 1 => pst (spn L x k) k (upv L x (k : Int)) (shv L x (k : Int))
theorem pst_nil (k : Nat) (u s : Int) : pst [] k u s = [((k : Int), (k : Int), u, s)] := rfl
theorem pst_same {R : List K4} {q : K4} {k : Nat} : pst (R ++ [q]) k q.2.2.1 q.2.2.2 = R ++ [(q.1, (k : Int), q.2.2.1, q.2.2.2)] := by
  unfold pst; simp
theorem pst_new {R : List K4} {q : K4} {k : Nat} {u s : Int} (h : ¬ (q.2.2.1 = u ∧ q.2.2.2 = s)) : pst (R ++ [q]) k u s = (R ++ [q]) ++ [((k : Int), (k : Int), u, s)] := by
  unfold pst; simp [h]
theorem spn_form (R : List K4) : R = [] ∨ ∃ R' q, R = R' ++ [q] := by
  rcases List.eq_nil_or_concat R with h | ⟨R', q, h⟩
  · exact Or.inl h
  · exact Or.inr ⟨R', q, by simpa using h⟩
/-- Where the next piece begins. -/
def nxv (R : List K4) : Nat → Int
  | 0 => 0
  | i + 1 => (R.getD i z4).2.1 + 1
/-- They cover the first k periods, each once; two next to one another differ. -/
structure Cov (R : List K4) (k : Nat) : Prop where
  at' : ∀ i, i < R.length → (R.getD i z4).1 = nxv R i ∧ (R.getD i z4).1 ≤ (R.getD i z4).2.1 ∧ 0 ≤ (R.getD i z4).1 ∧ (R.getD i z4).2.1 < (k : Int)
  ne : ∀ i, i + 1 < R.length → ¬ ((R.getD (i + 1) z4).2.2.1 = (R.getD i z4).2.2.1 ∧ (R.getD (i + 1) z4).2.2.2 = (R.getD i z4).2.2.2)
  end' : nxv R R.length = (k : Int)
  le : R.length ≤ k
theorem getD_app {R : List K4} {q : K4} {i : Nat} : (R ++ [q]).getD i z4 = if i < R.length then R.getD i z4 else if i = R.length then q else z4 := by
  simp only [List.getD_eq_getElem?_getD, List.getElem?_append]
  by_cases h : i < R.length
  · rw [if_pos h, if_pos h]
  · rw [if_neg h, if_neg h]
    by_cases e : i = R.length
    · rw [if_pos e, e]; simp
    · rw [if_neg e, List.getElem?_eq_none (by simp; omega)]; rfl
theorem nxv_app {R : List K4} {q : K4} {i : Nat} (h : i ≤ R.length) : nxv (R ++ [q]) i = nxv R i := by
  cases i with
  | zero => rfl
  | succ i => show ((R ++ [q]).getD i z4).2.1 + 1 = (R.getD i z4).2.1 + 1; rw [getD_app, if_pos (by omega)]
theorem nxv_last {R : List K4} {q : K4} : nxv (R ++ [q]) (R ++ [q]).length = q.2.1 + 1 := by
  rw [List.length_append]
  show ((R ++ [q]).getD R.length z4).2.1 + 1 = _
  rw [getD_app, if_neg (by omega), if_pos rfl]
theorem Cov.push {R : List K4} {k : Nat} {u s : Int} (h : Cov R k) (hd : ∀ R' q, R = R' ++ [q] → ¬ (q.2.2.1 = u ∧ q.2.2.2 = s)) : Cov (R ++ [((k : Int), (k : Int), u, s)]) (k + 1) := by
  refine ⟨fun i hi => ?_, fun i hi => ?_, ?_, ?_⟩
  · rw [List.length_append] at hi
    rcases Nat.lt_or_ge i R.length with q | q
    · rw [getD_app, if_pos q, nxv_app (by omega)]
      obtain ⟨h1, h2, h3, h4⟩ := h.at' i q
      exact ⟨h1, h2, h3, by omega⟩
    · have e : i = R.length := by simp at hi; omega
      rw [getD_app, if_neg (by omega), if_pos e, nxv_app (by omega), e, h.end']
      exact ⟨rfl, Int.le_refl _, by show (0 : Int) ≤ (k : Int); omega, by show (k : Int) < _; omega⟩
  · rw [List.length_append] at hi
    simp only [List.length_singleton] at hi
    rcases Nat.lt_or_ge (i + 1) R.length with q | q
    · rw [getD_app, if_pos q, getD_app, if_pos (by omega)]
      exact h.ne i q
    · have e : i + 1 = R.length := by omega
      rw [getD_app, if_neg (by omega), if_pos e, getD_app, if_pos (by omega)]
      obtain ⟨R', q', hq⟩ := (spn_form R).resolve_left (fun r => by rw [r] at e; simp at e)
      have hne := hd R' q' hq
      have hl : R'.length = i := by rw [hq, List.length_append] at e; simp at e; omega
      rw [hq, getD_app, if_neg (by omega), if_pos hl.symm]
      exact fun r => hne ⟨r.1.symm, r.2.symm⟩
  · rw [nxv_last]; show (k : Int) + 1 = _; omega
  · rw [List.length_append]; have := h.le; simp; omega
theorem Cov.longer {R : List K4} {q : K4} {k : Nat} (h : Cov (R ++ [q]) k) : Cov (R ++ [(q.1, (k : Int), q.2.2.1, q.2.2.2)]) (k + 1) := by
  have hl : ∀ q' : K4, (R ++ [q']).length = R.length + 1 := fun q' => by simp
  refine ⟨fun i hi => ?_, fun i hi => ?_, ?_, ?_⟩
  · rw [hl] at hi
    obtain ⟨h1, h2, h3, h4⟩ := h.at' i (by rw [hl]; exact hi)
    rw [nxv_app (by omega), getD_app] at h1
    rw [getD_app] at h2 h3 h4
    rw [nxv_app (by omega), getD_app]
    rcases Nat.lt_or_ge i R.length with r | r
    · rw [if_pos r] at h1 h2 h3 h4 ⊢
      exact ⟨h1, h2, h3, by omega⟩
    · have e : i = R.length := by omega
      rw [if_neg (by omega), if_pos e] at h1 h2 h3 h4 ⊢
      exact ⟨h1, by show q.1 ≤ (k : Int); omega, h3, by show (k : Int) < _; omega⟩
  · rw [hl] at hi
    have hn := h.ne i (by rw [hl]; exact hi)
    rw [getD_app, getD_app, if_pos (show i < R.length by omega)] at hn ⊢
    rcases Nat.lt_or_ge (i + 1) R.length with r | r
    · rw [if_pos r] at hn ⊢; exact hn
    · rw [if_neg (by omega), if_pos (by omega)] at hn ⊢; exact hn
  · rw [nxv_last]; show (k : Int) + 1 = _; omega
  · rw [hl]; have := h.le; rw [hl] at this; omega
theorem spn_cov (L : List K4) (x : Int) : ∀ k, Cov (spn L x k) k
  | 0 => ⟨fun i hi => (by cases hi), fun i hi => (by cases hi), rfl, Nat.le_refl _⟩
  | k + 1 => by
    have ih := spn_cov L x k
    show Cov (pst (spn L x k) k _ _) (k + 1)
    rcases spn_form (spn L x k) with h | ⟨R', q, h⟩
    · rw [h, pst_nil]
      rw [h] at ih
      exact ih.push (fun R' q e => by cases R' <;> cases e)
    · rw [h] at ih ⊢
      by_cases hq : q.2.2.1 = upv L x (k : Int) ∧ q.2.2.2 = shv L x (k : Int)
      · rw [← hq.1, ← hq.2, pst_same]; exact ih.longer
      · rw [pst_new hq]
        refine ih.push fun R2 q2 e => ?_
        have : q = q2 := by have := congrArg List.getLast? e; simpa using this
        rw [← this]; exact hq
theorem spn_in {L : List K4} (hL : ∀ s ∈ L, ok4 s) (x : Int) : ∀ k, k ≤ 24 → ∀ q ∈ spn L x k, ok4 q
  | 0, _ => fun q hq => by cases hq
  | k + 1, hk => by
    have ih := spn_in hL x k (by omega)
    have hu : InR (upv L x (k : Int)) := (hel_ok hL x _).2.1
    have hs : InR (shv L x (k : Int)) := (hel_ok hL x _).2.2.1
    have hkk : InR (k : Int) := by unfold InR; omega
    intro q hq
    have hq : q ∈ pst (spn L x k) k (upv L x (k : Int)) (shv L x (k : Int)) := hq
    rcases spn_form (spn L x k) with h | ⟨R', p, h⟩
    · rw [h, pst_nil, List.mem_singleton] at hq
      rw [hq]; exact ⟨hkk, hkk, hu, hs⟩
    · rw [h] at hq ih
      by_cases he : p.2.2.1 = upv L x (k : Int) ∧ p.2.2.2 = shv L x (k : Int)
      · rw [← he.1, ← he.2, pst_same] at hq
        rcases List.mem_append.1 hq with r | r
        · exact ih q (List.mem_append_left _ r)
        · rw [List.mem_singleton.1 r]
          have := ih p (by simp)
          exact ⟨this.1, hkk, this.2.2⟩
      · rw [pst_new he] at hq
        rcases List.mem_append.1 hq with r | r
        · exact ih q r
        · rw [List.mem_singleton.1 r]; exact ⟨hkk, hkk, hu, hs⟩
end Go.Proofs.Ytjanbaecgldjkaa
