/-
  Words joined with words: the numbers that they stand for, and how many have come or gone. No Go function is walked here. No conditions.
-/
import Derived.Test.YtiolicadnomagaaDoorSetD
namespace Go.Proofs.YtiolicadnomagaaDoor
open Go.RowKit
set_option linter.unusedSimpArgs false
set_option linter.unusedVariables false

/-- The words when the first k are laid anew. -/
def upd (op : Nat → Nat → Nat) (ws vs : List Nat) : Nat → List Nat
  | 0 => ws
  | k + 1 => (upd op ws vs k).set k (op (ws.getD k 0) (vs.getD k 0))
/-- How many bits have turned by then. -/
def chs (op : Nat → Nat → Nat) (ws vs : List Nat) : Nat → Nat
  | 0 => 0
  | k + 1 => chs op ws vs k + (wbits (ws.getD k 0 ^^^ op (ws.getD k 0) (vs.getD k 0))).length
section
variable {op : Nat → Nat → Nat} {ws vs : List Nat}
theorem upd_len : ∀ k, (upd op ws vs k).length = ws.length
  | 0 => rfl
  | k + 1 => by rw [upd, List.length_set, upd_len k]
theorem upd_at : ∀ k, k ≤ ws.length → ∀ j, (upd op ws vs k).getD j 0 = if j < k then op (ws.getD j 0) (vs.getD j 0) else ws.getD j 0
  | 0, _, j => by simp [upd]
  | k + 1, h, j => by
    have hl := @upd_len op ws vs k
    have ih := upd_at k (by omega) j
    rw [upd]
    by_cases e : j = k
    · subst e
      have : j < (upd op ws vs j).length := by omega
      simp [List.getD, this]
    · have : ((upd op ws vs k).set k (op (ws.getD k 0) (vs.getD k 0))).getD j 0 = (upd op ws vs k).getD j 0 := by simp [List.getD, List.getElem?_set, Ne.symm e]
      rw [this, ih]
      by_cases q : j < k
      · rw [if_pos q, if_pos (by omega)]
      · rw [if_neg q, if_neg (by omega)]
theorem chs_le : ∀ k, chs op ws vs k ≤ k * 64
  | 0 => Nat.le_refl _
  | k + 1 => by have := chs_le k; have := wbits_le (ws.getD k 0 ^^^ op (ws.getD k 0) (vs.getD k 0)); rw [chs]; omega
end
theorem chs_sum (op : Nat → Nat → Nat) (ws vs : List Nat) (k : Nat) (h : k < 1024) : IntKind.i64.wrap ((chs op ws vs k : Nat) + ((wbits (ws.getD k 0 ^^^ op (ws.getD k 0) (vs.getD k 0))).length : Int)) = ((chs op ws vs (k + 1) : Nat) : Int) ∧
    wrap64 ((chs op ws vs k : Nat) + ((wbits (ws.getD k 0 ^^^ op (ws.getD k 0) (vs.getD k 0))).length : Int)) = ((chs op ws vs (k + 1) : Nat) : Int) := by
  have h1 := @chs_le op ws vs k
  have h2 := wbits_le (ws.getD k 0 ^^^ op (ws.getD k 0) (vs.getD k 0))
  rw [show chs op ws vs (k + 1) = chs op ws vs k + (wbits (ws.getD k 0 ^^^ op (ws.getD k 0) (vs.getD k 0))).length from rfl]
  generalize chs op ws vs k = a at *
  generalize (wbits (ws.getD k 0 ^^^ op (ws.getD k 0) (vs.getD k 0))).length = b at *
  exact ⟨wrap_sum (by omega), wrap_sum64 (by omega)⟩
theorem filt_or (p q : Nat → Bool) (l : List Nat) : (l.filter fun k => p k || q k).length = (l.filter p).length + (l.filter fun k => p k ^^ (p k || q k)).length := by
  induction l with
  | nil => rfl
  | cons a l ih => simp only [List.filter_cons]; cases p a <;> cases q a <;> simp <;> omega
theorem filt_and (p q : Nat → Bool) (l : List Nat) : (l.filter p).length = (l.filter fun k => p k && q k).length + (l.filter fun k => p k ^^ (p k && q k)).length := by
  induction l with
  | nil => rfl
  | cons a l ih => simp only [List.filter_cons]; cases p a <;> cases q a <;> simp <;> omega
theorem wbits_or (x y : Nat) : (wbits (x ||| y)).length = (wbits x).length + (wbits (x ^^^ (x ||| y))).length := by
  have := filt_or x.testBit y.testBit (List.range 64)
  simpa only [wbits, Nat.testBit_xor, Nat.testBit_or] using this
theorem wbits_and (x y : Nat) : (wbits x).length = (wbits (x &&& y)).length + (wbits (x ^^^ (x &&& y))).length := by
  have := filt_and x.testBit y.testBit (List.range 64)
  simpa only [wbits, Nat.testBit_xor, Nat.testBit_and] using this
theorem upd_take (op : Nat → Nat → Nat) (ws vs : List Nat) {k : Nat} (h : k < ws.length) :
    (nums 0 ((upd op ws vs ws.length).take (k + 1))).length = (nums 0 ((upd op ws vs ws.length).take k)).length + (wbits (op (ws.getD k 0) (vs.getD k 0))).length := by
  rw [take_len_succ (by rw [upd_len]; exact h), upd_at _ (Nat.le_refl _), if_pos h]
theorem chs_or (ws vs : List Nat) : ∀ k, k ≤ ws.length → (nums 0 ((upd (· ||| ·) ws vs ws.length).take k)).length = (nums 0 (ws.take k)).length + chs (· ||| ·) ws vs k
  | 0, _ => by simp [nums, chs]
  | k + 1, h => by
    rw [upd_take _ _ _ (by omega), take_len_succ (by omega), chs_or ws vs k (by omega), chs]
    have := wbits_or (ws.getD k 0) (vs.getD k 0)
    omega
theorem chs_and (ws vs : List Nat) : ∀ k, k ≤ ws.length → (nums 0 (ws.take k)).length = (nums 0 ((upd (· &&& ·) ws vs ws.length).take k)).length + chs (· &&& ·) ws vs k
  | 0, _ => by simp [nums, chs]
  | k + 1, h => by
    have h1 := upd_take (· &&& ·) ws vs (show k < ws.length by omega)
    rw [h1, take_len_succ (by omega), chs_and ws vs k (by omega), chs]
    have := wbits_and (ws.getD k 0) (vs.getD k 0)
    omega
theorem mem_rise (z : Int) : ∀ (L : List Int) (A : List Int), z ∈ L.foldl wth A ↔ z ∈ L ∨ z ∈ A
  | [], A => by simp
  | x :: L, A => by
    rw [List.foldl_cons, mem_rise z L, mem_wth, List.mem_cons]
    constructor
    · rintro (h | h | h)
      · exact Or.inl (Or.inr h)
      · exact Or.inl (Or.inl h)
      · exact Or.inr h
    · rintro ((h | h) | h)
      · exact Or.inr (Or.inl h)
      · exact Or.inl h
      · exact Or.inr (Or.inr h)
theorem rises_rise : ∀ (L : List Int) (A : List Int), Rises A → Rises (L.foldl wth A)
  | [], A, h => h
  | x :: L, A, h => by rw [List.foldl_cons]; exact rises_rise L _ (rises_wth x A h)
theorem nums_or {ws vs : List Nat} (h : ws.length = 1024) (k : vs.length = 1024) : nums 0 (upd (· ||| ·) ws vs 1024) = rise (nums 0 ws ++ nums 0 vs) ∧ (chs (· ||| ·) ws vs 1024 : Int) = ((rise (nums 0 ws ++ nums 0 vs)).length : Int) - ((nums 0 ws).length : Int) := by
  have hl : (upd (· ||| ·) ws vs 1024).length = 1024 := by rw [upd_len, h]
  have e : nums 0 (upd (· ||| ·) ws vs 1024) = rise (nums 0 ws ++ nums 0 vs) := by
    refine rises_ext (nums_rise _ _) (rises_rise _ _ List.Pairwise.nil) fun z => ?_
    unfold rise
    rw [mem_rise, mem_nums0 hl, List.mem_append, mem_nums0 h, mem_nums0 k]
    constructor
    · rintro ⟨h0, h1, h2⟩
      rw [upd_at 1024 (by omega), if_pos (by omega), Nat.testBit_or, Bool.or_eq_true] at h2
      rcases h2 with h2 | h2
      · exact Or.inl (Or.inl ⟨h0, h1, h2⟩)
      · exact Or.inl (Or.inr ⟨h0, h1, h2⟩)
    · rintro ((⟨h0, h1, h2⟩ | ⟨h0, h1, h2⟩) | q)
      · exact ⟨h0, h1, by rw [upd_at 1024 (by omega), if_pos (by omega), Nat.testBit_or, h2]; rfl⟩
      · exact ⟨h0, h1, by rw [upd_at 1024 (by omega), if_pos (by omega), Nat.testBit_or, h2]; simp⟩
      · cases q
  refine ⟨e, ?_⟩
  have := chs_or ws vs 1024 (by omega)
  rw [h, List.take_of_length_le (by omega), List.take_of_length_le (by omega), e] at this
  omega
theorem nums_and {ws vs : List Nat} (h : ws.length = 1024) (k : vs.length = 1024) : nums 0 (upd (· &&& ·) ws vs 1024) = both (nums 0 ws) (nums 0 vs) ∧ (chs (· &&& ·) ws vs 1024 : Int) = ((nums 0 ws).length : Int) - ((both (nums 0 ws) (nums 0 vs)).length : Int) := by
  have hl : (upd (· &&& ·) ws vs 1024).length = 1024 := by rw [upd_len, h]
  have e : nums 0 (upd (· &&& ·) ws vs 1024) = both (nums 0 ws) (nums 0 vs) := by
    refine rises_ext (nums_rise _ _) ((nums_rise _ _).filter _) fun z => ?_
    unfold both
    rw [mem_nums0 hl, List.mem_filter, decide_eq_true_iff, mem_nums0 h, mem_nums0 k]
    constructor
    · rintro ⟨h0, h1, h2⟩
      rw [upd_at 1024 (by omega), if_pos (by omega), Nat.testBit_and, Bool.and_eq_true] at h2
      exact ⟨⟨h0, h1, h2.1⟩, h0, h1, h2.2⟩
    · rintro ⟨⟨h0, h1, h2⟩, _, _, h3⟩
      exact ⟨h0, h1, by rw [upd_at 1024 (by omega), if_pos (by omega), Nat.testBit_and, h2, h3]; rfl⟩
  refine ⟨e, ?_⟩
  have := chs_and ws vs 1024 (by omega)
  rw [h, List.take_of_length_le (by omega), List.take_of_length_le (by omega), e] at this
  omega
end Go.Proofs.YtiolicadnomagaaDoor
