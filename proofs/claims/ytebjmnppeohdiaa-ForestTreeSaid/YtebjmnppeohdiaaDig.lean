/-
  Plain mathematics of decimal digits, the last one first: what they come to, how sums, differences and comparisons go digit by digit. No Go function is walked here.
-/
import Derived.WalkKit
namespace Go.Proofs.Ytebjmnppeohdiaa

/-- The value of digits, the last one first. -/
def dval : List Int → Int
  | [] => 0
  | d :: l => d + 10 * dval l

/-- Digits, each from 0 to 9. -/
def Digs (l : List Int) : Prop := ∀ d ∈ l, 0 ≤ d ∧ d ≤ 9

/-- No nought behind. -/
def Trimmed (l : List Int) : Prop := ∀ d, l.getLast? = some d → d ≠ 0

/-- The digits of a whole number that is not below 0. -/
def digs (n : Nat) : List Int := if h : n = 0 then [] else ((n % 10 : Nat) : Int) :: digs (n / 10)
termination_by n

theorem digs_zero : digs 0 = [] := by unfold digs; simp
theorem digs_pos {n : Nat} (h : n ≠ 0) : digs n = ((n % 10 : Nat) : Int) :: digs (n / 10) := by rw [digs]; simp [h]

theorem digs_ok (n : Nat) : Digs (digs n) := by
  induction n using Nat.strongRecOn with
  | _ n ih =>
    by_cases h : n = 0
    · subst h; rw [digs_zero]; intro d hd; cases hd
    · rw [digs_pos h]
      intro d hd
      rcases List.mem_cons.1 hd with rfl | hd
      · omega
      · exact ih (n / 10) (by omega) d hd

theorem dval_digs (n : Nat) : dval (digs n) = n := by
  induction n using Nat.strongRecOn with
  | _ n ih =>
    by_cases h : n = 0
    · subst h; rw [digs_zero]; rfl
    · rw [digs_pos h, dval, ih (n / 10) (by omega)]; omega

theorem digs_trimmed (n : Nat) : Trimmed (digs n) := by
  induction n using Nat.strongRecOn with
  | _ n ih =>
    by_cases h : n = 0
    · subst h; rw [digs_zero]; intro d hd; cases hd
    · rw [digs_pos h]
      intro d hd
      by_cases h' : n / 10 = 0
      · rw [h', digs_zero] at hd
        simp at hd
        omega
      · have := ih (n / 10) (by omega)
        rw [List.getLast?_cons] at hd
        rw [digs_pos h'] at hd this
        refine this d ?_
        rw [List.getLast?_cons] at *
        simpa using hd

theorem dval_nonneg : ∀ l, Digs l → 0 ≤ dval l
  | [], _ => by simp [dval]
  | d :: l, h => by
    have h1 := h d (by simp)
    have h2 := dval_nonneg l (fun x hx => h x (by simp [hx]))
    rw [dval]; omega

/-- Digits without a nought behind are those of their value. -/
theorem digs_dval : ∀ l, Digs l → Trimmed l → digs (dval l).toNat = l
  | [], _, _ => by simp [dval, digs_zero]
  | d :: l, h, ht => by
    have h1 := h d (by simp)
    have hl : Digs l := fun x hx => h x (by simp [hx])
    have h2 := dval_nonneg l hl
    have hpos : (dval (d :: l)).toNat ≠ 0 := by
      rw [dval]
      rcases l with _ | ⟨c, l⟩
      · have := ht d rfl
        simp [dval]; omega
      · have htl : Trimmed (c :: l) := fun x hx => ht x (by rw [List.getLast?_cons_cons]; exact hx)
        have := digs_dval (c :: l) hl htl
        by_cases h0 : dval (c :: l) = 0
        · rw [h0] at this; simp [digs_zero] at this
        · omega
    rw [digs_pos hpos]
    have e1 : (dval (d :: l)).toNat / 10 = (dval l).toNat := by rw [dval]; omega
    have e2 : (((dval (d :: l)).toNat % 10 : Nat) : Int) = d := by rw [dval]; omega
    have htl : Trimmed l := fun x hx => ht x (by
      rcases l with _ | ⟨c, l⟩
      · cases hx
      · rw [List.getLast?_cons_cons]; exact hx)
    rw [e1, e2, digs_dval l hl htl]

theorem dval_append (a b : List Int) : dval (a ++ b) = dval a + 10 ^ a.length * dval b := by
  induction a with
  | nil => simp [dval]
  | cons d a ih =>
    simp only [List.cons_append, dval, ih, List.length_cons, Int.pow_succ]
    rw [Int.mul_add, ← Int.mul_assoc, Int.mul_comm 10 (10 ^ a.length)]
    omega

theorem digs_len (n k : Nat) (h : n < 10 ^ k) : (digs n).length ≤ k := by
  induction k generalizing n with
  | zero => have : n = 0 := by omega
            subst this; simp [digs_zero]
  | succ k ih =>
    by_cases h0 : n = 0
    · subst h0; simp [digs_zero]
    · rw [digs_pos h0, List.length_cons]
      have := ih (n / 10) (by rw [Nat.pow_succ] at h; omega)
      omega

theorem getD_in (A : List Int) (h : Digs A) (i : Nat) : 0 ≤ A.getD i 0 ∧ A.getD i 0 ≤ 9 := by
  by_cases hi : i < A.length
  · rw [show A.getD i 0 = A[i] by simp [List.getD, hi]]; exact h _ (List.getElem_mem hi)
  · rw [show A.getD i 0 = 0 by simp [List.getD, List.getElem?_eq_none (Nat.le_of_not_lt hi)]]; omega

theorem dval_take (A : List Int) (i : Nat) : dval (A.take (i + 1)) = dval (A.take i) + 10 ^ i * A.getD i 0 := by
  by_cases hi : i < A.length
  · rw [show A.getD i 0 = A[i] by simp [List.getD, hi], List.take_succ_eq_append_getElem hi, dval_append, List.length_take, Nat.min_eq_left (by omega)]
    simp [dval]
  · rw [show A.getD i 0 = 0 by simp [List.getD, List.getElem?_eq_none (Nat.le_of_not_lt hi)], List.take_of_length_le (by omega), List.take_of_length_le (by omega)]
    simp

theorem Digs.take {A : List Int} (h : Digs A) (i : Nat) : Digs (A.take i) := fun d hd => h d (List.mem_of_mem_take hd)
theorem Digs.snoc {A : List Int} (h : Digs A) {d : Int} (h0 : 0 ≤ d) (h9 : d ≤ 9) : Digs (A ++ [d]) := by
  intro x hx
  rcases List.mem_append.1 hx with hx | hx
  · exact h x hx
  · rcases List.mem_singleton.1 hx with rfl; omega

theorem pow_pos10 (i : Nat) : 0 < (10 : Int) ^ i := Int.pow_pos (by decide)

theorem dval_lt : ∀ A : List Int, Digs A → dval A < 10 ^ A.length
  | [], _ => by simp [dval]
  | d :: A, h => by
    have h1 := h d (by simp)
    have h2 := dval_lt A (fun x hx => h x (by simp [hx]))
    rw [dval, List.length_cons, Int.pow_succ]; omega

theorem snoc_val (O : List Int) (i : Nat) (h : O.length = i) (d : Int) : dval (O ++ [d]) = dval O + 10 ^ i * d := by
  rw [dval_append, h]; simp [dval]

/-- One step of adding. -/
theorem more_step (A B O : List Int) (i : Nat) (c d : Int) (hO : O.length = i) (h : dval O + 10 ^ i * c = dval (A.take i) + dval (B.take i)) (hd : d = c + A.getD i 0 + B.getD i 0) :
    dval (O ++ [d % 10]) + 10 ^ (i + 1) * (d / 10) = dval (A.take (i + 1)) + dval (B.take (i + 1)) := by
  rw [snoc_val O i hO, dval_take, dval_take, Int.pow_succ]
  have e1 : (10 : Int) ^ i * 10 * (d / 10) = 10 ^ i * (10 * (d / 10)) := by rw [Int.mul_assoc]
  have e2 : (10 : Int) ^ i * (d % 10) + 10 ^ i * (10 * (d / 10)) = 10 ^ i * d := by rw [← Int.mul_add]; congr 1; omega
  have e3 : (10 : Int) ^ i * d = 10 ^ i * c + 10 ^ i * A.getD i 0 + 10 ^ i * B.getD i 0 := by rw [hd, Int.mul_add, Int.mul_add]
  omega

theorem more_end (A B O : List Int) (i : Nat) (hA : A.length ≤ i) (hB : B.length ≤ i) (h : dval O + 10 ^ i * 0 = dval (A.take i) + dval (B.take i)) : dval O = dval A + dval B := by
  rw [List.take_of_length_le hA, List.take_of_length_le hB] at h; omega

/-- One step of subtracting. -/
theorem fewer_step (A B O : List Int) (i : Nat) (br d : Int) (hO : O.length = i) (h : dval O - 10 ^ i * br = dval (A.take i) - dval (B.take i)) (hd : d = A.getD i 0 - br - B.getD i 0) (b' : Int) :
    dval (O ++ [d + 10 * b']) - 10 ^ (i + 1) * b' = dval (A.take (i + 1)) - dval (B.take (i + 1)) := by
  rw [snoc_val O i hO, dval_take, dval_take, Int.pow_succ]
  have e1 : (10 : Int) ^ i * 10 * b' = 10 ^ i * (10 * b') := by rw [Int.mul_assoc]
  have e2 : (10 : Int) ^ i * (d + 10 * b') = 10 ^ i * d + 10 ^ i * (10 * b') := by rw [Int.mul_add]
  have e3 : (10 : Int) ^ i * d = 10 ^ i * A.getD i 0 - 10 ^ i * br - 10 ^ i * B.getD i 0 := by rw [hd, Int.mul_sub, Int.mul_sub]
  omega

theorem digs_len_mono {m n : Nat} (h : n ≤ m) : (digs n).length ≤ (digs m).length := by
  refine digs_len n _ ?_
  have := dval_lt (digs m) (digs_ok m)
  rw [dval_digs] at this
  have e : ((10 : Int) ^ (digs m).length) = ((10 ^ (digs m).length : Nat) : Int) := by simp
  rw [e] at this
  omega

theorem fewer_end (m n : Nat) (hle : n ≤ m) (O : List Int) (i : Nat) (br : Int) (hb : br = 0 ∨ br = 1) (hi : (digs m).length = i) (hO : O.length = i) (hd : Digs O)
    (h : dval O - 10 ^ i * br = dval ((digs m).take i) - dval ((digs n).take i)) : dval O = ((m - n : Nat) : Int) := by
  have hl := digs_len_mono hle
  rw [List.take_of_length_le (by omega), List.take_of_length_le (by omega), dval_digs, dval_digs] at h
  have h1 := dval_lt O hd
  rw [hO] at h1
  rcases hb with rfl | rfl
  · omega
  · omega

/-- Digits are those of their value, once noughts behind are left out. -/
theorem trim_digs (L : List Int) (h : Digs L) (n : Nat) (hv : dval (L.take n) = dval L) (ht : n = 0 ∨ L.getD (n - 1) 0 ≠ 0) (hn : n ≤ L.length) : L.take n = digs (dval L).toNat := by
  rw [← hv, digs_dval _ (h.take n)]
  intro d hd
  rcases ht with rfl | ht
  · simp at hd
  · by_cases h0 : n = 0
    · subst h0; simp at hd
    · rw [List.getLast?_eq_getElem?, List.length_take, Nat.min_eq_left hn, List.getElem?_take] at hd
      have hlt : n - 1 < n := by omega
      simp [hlt] at hd
      simp [List.getD, hd] at ht
      exact ht

theorem trim_step (L : List Int) (n : Nat) (hv : dval (L.take (n + 1)) = dval L) (h0 : L.getD n 0 = 0) : dval (L.take n) = dval L := by
  rw [dval_take, h0] at hv; omega

theorem dval_split (A : List Int) (i : Nat) (h : i < A.length) : dval A = dval (A.take i) + 10 ^ i * (A.getD i 0 + 10 * dval (A.drop (i + 1))) := by
  have e : A = A.take i ++ (A[i] :: A.drop (i + 1)) := by rw [← List.drop_eq_getElem_cons h, List.take_append_drop]
  have e2 : A.getD i 0 = A[i] := by simp [List.getD, h]
  rw [e2]
  calc dval A = dval (A.take i ++ (A[i] :: A.drop (i + 1))) := by rw [← e]
    _ = _ := by rw [dval_append, List.length_take, Nat.min_eq_left (by omega), dval]

/-- The first digit from above that parts two numbers of one length decides. -/
theorem digits_lt (A B : List Int) (hA : Digs A) (hB : Digs B) (i : Nat) (hi : i < A.length) (hi' : i < B.length) (hd : A.drop (i + 1) = B.drop (i + 1)) (hlt : A.getD i 0 < B.getD i 0) : dval A < dval B := by
  rw [dval_split A i hi, dval_split B i hi', hd]
  have h1 := dval_lt (A.take i) (hA.take i)
  rw [List.length_take, Nat.min_eq_left (by omega)] at h1
  have h2 := dval_nonneg (B.take i) (hB.take i)
  have h3 : (10 : Int) ^ i * (A.getD i 0 + 10 * dval (B.drop (i + 1)) + 1) ≤ 10 ^ i * (B.getD i 0 + 10 * dval (B.drop (i + 1))) :=
    Int.mul_le_mul_of_nonneg_left (by omega) (Int.le_of_lt (pow_pos10 i))
  rw [Int.mul_add _ _ 1] at h3
  omega

theorem drop_step (A B : List Int) (i : Nat) (hi : i < A.length) (hi' : i < B.length) (hd : A.drop (i + 1) = B.drop (i + 1)) (he : A.getD i 0 = B.getD i 0) : A.drop i = B.drop i := by
  rw [List.drop_eq_getElem_cons hi, List.drop_eq_getElem_cons hi', hd]
  simp [List.getD, hi, hi'] at he
  rw [he]

theorem len_lt {m n : Nat} (h : (digs m).length < (digs n).length) : m < n := by
  rcases Nat.lt_or_ge m n with h' | h'
  · exact h'
  · have := digs_len_mono h'; omega

end Go.Proofs.Ytebjmnppeohdiaa
