/-
  What the document's own Times (of gavelkindref01) does: the product of two whole numbers. The condition: at most 600 digits and 400 digits.
-/
import Derived.Test.YtmmjkbjceocpmaaDoorRefJ
namespace Go.Proofs.YtmmjkbjceocpmaaDoor
open Go.RowKit
set_option linter.unusedVariables false

theorem times_step (A P : List Int) (k : Nat) (c d b : Int) (hP : P.length = k) (h : dval P + 10 ^ k * c = dval (A.take k) * b) (hd : d = c + A.getD k 0 * b) :
    dval (P ++ [d % 10]) + 10 ^ (k + 1) * (d / 10) = dval (A.take (k + 1)) * b := by
  rw [snoc_val P k hP, dval_take, Int.pow_succ, Int.add_mul]
  have e1 : (10 : Int) ^ k * 10 * (d / 10) = 10 ^ k * (10 * (d / 10)) := by rw [Int.mul_assoc]
  have e2 : (10 : Int) ^ k * (d % 10) + 10 ^ k * (10 * (d / 10)) = 10 ^ k * d := by rw [← Int.mul_add]; congr 1; omega
  have e3 : (10 : Int) ^ k * d = 10 ^ k * c + 10 ^ k * A.getD k 0 * b := by rw [hd, Int.mul_add, Int.mul_assoc]
  omega

theorem dval_zeros (i : Nat) (P : List Int) : dval (List.replicate i 0 ++ P) = 10 ^ i * dval P := by
  have h0 : ∀ j, dval (List.replicate j 0) = 0 := by
    intro j
    induction j with
    | zero => rfl
    | succ j ih => rw [List.replicate_succ, dval, ih]; rfl
  rw [dval_append, h0, List.length_replicate]; omega

theorem digs_zeros {i : Nat} {P : List Int} (h : Digs P) : Digs (List.replicate i 0 ++ P) := by
  intro d hd
  rcases List.mem_append.1 hd with hd | hd
  · rw [List.eq_of_mem_replicate hd]; omega
  · exact h d hd

theorem digs_len_mul {m n a b : Nat} (hm : (digs m).length ≤ a) (hn : (digs n).length ≤ b) : (digs (m * n)).length ≤ a + b := by
  refine digs_len _ _ ?_
  rw [Nat.pow_add]
  have h1 := lt_pow10 m
  have h2 := lt_pow10 n
  have h3 : 10 ^ (digs m).length ≤ 10 ^ a := Nat.pow_le_pow_right (by omega) hm
  have h4 : 10 ^ (digs n).length ≤ 10 ^ b := Nat.pow_le_pow_right (by omega) hn
  have h5 : m * n ≤ m * 10 ^ b := Nat.mul_le_mul_left _ (by omega)
  have h6 : m * 10 ^ b < 10 ^ a * 10 ^ b := Nat.mul_lt_mul_of_pos_right (by omega) (Nat.pow_pos (by omega))
  omega

theorem Own.drewN {w : World} {base : Nat} {v : Value} {L : List Int} (h : Own w base v L) (k : Nat) : Own (w.drewN k) base v L := h

/-- What holds while one row is made: its noughts, its digits so far, and the carry. -/
def RowRel (A : List Int) (b : Int) (i : Nat) (w0 : World) (v c k : Value) (wr : World) : Prop :=
  ∃ (j : Nat) (cc : Int) (P : List Int), j ≤ A.length + 1 ∧ (j = A.length + 1 → cc = 0) ∧ 0 ≤ cc ∧ cc ≤ 8 ∧ P.length = j ∧ Digs P ∧ dval P + 10 ^ j * cc = dval (A.take j) * b ∧
    k = .int .i64 j ∧ c = .int .i64 cc ∧ Own wr w0.heap.size v (List.replicate i 0 ++ P) ∧ Below w0.heap.size w0 wr

theorem row_next {A P : List Int} {b cc d : Int} {i k : Nat} {w0 w1 : World} {v1 : Value}
    (HV : (k = A.length + 1 → cc = 0) ∧ P.length = k ∧ Digs P ∧ dval P + 10 ^ k * cc = dval (A.take k) * b) (hd : d = cc + A.getD k 0 * b) (h0 : 0 ≤ cc) (h8 : cc ≤ 8) (hp0 : 0 ≤ A.getD k 0 * b) (hp : A.getD k 0 * b ≤ 81)
    (hk : k ≤ A.length + 1) (hlt : k < A.length ∨ 0 < cc) (hown : Own w1 w0.heap.size v1 ((List.replicate i 0 ++ P) ++ [d % 10])) (hb : Below w0.heap.size w0 w1) :
    RowRel A b i w0 v1 (.int .i64 (d / 10)) (.int .i64 ((k : Int) + 1)) w1 := by
  obtain ⟨e1, e2, e3, e4⟩ := HV
  refine ⟨k + 1, d / 10, P ++ [d % 10], ?_, ?_, by omega, by omega, by simp [e2], e3.snoc (by omega) (by omega), times_step A P k cc d b e2 e4 hd, by go_num, rfl, by rw [← List.append_assoc]; exact hown, hb⟩
  · rcases hlt with h | h
    · omega
    · by_cases hh : k = A.length + 1
      · have := e1 hh; omega
      · omega
  · intro hh
    rw [getD_past A k (by omega), Int.zero_mul] at hd
    omega

theorem row_last {A P : List Int} {b : Int} {i k m : Nat} (h : dval P + 10 ^ k * 0 = dval (A.take k) * b) (hA : A.length ≤ k) (hm : dval A = m) (hb : 0 ≤ b) :
    (dval (List.replicate i 0 ++ P)).toNat = 10 ^ i * (m * b.toNat) := by
  rw [List.take_of_length_le hA, hm] at h
  rw [dval_zeros]
  have : dval P = ((m * b.toNat : Nat) : Int) := by
    rw [Int.natCast_mul, Int.toNat_of_nonneg hb]; omega
  rw [this]
  have e : (10 : Int) ^ i * ((m * b.toNat : Nat) : Int) = ((10 ^ i * (m * b.toNat) : Nat) : Int) := by simp
  rw [e, Int.toNat_natCast]

/-- What holds while the rows are added up. -/
def TimesRel (m : Nat) (B : List Int) (s s' : Bool) (u u' : Value) (w : World) (v i : Value) (wr : World) : Prop :=
  ∃ (k N : Nat), k ≤ B.length ∧ i = .int .i64 k ∧ Sl wr v (digs N) ∧ (N : Int) = m * dval (B.take k) ∧ Box3 w.heap.size (.bool s) u (.bool s') u' (.bool false) (.slice none 0 0) wr ∧ Below w.heap.size w wr

theorem times_next {m k N : Nat} {B : List Int} {b : Int} (hN : (N : Int) = m * dval (B.take k)) (hb : b = B.getD k 0) (hb0 : 0 ≤ b) : ((N + 10 ^ k * (m * b.toNat) : Nat) : Int) = m * dval (B.take (k + 1)) := by
  rw [dval_take, Int.mul_add, ← hN, ← hb]
  have e : ((N + 10 ^ k * (m * b.toNat) : Nat) : Int) = N + 10 ^ k * (m * (b.toNat : Int)) := by simp
  rw [e, Int.toNat_of_nonneg hb0, ← Int.mul_assoc, ← Int.mul_assoc, Int.mul_comm (10 ^ k) (m : Int)]

theorem times_len {m n k N : Nat} (hN : (N : Int) = m * dval ((digs n).take k)) (hm : (digs m).length ≤ 600) (hn : (digs n).length ≤ 400) : (digs N).length ≤ 1000 := by
  have h1 : dval ((digs n).take k) ≤ n := by
    have e := dval_append ((digs n).take k) ((digs n).drop k)
    rw [List.take_append_drop, dval_digs] at e
    have h2 := (dval_drop_le (digs n) (digs_ok n) k).1
    have h3 : 0 ≤ (10 : Int) ^ ((digs n).take k).length * dval ((digs n).drop k) := Int.mul_nonneg (Int.le_of_lt (pow_pos10 _)) h2
    omega
  have h4 : (N : Int) ≤ ((m * n : Nat) : Int) := by rw [hN, Int.natCast_mul]; exact Int.mul_le_mul_of_nonneg_left h1 (by omega)
  exact Nat.le_trans (digs_len_mono (by omega)) (digs_len_mul hm hn)
end Go.Proofs.YtmmjkbjceocpmaaDoor
