/-
  The nearest whole number to a quotient, in plain words; lengths of quotients. No conditions.
-/
import Derived.Test.YtnomeglccihplaaDoorRefMN
import Derived.Test.YtnomeglccihplaaDoorKeepG
import Derived.Test.YtnomeglccihplaaDoorScaM
namespace Go.Proofs.YtnomeglccihplaaDoor
open Go.RowKit
set_option linter.unusedSimpArgs false
set_option linter.unusedVariables false

theorem div_abs (x d : Int) : (x / d).natAbs ≤ x.natAbs := Int.natAbs_ediv_le_natAbs x d
theorem div_len {x d : Int} {k : Nat} (h : (digs x.natAbs).length ≤ k) : (digs (x / d).natAbs).length ≤ k := Nat.le_trans (digs_len_mono (div_abs x d)) h
theorem mod_len {x d : Int} (hd : InR d) (h0 : 0 < d) : (digs (x % d).natAbs).length ≤ 19 := by
  refine digs_19 ?_
  have h1 := Int.emod_nonneg x (by omega : d ≠ 0)
  have h2 := Int.emod_lt_of_pos x h0
  unfold InR at hd ⊢; omega
theorem one_len : (digs (1 : Int).natAbs).length ≤ 19 := digs_19 (by unfold InR; omega)
theorem up_len {q : Int} {k : Nat} (h : (digs q.natAbs).length ≤ k) (hk : 19 ≤ k) : (digs (q + 1).natAbs).length ≤ k + 1 := digs_len_plus h (Nat.le_trans one_len hk)
theorem near_len {x d : Int} {k : Nat} (h : (digs x.natAbs).length ≤ k) (hk : 19 ≤ k) : (digs (nearv x d).natAbs).length ≤ k + 1 := by
  unfold nearv; split
  · exact up_len (div_len h) hk
  · exact Nat.le_trans (div_len h) (Nat.le_succ _)

/-- The last digit tells whether a number is odd. -/
theorem odd_digit (q : Int) : (if 0 < (digs q.natAbs).length then decide (((digs q.natAbs).getD 0 0) % 2 = 1) else false) = decide (q % 2 = 1) := by
  by_cases h : q.natAbs = 0
  · have : q = 0 := by omega
    subst this; simp [digs_zero]
  · rw [if_pos (digs_pos_len h), digs_pos h]
    simp only [List.getD_cons_zero]
    by_cases h1 : q % 2 = 1
    · rw [decide_eq_true h1, decide_eq_true (by omega)]
    · rw [decide_eq_false h1, decide_eq_false (by omega)]
end Go.Proofs.YtnomeglccihplaaDoor
