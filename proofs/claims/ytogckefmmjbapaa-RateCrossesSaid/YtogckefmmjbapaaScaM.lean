/-
  The nearest whole number to a quotient, and what is told of a number by a divisor, in plain words. No conditions.
-/
import Derived.Test.YtogckefmmjbapaaWideM
namespace Go.Proofs.Ytogckefmmjbapaa
open Go.RowKit
set_option linter.unusedSimpArgs false
set_option linter.unusedVariables false

/-- Of two that are as near the even one. -/
def nearv (x d : Int) : Int := if d < x % d + x % d ∨ (x % d + x % d = d ∧ (x / d) % 2 = 1) then x / d + 1 else x / d

/-- What is told of a number by a divisor: the number, and the error's number. -/
def sv (y d : Int) : Int := if d < 1 then 0 else tv y
def se (y d : Int) : Int := if d < 1 then 2 else te y
theorem sv_no {y d : Int} (h : d < 1) : sv y d = 0 := if_pos h
theorem se_no {y d : Int} (h : d < 1) : se y d = 2 := if_pos h
theorem sv_yes {y d : Int} (h : 1 ≤ d) : sv y d = tv y := if_neg (by omega)
theorem se_yes {y d : Int} (h : 1 ≤ d) : se y d = te y := if_neg (by omega)

theorem mul_inV {a b : Int} (ha : InR a) (hb : InR b) : InV (a * b) := by
  have h : (a * b).natAbs ≤ 9223372036854775808 * 9223372036854775808 := by
    rw [Int.natAbs_mul]; exact Nat.mul_le_mul (by unfold InR at ha; omega) (by unfold InR at hb; omega)
  unfold InV; omega
theorem div_inV {x d : Int} (hx : InV x) (hd : 1 ≤ d) : InV (x / d) := by
  have h : (x / d).natAbs ≤ x.natAbs := Int.natAbs_ediv_le_natAbs x d
  have h2 : (x / d) = x → InV (x / d) := fun e => by rw [e]; exact hx
  have h3 : 0 ≤ x → 0 ≤ x / d := fun h => Int.ediv_nonneg h (by omega)
  have h4 : x < 0 → x / d < 0 := fun h => Int.ediv_neg_of_neg_of_pos h (by omega)
  unfold InV at hx ⊢
  omega
theorem div_up_inV {x d : Int} (hx : InV x) (hd : 2 ≤ d) : InV (x / d + 1) := by
  have h1 := div_inV hx (show 1 ≤ d by omega)
  have h2 := Int.mul_ediv_add_emod x d
  have h3 := Int.emod_nonneg x (show d ≠ 0 by omega)
  unfold InV at hx h1 ⊢
  rcases Int.lt_or_le (x / d) 0 with h | h
  · omega
  · have : 2 * (x / d) ≤ d * (x / d) := Int.mul_le_mul_of_nonneg_right hd h
    omega
end Go.Proofs.Ytogckefmmjbapaa
