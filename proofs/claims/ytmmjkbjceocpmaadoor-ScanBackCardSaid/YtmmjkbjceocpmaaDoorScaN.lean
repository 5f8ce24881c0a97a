/-
  The nearest whole number to a quotient: how far it is off, its opposite, its order, in plain words. The condition: the divisor is at least 1.
-/
import Derived.Test.YtmmjkbjceocpmaaDoorScaM
namespace Go.Proofs.YtmmjkbjceocpmaaDoor
open Go.RowKit
set_option linter.unusedSimpArgs false
set_option linter.unusedVariables false

/-- Off by no more than a half, and by just a half only as an even number. -/
def Near (y d v : Int) : Prop := -d ≤ 2 * (y - v * d) ∧ 2 * (y - v * d) ≤ d ∧ ((2 * (y - v * d) = d ∨ 2 * (y - v * d) = -d) → v % 2 = 0)

theorem near_is (y d : Int) (hd : 1 ≤ d) : Near y d (nearv y d) := by
  have e := Int.mul_ediv_add_emod y d
  have r0 := Int.emod_nonneg y (show d ≠ 0 by omega)
  have r1 := Int.emod_lt_of_pos y (show 0 < d by omega)
  unfold Near nearv
  rw [Int.mul_comm] at e
  generalize y / d = q at *; generalize y % d = r at *
  split
  · rename_i h
    rw [Int.add_mul, Int.one_mul]
    generalize q * d = p at *
    refine ⟨by omega, by omega, fun _ => by omega⟩
  · rename_i h
    generalize q * d = p at *
    refine ⟨by omega, by omega, fun _ => by omega⟩

theorem near_le {y z d v u : Int} (hd : 1 ≤ d) (hv : Near y d v) (hu : Near z d u) (h : y ≤ z) : v ≤ u := by
  obtain ⟨a1, a2, a3⟩ := hv
  obtain ⟨b1, b2, b3⟩ := hu
  rcases Int.lt_or_le u v with c | c
  · exfalso
    have hm : (u + 1) * d ≤ v * d := Int.mul_le_mul_of_nonneg_right (by omega) (by omega)
    rw [Int.add_mul, Int.one_mul] at hm
    have hp : v * d = u * d + d := by omega
    have hv1 : v = u + 1 := by
      have : (v - u - 1) * d = 0 := by rw [Int.sub_mul, Int.sub_mul, Int.one_mul]; omega
      rcases Int.mul_eq_zero.mp this with h | h <;> omega
    have := a3 (by omega)
    have := b3 (by omega)
    omega
  · exact c
theorem near_one {y d v u : Int} (hd : 1 ≤ d) (hv : Near y d v) (hu : Near y d u) : v = u :=
  Int.le_antisymm (near_le hd hv hu (Int.le_refl _)) (near_le hd hu hv (Int.le_refl _))
theorem near_neg (y d : Int) (hd : 1 ≤ d) : nearv (-y) d = - nearv y d := by
  refine near_one hd (near_is (-y) d hd) ?_
  obtain ⟨a1, a2, a3⟩ := near_is y d hd
  unfold Near
  rw [Int.neg_mul]
  generalize nearv y d * d = p at *
  refine ⟨by omega, by omega, fun h => ?_⟩
  have := a3 (by omega)
  omega
theorem near_mono {x z n d : Int} (hd : 1 ≤ d) (hn : 0 ≤ n) (h : x ≤ z) : nearv (x * n) d ≤ nearv (z * n) d :=
  near_le hd (near_is _ d hd) (near_is _ d hd) (Int.mul_le_mul_of_nonneg_right h hn)

/-- What is told of how far it is off. -/
theorem near_off (y d : Int) (hd : 1 ≤ d) :
    (cmpv ((y - nearv y d * d).natAbs + (y - nearv y d * d).natAbs : Int) d = -1) ∨ (cmpv ((y - nearv y d * d).natAbs + (y - nearv y d * d).natAbs : Int) d = 0 ∧ (nearv y d).tmod 2 = 0) := by
  obtain ⟨a1, a2, a3⟩ := near_is y d hd
  generalize y - nearv y d * d = z at *
  unfold cmpv
  by_cases h : ((z.natAbs : Int) + z.natAbs) < d
  · left; rw [if_pos h]
  · right
    rw [if_neg h, if_neg (by omega)]
    refine ⟨rfl, ?_⟩
    have := a3 (by omega)
    exact Int.tmod_eq_zero_of_dvd (Int.dvd_of_emod_eq_zero this)
end Go.Proofs.YtmmjkbjceocpmaaDoor
