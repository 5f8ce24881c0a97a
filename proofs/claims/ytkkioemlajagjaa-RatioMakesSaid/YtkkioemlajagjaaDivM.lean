/-
  Plain words about a division of two words by one, half a word at a time, without any Go function. No conditions.
-/
import Derived.Test.YtkkioemlajagjaaWideM
import Derived.Lib.BitFns
import Derived.Laws.Bits64b
namespace Go.Proofs.Ytkkioemlajagjaa
open Go.RowKit
set_option linter.unusedSimpArgs false
set_option linter.unusedVariables false

/-- How far a number must be shifted so that its highest bit stands at the top. -/
theorem bitLen_pow : ∀ (k x : Nat), k ≤ 64 → x ≠ 0 → x < 2 ^ k → x < 2 ^ Lib.bitLen x ∧ 2 ^ Lib.bitLen x ≤ 2 * x ∧ 1 ≤ Lib.bitLen x
  | 0, x, _, h0, h => by simp at h; omega
  | k + 1, x, hk, h0, h => by
    have h64 : x < 2 ^ 64 := Nat.lt_of_lt_of_le h (Nat.pow_le_pow_right (by omega) hk)
    rw [Lib.bitLen_half x h0 h64]
    by_cases h2 : x / 2 = 0
    · rw [h2, show Lib.bitLen 0 = 0 from rfl]
      have : x = 1 := by omega
      subst this; simp
    · have ih := bitLen_pow k (x / 2) (by omega) h2 (by rw [Nat.pow_succ] at h; omega)
      rw [Nat.pow_add, Nat.pow_one]
      omega

/-- Shifted so, a number is from 2^63 up to 2^64. -/
theorem shift_top {y : Nat} (h0 : y ≠ 0) (h : y < 9223372036854775808) : ∃ s : Nat, 64 - Lib.bitLen y = s ∧ Lib.bitLen y + s = 64 ∧ 1 ≤ s ∧ s ≤ 63 ∧ 9223372036854775808 ≤ y * 2 ^ s ∧ y * 2 ^ s < 18446744073709551616 := by
  obtain ⟨h1, h2, h3⟩ := bitLen_pow 63 y (by omega) h0 h
  have h4 := Lib.bitLen_le y 63 (by omega) h
  refine ⟨64 - Lib.bitLen y, rfl, by omega, by omega, by omega, ?_, ?_⟩
  · have e : 2 ^ Lib.bitLen y * 2 ^ (64 - Lib.bitLen y) = 18446744073709551616 := by rw [← Nat.pow_add, show Lib.bitLen y + (64 - Lib.bitLen y) = 64 by omega]
    have := Nat.mul_le_mul_right (2 ^ (64 - Lib.bitLen y)) h2
    rw [e, Nat.mul_assoc] at this
    omega
  · have e : 2 ^ Lib.bitLen y * 2 ^ (64 - Lib.bitLen y) = 18446744073709551616 := by rw [← Nat.pow_add, show Lib.bitLen y + (64 - Lib.bitLen y) = 64 by omega]
    have := Nat.mul_lt_mul_of_pos_right h1 (Nat.two_pow_pos (64 - Lib.bitLen y))
    omega

/-- What holds while a half of the quotient is looked for: n and half a word u, by Y, whose upper half is a and lower half b. -/
def Dig1 (n u a b q r : Nat) : Prop := q * a + r = n ∧ (n * 4294967296 + u) / (a * 4294967296 + b) ≤ q

theorem dig_y (q a b : Nat) : q * (a * 4294967296 + b) = q * a * 4294967296 + q * b := by rw [Nat.mul_add, Nat.mul_assoc]

theorem dig_start {n u a b : Nat} (hu : u < 4294967296) (ha : 2147483648 ≤ a) : Dig1 n u a b (n / a) (n % a) := by
  refine ⟨by rw [Nat.mul_comm]; exact Nat.div_add_mod n a, ?_⟩
  rw [Nat.le_div_iff_mul_le (by omega)]
  have h := Nat.div_mul_le_self (n * 4294967296 + u) (a * 4294967296 + b)
  generalize (n * 4294967296 + u) / (a * 4294967296 + b) = q at *
  rw [dig_y] at h
  generalize q * a = z at *
  omega

theorem dig_lt {n u a b : Nat} (hu : u < 4294967296) (hn : n < a * 4294967296 + b) : (n * 4294967296 + u) / (a * 4294967296 + b) < 4294967296 := by
  rw [Nat.div_lt_iff_lt_mul (by omega)]
  omega

theorem dig_big {n u a b q r : Nat} (h : Dig1 n u a b q r) (hu : u < 4294967296) (hn : n < a * 4294967296 + b) (hq : 4294967296 ≤ q) : Dig1 n u a b (q - 1) (r + a) := by
  obtain ⟨h1, h2⟩ := h
  have := dig_lt (b := b) (a := a) hu hn
  refine ⟨?_, by omega⟩
  obtain ⟨p, rfl⟩ : ∃ p, q = p + 1 := ⟨q - 1, by omega⟩
  rw [Nat.add_mul] at h1
  rw [Nat.add_sub_cancel]; omega

theorem dig_mul {n u a b q r : Nat} (h : Dig1 n u a b q r) (ha : 0 < a) (hq : 4294967296 * r + u < q * b) : 1 ≤ q ∧ Dig1 n u a b (q - 1) (r + a) := by
  obtain ⟨h1, h2⟩ := h
  have hq1 : 1 ≤ q := by
    rcases Nat.eq_zero_or_pos q with rfl | h
    · simp at hq
    · exact h
  have hlt : (n * 4294967296 + u) / (a * 4294967296 + b) < q := by
    rw [Nat.div_lt_iff_lt_mul (by omega), dig_y]
    generalize q * a = z at *; generalize q * b = t at *
    omega
  refine ⟨hq1, ?_, by omega⟩
  obtain ⟨p, rfl⟩ : ∃ p, q = p + 1 := ⟨q - 1, by omega⟩
  rw [Nat.add_mul] at h1
  rw [Nat.add_sub_cancel]; omega

theorem dig_end {n u a b q r : Nat} (h : Dig1 n u a b q r) (ha : 0 < a) (hq : q * b ≤ 4294967296 * r + u) : q = (n * 4294967296 + u) / (a * 4294967296 + b) := by
  obtain ⟨h1, h2⟩ := h
  refine Nat.le_antisymm ?_ h2
  rw [Nat.le_div_iff_mul_le (by omega), dig_y]
  generalize q * a = z at *; generalize q * b = t at *
  omega

theorem dig_out {n u a b q r : Nat} (h : Dig1 n u a b q r) (ha : 0 < a) (hb : b < 4294967296) (hq : q ≤ 4294967296) (hr : 4294967296 ≤ r) : q = (n * 4294967296 + u) / (a * 4294967296 + b) := by
  refine dig_end h ha ?_
  have : q * b ≤ 4294967296 * 4294967295 := Nat.mul_le_mul hq (by omega)
  omega

theorem dig_top {n a b : Nat} (ha : 2147483648 ≤ a) (hb : b < 4294967296) (hn : n < a * 4294967296 + b) : n / a ≤ 4294967297 := by
  have : n / a < 4294967298 := by
    rw [Nat.div_lt_iff_lt_mul (by omega)]
    omega
  omega

theorem left_aux (n u z r : Nat) (h1 : z + r = n * 4294967296 + u) (h2 : r < 18446744073709551616) :
    ((n * 4294967296 % 18446744073709551616 + u) % 18446744073709551616 + (18446744073709551616 - z % 18446744073709551616)) % 18446744073709551616 = r := by omega
/-- What is left behind a half of the quotient, as the words' sums that wrap round tell it. -/
theorem dig_left (n u Y : Nat) (hY : 0 < Y) (hY2 : Y < 18446744073709551616) :
    ((n * 4294967296 % 18446744073709551616 + u) % 18446744073709551616 + (18446744073709551616 - (n * 4294967296 + u) / Y * Y % 18446744073709551616)) % 18446744073709551616 = (n * 4294967296 + u) % Y :=
  left_aux n u _ _ (by rw [Nat.mul_comm]; exact Nat.div_add_mod _ Y) (Nat.lt_trans (Nat.mod_lt _ hY) hY2)

theorem two_aux (N q r u0 Y : Nat) (hY : 0 < Y) (h1 : Y * q + r = N) :
    q * 4294967296 + (r * 4294967296 + u0) / Y = (N * 4294967296 + u0) / Y ∧ (r * 4294967296 + u0) % Y = (N * 4294967296 + u0) % Y := by
  have e2 : N * 4294967296 + u0 = Y * (q * 4294967296) + (r * 4294967296 + u0) := by rw [← h1, Nat.add_mul, Nat.mul_assoc, Nat.add_assoc]
  rw [e2, Nat.mul_add_div hY, Nat.mul_add_mod]
  exact ⟨rfl, rfl⟩
/-- Both halves of the quotient, one behind the other. -/
theorem two_digs (n u1 u0 Y : Nat) (hY : 0 < Y) :
    (n * 4294967296 + u1) / Y * 4294967296 + ((n * 4294967296 + u1) % Y * 4294967296 + u0) / Y = (n * 18446744073709551616 + (u1 * 4294967296 + u0)) / Y ∧
    ((n * 4294967296 + u1) % Y * 4294967296 + u0) % Y = (n * 18446744073709551616 + (u1 * 4294967296 + u0)) % Y := by
  have e : n * 18446744073709551616 + (u1 * 4294967296 + u0) = (n * 4294967296 + u1) * 4294967296 + u0 := by omega
  rw [e]
  exact two_aux _ _ _ u0 Y hY (Nat.div_add_mod _ Y)

/-- Shifting both sides changes no quotient. -/
theorem shifted (hi lo y s : Nat) (hy : 0 < y) (hlo : lo < 18446744073709551616) (hhi : hi < y) (h1 : 1 ≤ s) (h63 : s ≤ 63) (hY : y * 2 ^ s < 18446744073709551616) :
    hi * 2 ^ s + lo / 2 ^ (64 - s) < y * 2 ^ s ∧ lo / 2 ^ (64 - s) < 2 ^ s ∧
    ((hi * 2 ^ s + lo / 2 ^ (64 - s)) * 18446744073709551616 + lo * 2 ^ s % 18446744073709551616) / (y * 2 ^ s) = (hi * 18446744073709551616 + lo) / y ∧
    ((hi * 2 ^ s + lo / 2 ^ (64 - s)) * 18446744073709551616 + lo * 2 ^ s % 18446744073709551616) % (y * 2 ^ s) / 2 ^ s = (hi * 18446744073709551616 + lo) % y := by
  have hp := Nat.two_pow_pos s
  have hp' := Nat.two_pow_pos (64 - s)
  have e64 : 2 ^ (64 - s) * 2 ^ s = 18446744073709551616 := by rw [← Nat.pow_add, show 64 - s + s = 64 by omega]
  have l1 : lo / 2 ^ (64 - s) < 2 ^ s := by rw [Nat.div_lt_iff_lt_mul hp', Nat.mul_comm]; omega
  have e1 : lo / 2 ^ (64 - s) = lo * 2 ^ s / 18446744073709551616 := by rw [← e64, Nat.mul_div_mul_right _ _ hp]
  have l2 : hi * 2 ^ s + 2 ^ s ≤ y * 2 ^ s := by rw [← Nat.succ_mul]; exact Nat.mul_le_mul_right _ hhi
  refine ⟨by omega, l1, ?_⟩
  have e2 : (hi * 2 ^ s + lo / 2 ^ (64 - s)) * 18446744073709551616 + lo * 2 ^ s % 18446744073709551616 = (hi * 18446744073709551616 + lo) * 2 ^ s := by
    rw [e1, Nat.add_mul, Nat.add_mul, Nat.mul_right_comm hi]
    have := Nat.div_add_mod (lo * 2 ^ s) 18446744073709551616
    omega
  rw [e2, Nat.mul_div_mul_right _ _ hp, Nat.mul_mod_mul_right, Nat.mul_div_cancel _ hp]
  exact ⟨rfl, rfl⟩

/-- The bits above and those below do not meet. -/
theorem or_sum (a b s : Nat) (hb : b < 2 ^ s) : a * 2 ^ s ||| b = a * 2 ^ s + b := by
  rw [Nat.mul_comm]; exact (Nat.two_pow_add_eq_or_of_lt hb a).symm
end Go.Proofs.Ytkkioemlajagjaa
