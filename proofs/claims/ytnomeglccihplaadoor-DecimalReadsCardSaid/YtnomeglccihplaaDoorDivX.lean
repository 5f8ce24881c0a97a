/-
  What math/bits' Div64 answers: the quotient of two words by one, and what is left. The conditions: the divisor is above 0 and below 2^63, and the upper word is less than it.
-/
import Derived.Test.YtnomeglccihplaaDoorDivG
import Derived.Test.YtnomeglccihplaaDoorWideB
namespace Go.Proofs.YtnomeglccihplaaDoor
open Go.RowKit
set_option linter.unusedSimpArgs false
set_option linter.unusedVariables false

theorem sum_aux (n u : Nat) : (n * 4294967296 + u / 4294967296) * 4294967296 + u % 4294967296 = n * 18446744073709551616 + u := by omega
theorem left_int (N u z m : Nat) (h1 : z + m = N * 4294967296 + u) (h2 : m < 18446744073709551616) :
    IntKind.u64.wrap (IntKind.u64.wrap (IntKind.u64.wrap ((N : Int) * 4294967296) + u) - IntKind.u64.wrap (z : Int)) = (m : Int) := by
  simp only [IntKind.wrap_u64]; omega
theorem pow_n (s : Nat) : (2 : Int) ^ s = ((2 ^ s : Nat) : Int) := by rw [Int.natCast_pow]; rfl
theorem quo_n (N a : Nat) (h : N / a < 18446744073709551616) : IntKind.u64.wrap ((N : Int) / a) = ((N / a : Nat) : Int) := by rw [← Int.natCast_ediv]; exact wrap_n _ h
theorem rem_n (N a : Nat) (h : N < 18446744073709551616) : IntKind.u64.wrap ((N : Int) - IntKind.u64.wrap (((N / a : Nat) : Int) * a)) = ((N % a : Nat) : Int) := by
  have h1 := Nat.div_add_mod N a
  rw [Nat.mul_comm] at h1
  rw [← Int.natCast_mul]
  generalize N / a * a = z at *; generalize N % a = r at *
  simp only [IntKind.wrap_u64]; omega
theorem res_n (p q : Nat) (h : p * 4294967296 + q < 18446744073709551616) : IntKind.u64.wrap (IntKind.u64.wrap ((p : Int) * 4294967296) + q) = ((p * 4294967296 + q : Nat) : Int) := by
  simp only [IntKind.wrap_u64]; omega
theorem or_n (hi lo s : Nat) (h1 : hi * 2 ^ s < 18446744073709551616) (h2 : lo / 2 ^ (64 - s) < 2 ^ s) (h3 : hi * 2 ^ s + lo / 2 ^ (64 - s) < 18446744073709551616) (hs : s ≤ 63) :
    bits .or .u64 (IntKind.u64.wrap ((hi : Int) * 2 ^ (s : Int).toNat)) ((lo : Int) / 2 ^ (64 - (s : Int)).toNat) = ((hi * 2 ^ s + lo / 2 ^ (64 - s) : Nat) : Int) := by
  rw [Int.toNat_natCast, show (64 - (s : Int)).toNat = 64 - s by omega, pow_n, pow_n, ← Int.natCast_mul, ← Int.natCast_ediv, wrap_n _ h1, bits_or_u64_nat _ _ h1 (by omega), or_sum _ _ _ h2]

set_option maxRecDepth 100000 in
theorem div64_any (hi lo y : Nat) (hy0 : 0 < y) (hy : y < 9223372036854775808) (hlo : lo < 18446744073709551616) (hhi : hi < y) (w : World) :
    Calls Tryd.prog 92 #[.int .u64 (hi : Int), .int .u64 (lo : Int), .int .u64 (y : Int)] w fun e w' =>
      e = .returned (.tuple #[.int .u64 (((hi * 18446744073709551616 + lo) / y : Nat) : Int), .int .u64 (((hi * 18446744073709551616 + lo) % y : Nat) : Int)]) ∧ Below w.heap.size w w' := by
  rcases Nat.eq_zero_or_pos hi with rfl | h0
  · have h := div64_small (lo : Int) (y : Int) (by omega) (by omega) (by omega) w
    rw [Nat.zero_mul, Nat.zero_add, Int.natCast_ediv, Int.natCast_emod]
    exact h
  · obtain ⟨s, -, hs, h1, h63, hY1, hY2⟩ := shift_top (y := y) (by omega) hy
    obtain ⟨g1, g2, g3, g4⟩ := shifted hi lo y s hy0 hlo hhi h1 h63 hY2
    have hZ := zeros_any y s (by omega) hs
    have gN := or_n hi lo s (Nat.lt_trans (Nat.lt_of_le_of_lt (Nat.le_add_right _ _) g1) hY2) g2 (Nat.lt_trans g1 hY2) h63
    have gY : IntKind.u64.wrap ((y : Int) * 2 ^ (s : Int).toNat) = ((y * 2 ^ s : Nat) : Int) := by rw [Int.toNat_natCast, pow_n, ← Int.natCast_mul]; exact wrap_n _ hY2
    have gU : IntKind.u64.wrap ((lo : Int) * 2 ^ (s : Int).toNat) = ((lo * 2 ^ s % 18446744073709551616 : Nat) : Int) := by rw [Int.toNat_natCast, pow_n, ← Int.natCast_mul]; exact wrap_m _
    have hU : lo * 2 ^ s % 18446744073709551616 < 18446744073709551616 := Nat.mod_lt _ (by omega)
    generalize hi * 2 ^ s + lo / 2 ^ (64 - s) = n at *
    generalize y * 2 ^ s = Y at *
    generalize lo * 2 ^ s % 18446744073709551616 = u at *
    have hab : Y / 4294967296 * 4294967296 + Y % 4294967296 = Y := by omega
    have hp : 0 < Y := by omega
    obtain ⟨q1, hq1⟩ : ∃ q1, (n * 4294967296 + u / 4294967296) / Y = q1 := ⟨_, rfl⟩
    obtain ⟨m, hm⟩ : ∃ m, (n * 4294967296 + u / 4294967296) % Y = m := ⟨_, rfl⟩
    have d1 : Y * q1 + m = n * 4294967296 + u / 4294967296 := by rw [← hq1, ← hm]; exact Nat.div_add_mod _ Y
    have m1 : m < Y := by rw [← hm]; exact Nat.mod_lt _ hp
    have q1K : q1 < 4294967296 := by
      have := dig_lt (n := n) (u := u / 4294967296) (a := Y / 4294967296) (b := Y % 4294967296) (by omega) (by omega)
      rwa [hab, hq1] at this
    obtain ⟨q0, hq0⟩ : ∃ q0, (m * 4294967296 + u % 4294967296) / Y = q0 := ⟨_, rfl⟩
    obtain ⟨r, hr⟩ : ∃ r, (m * 4294967296 + u % 4294967296) % Y = r := ⟨_, rfl⟩
    have d0 : Y * q0 + r = m * 4294967296 + u % 4294967296 := by rw [← hq0, ← hr]; exact Nat.div_add_mod _ Y
    have m0 : r < Y := by rw [← hr]; exact Nat.mod_lt _ hp
    have q0K : q0 < 4294967296 := by
      have := dig_lt (n := m) (u := u % 4294967296) (a := Y / 4294967296) (b := Y % 4294967296) (by omega) (by omega)
      rwa [hab, hq0] at this
    have e : (n * 4294967296 + u / 4294967296) * 4294967296 + u % 4294967296 = n * 18446744073709551616 + u := sum_aux n u
    have t := two_aux (n * 4294967296 + u / 4294967296) q1 m (u % 4294967296) Y hp d1
    have t1 : q1 * 4294967296 + q0 = (hi * 18446744073709551616 + lo) / y := by
      rw [← hq0]; exact (t.1.trans (congrArg (fun z => z / Y) e)).trans g3
    have t2 : r / 2 ^ s = (hi * 18446744073709551616 + lo) % y := by
      rw [← hr]; exact (congrArg (fun z => z / 2 ^ s) (t.2.trans (congrArg (fun z => z % Y) e))).trans g4
    rw [Nat.mul_comm] at d1 d0
    clear t e g3 g4
    have a1 : 2147483648 ≤ Y / 4294967296 := by omega
    have a2 : Y / 4294967296 < 4294967296 := by omega
    have hb : Y % 4294967296 < 4294967296 := by omega
    have b1 := dig_top a1 hb (n := n) (by omega)
    have b2 := dig_top a1 hb (n := m) (by omega)
    have r1 : n % (Y / 4294967296) < Y / 4294967296 := Nat.mod_lt _ (by omega)
    have r2 : m % (Y / 4294967296) < Y / 4294967296 := Nat.mod_lt _ (by omega)
    refine (div64_great (hi : Int) (lo : Int) (y : Int) (s : Int) (Y : Int) n (Y / 4294967296) (Y % 4294967296) (u / 4294967296) (u % 4294967296) m q1 q0 (n / (Y / 4294967296)) (n % (Y / 4294967296)) (m / (Y / 4294967296)) (m % (Y / 4294967296)) (u : Int)
      (((hi * 18446744073709551616 + lo) / y : Nat) : Int) (((hi * 18446744073709551616 + lo) % y : Nat) : Int)
      (by omega) (by simp; omega) (by simp; omega) (by omega) (by omega) gY (by omega) (mask_n Y hY2) (by omega) gN gU (by omega) (mask_n u hU)
      (quo_n _ _ (by omega)) (rem_n _ _ (by omega)) ?_ (quo_n _ _ (by omega)) (rem_n _ _ (by omega)) ?_ ?_ (by omega) (by omega) a1 a2 hb (by omega) (by omega) (by rw [hab]; exact hq1) (by rw [hab]; exact hq0)
      (dig_start (by omega) a1) (by omega) b1 (dig_start (by omega) a1) (by omega) b2 hZ w).mono ?_
    · rw [← Int.natCast_mul]; exact left_int _ _ _ _ d1 (by omega)
    · rw [res_n _ _ (by omega), t1]
    · rw [← Int.natCast_mul, left_int _ _ _ _ d0 (by omega), Int.toNat_natCast, pow_n, ← Int.natCast_ediv, t2]
    · rintro e w' ⟨rfl, rfl⟩
      exact ⟨rfl, Below.refl _ _⟩
end Go.Proofs.YtnomeglccihplaaDoor
