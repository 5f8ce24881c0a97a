/-
  Plain words about a division of two words by one, half a word at a time, without any Go function. No conditions.
  What math/bits' Len64 and LeadingZeros64 answer, for whatever word. No conditions besides.
  What math/bits' Div64 answers: the quotient of two words by one, and what is left. The conditions: the divisor is above 0 and below 2^63, and the upper word is less than it.
-/
import Derived.Test.YtnomeglccihplaaDoorWideM
import Derived.Lib.BitFns
import Derived.Laws.Bits64b
import Derived.Test.YtnomeglccihplaaDoorChecked
import Derived.WalkKit
import Derived.WalkSpells
import Derived.Lib.Strings
import Derived.Lib.Slices
import Derived.Lib.Small
import Derived.Lib.Walk
import Derived.Deep.Light
import Derived.Deep.LoopGhost
import Derived.Deep.CutBlock
import Derived.Deep.DeepCutAuto
import Derived.Deep.RegionHeld3
import Derived.StillTactics
namespace Go.Proofs.YtnomeglccihplaaDoor
open Go.RowKit
set_option linter.unusedSimpArgs false
set_option linter.unusedVariables false

/-- How far a number must be shifted so that its highest bit stands at the top. -/
theorem bitLen_pow : ∀ (k x : Nat), k ≤ 64 → x ≠ 0 → x < 2 ^ k → x < 2 ^ Lib.bitLen x ∧ 2 ^ Lib.bitLen x ≤ 2 * x ∧ 1 ≤ Lib.bitLen x
  | 0, x, _, h0, h => by simp at h; omega
  | k + 1, x, hk, h0, h => by
    have h64 : x < 2 ^ 64 := Nat.lt_of_lt_of_le h (Nat.pow_le_pow_right (by omega) hk)
    rw [Lib.bitLen_half x h0 h64]
    by_cases h2 : x / 2 = 0
    · rw [h2, show Lib.bitLen 0 = 0 from rfl]
      have : x = 1 := by omega
      subst this; simp
    · have ih := bitLen_pow k (x / 2) (by omega) h2 (by rw [Nat.pow_succ] at h; omega)
      rw [Nat.pow_add, Nat.pow_one]
      omega

/-- Shifted so, a number is from 2^63 up to 2^64. -/
theorem shift_top {y : Nat} (h0 : y ≠ 0) (h : y < 9223372036854775808) : ∃ s : Nat, 64 - Lib.bitLen y = s ∧ Lib.bitLen y + s = 64 ∧ 1 ≤ s ∧ s ≤ 63 ∧ 9223372036854775808 ≤ y * 2 ^ s ∧ y * 2 ^ s < 18446744073709551616 := by
  obtain ⟨h1, h2, h3⟩ := bitLen_pow 63 y (by omega) h0 h
  have h4 := Lib.bitLen_le y 63 (by omega) h
  refine ⟨64 - Lib.bitLen y, rfl, by omega, by omega, by omega, ?_, ?_⟩
  · have e : 2 ^ Lib.bitLen y * 2 ^ (64 - Lib.bitLen y) = 18446744073709551616 := by rw [← Nat.pow_add, show Lib.bitLen y + (64 - Lib.bitLen y) = 64 by omega]
    have := Nat.mul_le_mul_right (2 ^ (64 - Lib.bitLen y)) h2
    rw [e, Nat.mul_assoc] at this
    omega
  · have e : 2 ^ Lib.bitLen y * 2 ^ (64 - Lib.bitLen y) = 18446744073709551616 := by rw [← Nat.pow_add, show Lib.bitLen y + (64 - Lib.bitLen y) = 64 by omega]
    have := Nat.mul_lt_mul_of_pos_right h1 (Nat.two_pow_pos (64 - Lib.bitLen y))
    omega

/-- What holds while a half of the quotient is looked for: n and half a word u, by Y, whose upper half is a and lower half b. -/
def Dig1 (n u a b q r : Nat) : Prop := q * a + r = n ∧ (n * 4294967296 + u) / (a * 4294967296 + b) ≤ q

theorem dig_y (q a b : Nat) : q * (a * 4294967296 + b) = q * a * 4294967296 + q * b := by rw [Nat.mul_add, Nat.mul_assoc]

theorem dig_start {n u a b : Nat} (hu : u < 4294967296) (ha : 2147483648 ≤ a) : Dig1 n u a b (n / a) (n % a) := by
  refine ⟨by rw [Nat.mul_comm]; exact Nat.div_add_mod n a, ?_⟩
  rw [Nat.le_div_iff_mul_le (by omega)]
  have h := Nat.div_mul_le_self (n * 4294967296 + u) (a * 4294967296 + b)
  generalize (n * 4294967296 + u) / (a * 4294967296 + b) = q at *
  rw [dig_y] at h
  generalize q * a = z at *
  omega

theorem dig_lt {n u a b : Nat} (hu : u < 4294967296) (hn : n < a * 4294967296 + b) : (n * 4294967296 + u) / (a * 4294967296 + b) < 4294967296 := by
  rw [Nat.div_lt_iff_lt_mul (by omega)]
  omega

theorem dig_big {n u a b q r : Nat} (h : Dig1 n u a b q r) (hu : u < 4294967296) (hn : n < a * 4294967296 + b) (hq : 4294967296 ≤ q) : Dig1 n u a b (q - 1) (r + a) := by
  obtain ⟨h1, h2⟩ := h
  have := dig_lt (b := b) (a := a) hu hn
  refine ⟨?_, by omega⟩
  obtain ⟨p, rfl⟩ : ∃ p, q = p + 1 := ⟨q - 1, by omega⟩
  rw [Nat.add_mul] at h1
  rw [Nat.add_sub_cancel]; omega

theorem dig_mul {n u a b q r : Nat} (h : Dig1 n u a b q r) (ha : 0 < a) (hq : 4294967296 * r + u < q * b) : 1 ≤ q ∧ Dig1 n u a b (q - 1) (r + a) := by
  obtain ⟨h1, h2⟩ := h
  have hq1 : 1 ≤ q := by
    rcases Nat.eq_zero_or_pos q with rfl | h
    · simp at hq
    · exact h
  have hlt : (n * 4294967296 + u) / (a * 4294967296 + b) < q := by
    rw [Nat.div_lt_iff_lt_mul (by omega), dig_y]
    generalize q * a = z at *; generalize q * b = t at *
    omega
  refine ⟨hq1, ?_, by omega⟩
  obtain ⟨p, rfl⟩ : ∃ p, q = p + 1 := ⟨q - 1, by omega⟩
  rw [Nat.add_mul] at h1
  rw [Nat.add_sub_cancel]; omega

theorem dig_end {n u a b q r : Nat} (h : Dig1 n u a b q r) (ha : 0 < a) (hq : q * b ≤ 4294967296 * r + u) : q = (n * 4294967296 + u) / (a * 4294967296 + b) := by
  obtain ⟨h1, h2⟩ := h
  refine Nat.le_antisymm ?_ h2
  rw [Nat.le_div_iff_mul_le (by omega), dig_y]
  generalize q * a = z at *; generalize q * b = t at *
  omega

theorem dig_out {n u a b q r : Nat} (h : Dig1 n u a b q r) (ha : 0 < a) (hb : b < 4294967296) (hq : q ≤ 4294967296) (hr : 4294967296 ≤ r) : q = (n * 4294967296 + u) / (a * 4294967296 + b) := by
  refine dig_end h ha ?_
  have : q * b ≤ 4294967296 * 4294967295 := Nat.mul_le_mul hq (by omega)
  omega

theorem dig_top {n a b : Nat} (ha : 2147483648 ≤ a) (hb : b < 4294967296) (hn : n < a * 4294967296 + b) : n / a ≤ 4294967297 := by
  have : n / a < 4294967298 := by
    rw [Nat.div_lt_iff_lt_mul (by omega)]
    omega
  omega

theorem left_aux (n u z r : Nat) (h1 : z + r = n * 4294967296 + u) (h2 : r < 18446744073709551616) :
    ((n * 4294967296 % 18446744073709551616 + u) % 18446744073709551616 + (18446744073709551616 - z % 18446744073709551616)) % 18446744073709551616 = r := by omega
/-- What is left behind a half of the quotient, as the words' sums that wrap round tell it. -/
theorem dig_left (n u Y : Nat) (hY : 0 < Y) (hY2 : Y < 18446744073709551616) :
    ((n * 4294967296 % 18446744073709551616 + u) % 18446744073709551616 + (18446744073709551616 - (n * 4294967296 + u) / Y * Y % 18446744073709551616)) % 18446744073709551616 = (n * 4294967296 + u) % Y :=
  left_aux n u _ _ (by rw [Nat.mul_comm]; exact Nat.div_add_mod _ Y) (Nat.lt_trans (Nat.mod_lt _ hY) hY2)

theorem two_aux (N q r u0 Y : Nat) (hY : 0 < Y) (h1 : Y * q + r = N) :
    q * 4294967296 + (r * 4294967296 + u0) / Y = (N * 4294967296 + u0) / Y ∧ (r * 4294967296 + u0) % Y = (N * 4294967296 + u0) % Y := by
  have e2 : N * 4294967296 + u0 = Y * (q * 4294967296) + (r * 4294967296 + u0) := by rw [← h1, Nat.add_mul, Nat.mul_assoc, Nat.add_assoc]
  rw [e2, Nat.mul_add_div hY, Nat.mul_add_mod]
  exact ⟨rfl, rfl⟩
/-- Both halves of the quotient, one behind the other. -/
theorem two_digs (n u1 u0 Y : Nat) (hY : 0 < Y) :
    (n * 4294967296 + u1) / Y * 4294967296 + ((n * 4294967296 + u1) % Y * 4294967296 + u0) / Y = (n * 18446744073709551616 + (u1 * 4294967296 + u0)) / Y ∧
    ((n * 4294967296 + u1) % Y * 4294967296 + u0) % Y = (n * 18446744073709551616 + (u1 * 4294967296 + u0)) % Y := by
  have e : n * 18446744073709551616 + (u1 * 4294967296 + u0) = (n * 4294967296 + u1) * 4294967296 + u0 := by omega
  rw [e]
  exact two_aux _ _ _ u0 Y hY (Nat.div_add_mod _ Y)

/-- Shifting both sides changes no quotient. -/
theorem shifted (hi lo y s : Nat) (hy : 0 < y) (hlo : lo < 18446744073709551616) (hhi : hi < y) (h1 : 1 ≤ s) (h63 : s ≤ 63) (hY : y * 2 ^ s < 18446744073709551616) :
    hi * 2 ^ s + lo / 2 ^ (64 - s) < y * 2 ^ s ∧ lo / 2 ^ (64 - s) < 2 ^ s ∧
    ((hi * 2 ^ s + lo / 2 ^ (64 - s)) * 18446744073709551616 + lo * 2 ^ s % 18446744073709551616) / (y * 2 ^ s) = (hi * 18446744073709551616 + lo) / y ∧
    ((hi * 2 ^ s + lo / 2 ^ (64 - s)) * 18446744073709551616 + lo * 2 ^ s % 18446744073709551616) % (y * 2 ^ s) / 2 ^ s = (hi * 18446744073709551616 + lo) % y := by
  have hp := Nat.two_pow_pos s
  have hp' := Nat.two_pow_pos (64 - s)
  have e64 : 2 ^ (64 - s) * 2 ^ s = 18446744073709551616 := by rw [← Nat.pow_add, show 64 - s + s = 64 by omega]
  have l1 : lo / 2 ^ (64 - s) < 2 ^ s := by rw [Nat.div_lt_iff_lt_mul hp', Nat.mul_comm]; omega
  have e1 : lo / 2 ^ (64 - s) = lo * 2 ^ s / 18446744073709551616 := by rw [← e64, Nat.mul_div_mul_right _ _ hp]
  have l2 : hi * 2 ^ s + 2 ^ s ≤ y * 2 ^ s := by rw [← Nat.succ_mul]; exact Nat.mul_le_mul_right _ hhi
  refine ⟨by omega, l1, ?_⟩
  have e2 : (hi * 2 ^ s + lo / 2 ^ (64 - s)) * 18446744073709551616 + lo * 2 ^ s % 18446744073709551616 = (hi * 18446744073709551616 + lo) * 2 ^ s := by
    rw [e1, Nat.add_mul, Nat.add_mul, Nat.mul_right_comm hi]
    have := Nat.div_add_mod (lo * 2 ^ s) 18446744073709551616
    omega
  rw [e2, Nat.mul_div_mul_right _ _ hp, Nat.mul_mod_mul_right, Nat.mul_div_cancel _ hp]
  exact ⟨rfl, rfl⟩

/-- The bits above and those below do not meet. -/
theorem or_sum (a b s : Nat) (hb : b < 2 ^ s) : a * 2 ^ s ||| b = a * 2 ^ s + b := by
  rw [Nat.mul_comm]; exact (Nat.two_pow_add_eq_or_of_lt hb a).symm
end Go.Proofs.YtnomeglccihplaaDoor

namespace Go.Proofs.YtnomeglccihplaaDoor
open Go.RowKit
set_option linter.unusedSimpArgs false
set_option linter.unusedVariables false

/-- The table's byte is the length of its place. -/
theorem len_at (z : Int) (h0 : 0 ≤ z) (h1 : z ≤ 255) (h : z.toNat < Lib.len8tab.size) : ((Lib.len8tab[z.toNat]'h).toNat : Int) = (Lib.bitLen z.toNat : Int) := by
  rw [← Lib.len8_of z h0 h1]
  unfold Lib.len8
  rw [getElem?_pos Lib.len8tab z.toNat h]
  rfl
theorem len_case (k : Nat) (z x : Int) (h : z.toNat < Lib.len8tab.size) (h0 : 0 ≤ z) (h1 : z ≤ 255) (hk : k ≤ 56) (e : Lib.bitLen x.toNat = k + Lib.bitLen z.toNat) :
    wrap64 ((k : Int) + wrap64 ((Lib.len8tab[z.toNat]'h).toNat : Int)) = (Lib.bitLen x.toNat : Int) := by
  rw [len_at z h0 h1 h, e]
  have := Lib.bitLen_le8' z h0 h1
  generalize Lib.bitLen z.toNat = b at *
  unfold wrap64; omega
theorem len_none (x : Int) (h : x.toNat < Lib.len8tab.size) (h0 : 0 ≤ x) (h1 : x ≤ 255) : wrap64 (wrap64 ((Lib.len8tab[x.toNat]'h).toNat : Int)) = (Lib.bitLen x.toNat : Int) := by
  rw [len_at x h0 h1 h]
  have := Lib.bitLen_le8' x h0 h1
  generalize Lib.bitLen x.toNat = b at *
  unfold wrap64; omega
theorem len_size : (Lib.len8tab.size : Int) = 256 := by rw [Lib.len8tab_size]; rfl

set_option maxHeartbeats 4000000 in
set_option maxRecDepth 100000 in
theorem len64_any (x : Int) (w : World) (h0 : 0 ≤ x) (h1 : x ≤ 18446744073709551615) :
    Calls Tryd.prog 77 #[.int .u64 x] w fun e w' => e = .returned (.int .i64 (Lib.bitLen x.toNat)) ∧ w = w' := by
  go_enter Tryd.func77, Tryd.ntmps77
  go_wp2
  all_goals first
    | (go_ret; refine ⟨congrArg Ending.returned (congrArg (Value.int IntKind.i64) ?_), rfl⟩; go_light)
    | (exfalso; go_light; have hs := len_size; omega)
  all_goals first
    | exact len_case 56 (x / 4294967296 / 65536 / 256) x _ (by omega) (by omega) (by omega) (by rw [show (x / 4294967296 / 65536 / 256).toNat = x.toNat / 72057594037927936 by omega]; exact Lib.bitLen_shift56 x.toNat (by omega) (by omega))
    | exact len_case 48 (x / 4294967296 / 65536) x _ (by omega) (by omega) (by omega) (by rw [show (x / 4294967296 / 65536).toNat = x.toNat / 281474976710656 by omega]; exact Lib.bitLen_shift48 x.toNat (by omega) (by omega))
    | exact len_case 40 (x / 4294967296 / 256) x _ (by omega) (by omega) (by omega) (by rw [show (x / 4294967296 / 256).toNat = x.toNat / 1099511627776 by omega]; exact Lib.bitLen_shift40 x.toNat (by omega) (by omega))
    | exact len_case 32 (x / 4294967296) x _ (by omega) (by omega) (by omega) (by rw [show (x / 4294967296).toNat = x.toNat / 4294967296 by omega]; exact Lib.bitLen_shift32 x.toNat (by omega) (by omega))
    | exact len_case 24 (x / 65536 / 256) x _ (by omega) (by omega) (by omega) (by rw [show (x / 65536 / 256).toNat = x.toNat / 16777216 by omega]; exact Lib.bitLen_shift24 x.toNat (by omega) (by omega))
    | exact len_case 16 (x / 65536) x _ (by omega) (by omega) (by omega) (by rw [show (x / 65536).toNat = x.toNat / 65536 by omega]; exact Lib.bitLen_shift16 x.toNat (by omega) (by omega))
    | exact len_case 8 (x / 256) x _ (by omega) (by omega) (by omega) (by rw [show (x / 256).toNat = x.toNat / 256 by omega]; exact Lib.bitLen_shift8 x.toNat (by omega) (by omega))
    | exact len_none x _ (by omega) (by omega)

set_option maxHeartbeats 400000 in
theorem zeros_any (y s : Nat) (hy : y < 18446744073709551616) (hs : Lib.bitLen y + s = 64) (w : World) :
    Calls Tryd.prog 97 #[.int .u64 (y : Int)] w fun e w' => e = .returned (.int .i64 (s : Int)) ∧ w = w' := by
  have hL := fun w => len64_any (y : Int) w (by omega) (by omega)
  have e : (64 : Int) - (Lib.bitLen y : Nat) = (s : Int) := by omega
  rw [Int.toNat_natCast] at hL
  generalize Lib.bitLen y = b at *
  go_enter Tryd.func97, Tryd.ntmps97
  go_wp2_with fail
  refine (hL _).mono ?_; rintro e w1 ⟨rfl, rfl⟩
  go_wp2_with fail
  go_ret
  refine ⟨congrArg Ending.returned (congrArg (Value.int IntKind.i64) ?_), rfl⟩
  rfl
end Go.Proofs.YtnomeglccihplaaDoor

namespace Go.Proofs.YtnomeglccihplaaDoor
open Go.RowKit
set_option linter.unusedSimpArgs false
set_option linter.unusedVariables false

set_option maxHeartbeats 1000000 in
theorem div64_small (lo y : Int) (hy0 : 0 < y) (hl0 : 0 ≤ lo) (hlo : lo < 18446744073709551616) (w : World) :
    Calls Tryd.prog 92 #[.int .u64 0, .int .u64 lo, .int .u64 y] w fun e w' => e = .returned (.tuple #[.int .u64 (lo / y), .int .u64 (lo % y)]) ∧ Below w.heap.size w w' := by
  have e0 : (y == 0) = false := by simp; omega
  have e2 : ¬ y = 0 := by omega
  have e1 : ¬ y ≤ 0 := by omega
  have t1 : IntKind.u64.wrap (lo.tdiv y) = lo / y := by
    rw [Int.tdiv_eq_ediv_of_nonneg hl0, IntKind.wrap_u64]
    have := Int.ediv_nonneg hl0 (Int.le_of_lt hy0)
    have := Int.ediv_le_self y hl0
    omega
  have t2 : lo.tmod y = lo % y := Int.tmod_eq_emod_of_nonneg hl0
  generalize lo / y = q at *; generalize lo % y = r at *
  clear hl0 hlo hy0
  go_enter Tryd.func92, Tryd.ntmps92
  go_wp2
  go_region
  go_wp2
  go_ret2
  exact ⟨rfl, (Below.refl _ _).drew⟩

theorem round_big {n u a b q r : Nat} (h : Dig1 n u a b q r) (hu : u < 4294967296) (ha : 2147483648 ≤ a) (ha2 : a < 4294967296) (hb : b < 4294967296) (hn : n < a * 4294967296 + b) (hr : r < 4294967296) (hq : 4294967296 ≤ q) (hq2 : q ≤ 4294967297) :
    ∃ q' r' : Nat, IntKind.u64.wrap ((q : Int) - 1) = (q' : Int) ∧ IntKind.u64.wrap ((r : Int) + a) = (r' : Int) ∧ Dig1 n u a b q' r' ∧ q' < q ∧ q' ≤ 4294967297 ∧ (4294967296 ≤ r' → q' = (n * 4294967296 + u) / (a * 4294967296 + b)) := by
  have h' := dig_big h hu hn hq
  refine ⟨q - 1, r + a, by rw [IntKind.wrap_u64]; omega, by rw [IntKind.wrap_u64]; omega, h', by omega, by omega, fun h1 => dig_out h' (by omega) hb (by omega) h1⟩
theorem round_mul {n u a b q r : Nat} (h : Dig1 n u a b q r) (hu : u < 4294967296) (ha : 2147483648 ≤ a) (ha2 : a < 4294967296) (hb : b < 4294967296) (hr : r < 4294967296) (hq : q < 4294967296) (hm : 4294967296 * r + u < q * b) :
    ∃ q' r' : Nat, IntKind.u64.wrap ((q : Int) - 1) = (q' : Int) ∧ IntKind.u64.wrap ((r : Int) + a) = (r' : Int) ∧ Dig1 n u a b q' r' ∧ q' < q ∧ q' ≤ 4294967297 ∧ (4294967296 ≤ r' → q' = (n * 4294967296 + u) / (a * 4294967296 + b)) := by
  obtain ⟨h1, h'⟩ := dig_mul h (by omega) hm
  refine ⟨q - 1, r + a, by rw [IntKind.wrap_u64]; omega, by rw [IntKind.wrap_u64]; omega, h', by omega, by omega, fun h1 => dig_out h' (by omega) hb (by omega) h1⟩
theorem round_words {u b q r : Nat} (hu : u < 4294967296) (hb : b < 4294967296) (hr : r < 4294967296) (hq : q < 4294967296) :
    IntKind.u64.wrap ((q : Int) * b) = ((q * b : Nat) : Int) ∧ IntKind.u64.wrap (4294967296 * (r : Int)) = 4294967296 * (r : Int) ∧ IntKind.u64.wrap (4294967296 * (r : Int) + u) = 4294967296 * (r : Int) + u := by
  have : q * b ≤ 4294967295 * 4294967295 := Nat.mul_le_mul (by omega) (by omega)
  refine ⟨?_, ?_, ?_⟩
  · rw [← Int.natCast_mul, IntKind.wrap_u64]; omega
  · rw [IntKind.wrap_u64]; omega
  · rw [IntKind.wrap_u64]; omega

/-- What holds at a loop's head: the half of the quotient that is tried, and what is left of the upper half's division. -/
def HalfRel (n u a b : Nat) (w : World) (k : Nat) (q r : Value) (wr : World) : Prop :=
  ∃ Q R : Nat, k = Q ∧ q = .int .u64 (Q : Int) ∧ r = .int .u64 (R : Int) ∧ Dig1 n u a b Q R ∧ R < 4294967296 ∧ Q ≤ 4294967297 ∧ w = wr

set_option maxHeartbeats 4000000 in
set_option maxRecDepth 100000 in
theorem div64_great (hi lo y s Y : Int) (n a b u1 u0 m q1 q0 Q0 R0 Q0' R0' : Nat) (u res rem : Int) (hhi : hi < y) (e0 : (y == 0) = false) (e2 : (hi == 0) = false) (h1 : 1 ≤ s) (h63 : s ≤ 63) (eY : IntKind.u64.wrap (y * 2 ^ s.toNat) = Y) (eA : Y / 4294967296 = (a : Int)) (eB : bits .and .u64 Y 4294967295 = (b : Int)) (e3 : ¬ (a : Int) = 0)
   (eN : bits .or .u64 (IntKind.u64.wrap (hi * 2 ^ s.toNat)) (lo / 2 ^ (64 - s).toNat) = (n : Int)) (eU : IntKind.u64.wrap (lo * 2 ^ s.toNat) = u) (eU1 : u / 4294967296 = (u1 : Int)) (eU0 : bits .and .u64 u 4294967295 = (u0 : Int))
   (eQ : IntKind.u64.wrap ((n : Int) / a) = (Q0 : Int)) (eR : IntKind.u64.wrap ((n : Int) - IntKind.u64.wrap ((Q0 : Int) * a)) = (R0 : Int))
   (eM : IntKind.u64.wrap (IntKind.u64.wrap (IntKind.u64.wrap ((n : Int) * 4294967296) + u1) - IntKind.u64.wrap ((q1 : Int) * Y)) = (m : Int))
   (eQ' : IntKind.u64.wrap ((m : Int) / a) = (Q0' : Int)) (eR' : IntKind.u64.wrap ((m : Int) - IntKind.u64.wrap ((Q0' : Int) * a)) = (R0' : Int))
   (eS : IntKind.u64.wrap (IntKind.u64.wrap ((q1 : Int) * 4294967296) + q0) = res) (eT : IntKind.u64.wrap (IntKind.u64.wrap (IntKind.u64.wrap ((m : Int) * 4294967296) + u0) - IntKind.u64.wrap ((q0 : Int) * Y)) / 2 ^ s.toNat = rem)
   (hu1 : u1 < 4294967296) (hu0 : u0 < 4294967296) (ha : 2147483648 ≤ a) (ha2 : a < 4294967296) (hb : b < 4294967296) (hn : n < a * 4294967296 + b) (hm : m < a * 4294967296 + b)
   (dq1 : (n * 4294967296 + u1) / (a * 4294967296 + b) = q1) (dq0 : (m * 4294967296 + u0) / (a * 4294967296 + b) = q0)
   (dS : Dig1 n u1 a b Q0 R0) (rS : R0 < 4294967296) (qS : Q0 ≤ 4294967297) (dS' : Dig1 m u0 a b Q0' R0') (rS' : R0' < 4294967296) (qS' : Q0' ≤ 4294967297)
   (hZ : ∀ w, Calls Tryd.prog 97 #[.int .u64 y] w fun e w' => e = .returned (.int .i64 s) ∧ w = w') (w : World) :
    Calls Tryd.prog 92 #[.int .u64 hi, .int .u64 lo, .int .u64 y] w fun e w' => e = .returned (.tuple #[.int .u64 res, .int .u64 rem]) ∧ w = w' := by
  have H0 : Hid (HalfRel n u1 a b w Q0 (.int .u64 (Q0 : Int)) (.int .u64 (R0 : Int)) w) := ⟨Q0, R0, rfl, rfl, rfl, dS, rS, qS, rfl⟩
  have H1 : Hid (HalfRel m u0 a b w Q0' (.int .u64 (Q0' : Int)) (.int .u64 (R0' : Int)) w) := ⟨Q0', R0', rfl, rfl, rfl, dS', rS', qS', rfl⟩
  have HD := Lib.hid (And.intro dq1 dq0)
  have HB := Lib.hid (And.intro hu1 (And.intro hu0 (And.intro ha (And.intro ha2 (And.intro hb (And.intro hn hm))))))
  clear dS rS qS dS' rS' qS' dq1 dq0 hu1 hu0 ha ha2 hb hn hm
  go_enter Tryd.func92, Tryd.ntmps92
  go_wp2_with fail
  refine (hZ _).mono ?_; rintro e w1 ⟨rfl, rfl⟩
  go_upto_block 0 with fail
  go_cut [15, 16] (fun q r wx => q = .int .u64 (q1 : Int) ∧ w = wx)
  case first =>
    go_wp2_with fail
    go_loopg [15, 16] Q0 (fun k q r wr => HalfRel n u1 a b w k q r wr)
    case atStart => exact H0.out
    case round =>
      obtain ⟨Q, R, hk, rfl, rfl, hd, hR, hQ, rfl⟩ := hrel
      obtain ⟨hu1, hu0, ha, ha2, hb, hn, hm⟩ := HB.out
      have HQ := Lib.hid (And.intro hd (And.intro hR hQ))
      by_cases c1 : 4294967296 ≤ Q
      · obtain ⟨Q', R', x1, x2, hd', hlt, hQ', hout⟩ := round_big hd hu1 ha ha2 hb hn hR c1 hQ
        have HX := Lib.hid (And.intro hd' (And.intro (show Q' < gk by omega) (And.intro hQ' hout)))
        have c1' : 4294967296 ≤ (Q : Int) := by omega
        clear hk hd hR hQ hd' hlt hQ' hout hu1 hu0 ha ha2 hb hn hm c1
        by_cases c3 : 4294967296 ≤ R'
        · have c3' : 4294967296 ≤ (R' : Int) := by omega
          clear c3
          go_wp2_with fail
          go_meet
          refine ⟨?_, rfl⟩
          rw [HX.out.2.2.2 (by omega), HD.out.1]
        · have c3' : ¬ 4294967296 ≤ (R' : Int) := by omega
          clear c3
          go_wp2_with fail
          go_roundg Q'
          case measure => exact HX.out.2.1
          case rel => exact ⟨Q', R', rfl, rfl, rfl, HX.out.1, by omega, HX.out.2.2.1, rfl⟩
      · obtain ⟨x3, x4, x5⟩ := round_words (u := u1) (b := b) (q := Q) (r := R) hu1 hb hR (by omega)
        have c1' : ¬ 4294967296 ≤ (Q : Int) := by omega
        by_cases c2 : 4294967296 * R + u1 < Q * b
        · obtain ⟨Q', R', x1, x2, hd', hlt, hQ', hout⟩ := round_mul hd hu1 ha ha2 hb hR (by omega) c2
          have HX := Lib.hid (And.intro hd' (And.intro (show Q' < gk by omega) (And.intro hQ' hout)))
          have c2' : 4294967296 * (R : Int) + (u1 : Int) < ((Q * b : Nat) : Int) := by omega
          clear hk hd hR hQ hd' hlt hQ' hout hu1 hu0 ha ha2 hb hn hm c1 c2
          generalize ((Q * b : Nat) : Int) = P at *
          by_cases c3 : 4294967296 ≤ R'
          · have c3' : 4294967296 ≤ (R' : Int) := by omega
            clear c3
            go_wp2_with fail
            go_meet
            refine ⟨?_, rfl⟩
            rw [HX.out.2.2.2 (by omega), HD.out.1]
          · have c3' : ¬ 4294967296 ≤ (R' : Int) := by omega
            clear c3
            go_wp2_with fail
            go_roundg Q'
            case measure => exact HX.out.2.1
            case rel => exact ⟨Q', R', rfl, rfl, rfl, HX.out.1, by omega, HX.out.2.2.1, rfl⟩
        · have hend := dig_end hd (by omega) (by omega)
          have HX := Lib.hid hend
          have c2' : ¬ 4294967296 * (R : Int) + (u1 : Int) < ((Q * b : Nat) : Int) := by omega
          clear hk hd hR hQ hu1 hu0 ha ha2 hb hn hm c1 c2 hend
          generalize ((Q * b : Nat) : Int) = P at *
          go_wp2_with fail
          go_meet
          refine ⟨?_, rfl⟩
          rw [HX.out, HD.out.1]
  case rest =>
    obtain ⟨rfl, rfl⟩ := hcut
    go_upto_block 2 with fail
    go_cut [18, 16] (fun q r wx => q = .int .u64 (q0 : Int) ∧ w = wx)
    case first =>
      go_wp2_with fail
      go_loopg [18, 16] Q0' (fun k q r wr => HalfRel m u0 a b w k q r wr)
      case atStart => exact H1.out
      case round =>
        obtain ⟨Q, R, hk, rfl, rfl, hd, hR, hQ, rfl⟩ := hrel
        obtain ⟨hu1, hu0, ha, ha2, hb, hn, hm⟩ := HB.out
        have HQ := Lib.hid (And.intro hd (And.intro hR hQ))
        by_cases c1 : 4294967296 ≤ Q
        · obtain ⟨Q', R', x1, x2, hd', hlt, hQ', hout⟩ := round_big hd hu0 ha ha2 hb hm hR c1 hQ
          have HX := Lib.hid (And.intro hd' (And.intro (show Q' < gk by omega) (And.intro hQ' hout)))
          have c1' : 4294967296 ≤ (Q : Int) := by omega
          clear hk hd hR hQ hd' hlt hQ' hout hu1 hu0 ha ha2 hb hn hm c1
          by_cases c3 : 4294967296 ≤ R'
          · have c3' : 4294967296 ≤ (R' : Int) := by omega
            clear c3
            go_wp2_with fail
            go_meet
            refine ⟨?_, rfl⟩
            rw [HX.out.2.2.2 (by omega), HD.out.2]
          · have c3' : ¬ 4294967296 ≤ (R' : Int) := by omega
            clear c3
            go_wp2_with fail
            go_roundg Q'
            case measure => exact HX.out.2.1
            case rel => exact ⟨Q', R', rfl, rfl, rfl, HX.out.1, by omega, HX.out.2.2.1, rfl⟩
        · obtain ⟨x3, x4, x5⟩ := round_words (u := u0) (b := b) (q := Q) (r := R) hu0 hb hR (by omega)
          have c1' : ¬ 4294967296 ≤ (Q : Int) := by omega
          by_cases c2 : 4294967296 * R + u0 < Q * b
          · obtain ⟨Q', R', x1, x2, hd', hlt, hQ', hout⟩ := round_mul hd hu0 ha ha2 hb hR (by omega) c2
            have HX := Lib.hid (And.intro hd' (And.intro (show Q' < gk by omega) (And.intro hQ' hout)))
            have c2' : 4294967296 * (R : Int) + (u0 : Int) < ((Q * b : Nat) : Int) := by omega
            clear hk hd hR hQ hd' hlt hQ' hout hu1 hu0 ha ha2 hb hn hm c1 c2
            generalize ((Q * b : Nat) : Int) = P at *
            by_cases c3 : 4294967296 ≤ R'
            · have c3' : 4294967296 ≤ (R' : Int) := by omega
              clear c3
              go_wp2_with fail
              go_meet
              refine ⟨?_, rfl⟩
              rw [HX.out.2.2.2 (by omega), HD.out.2]
            · have c3' : ¬ 4294967296 ≤ (R' : Int) := by omega
              clear c3
              go_wp2_with fail
              go_roundg Q'
              case measure => exact HX.out.2.1
              case rel => exact ⟨Q', R', rfl, rfl, rfl, HX.out.1, by omega, HX.out.2.2.1, rfl⟩
          · have hend := dig_end hd (by omega) (by omega)
            have HX := Lib.hid hend
            have c2' : ¬ 4294967296 * (R : Int) + (u0 : Int) < ((Q * b : Nat) : Int) := by omega
            clear hk hd hR hQ hu1 hu0 ha ha2 hb hn hm c1 c2 hend
            generalize ((Q * b : Nat) : Int) = P at *
            go_wp2_with fail
            go_meet
            refine ⟨?_, rfl⟩
            rw [HX.out, HD.out.2]
    case rest =>
      obtain ⟨rfl, rfl⟩ := hcut
      go_wp2_with fail
      go_ret2
      exact ⟨rfl, rfl⟩
end Go.Proofs.YtnomeglccihplaaDoor
