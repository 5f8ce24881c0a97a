/-
  What wide's Mul answers: the product, for whatever numbers in range. No conditions besides.
-/
import Derived.Test.YtogckefmmjbapaaWideA0
import Derived.Lib.Mul64
import Derived.Laws.Bits64b
namespace Go.Proofs.Ytogckefmmjbapaa
open Go.RowKit
set_option linter.unusedSimpArgs false

set_option maxHeartbeats 400000 in
theorem w_turn_t (w : World) :
    Calls Try.prog 64 #[.bool true] w fun e w' => e = .returned (.func (.func 72) #[] #[]) ∧ w = w' := by
  go_enter Try.func64, Try.ntmps64
  go_wp2
  go_ret
  exact ⟨rfl, rfl⟩
set_option maxHeartbeats 400000 in
theorem w_turn_f (w : World) :
    Calls Try.prog 64 #[.bool false] w fun e w' => e = .returned (.func (.func 73) #[] #[]) ∧ w = w' := by
  go_enter Try.func64, Try.ntmps64
  go_wp2
  go_ret
  exact ⟨rfl, rfl⟩

theorem mask_n (a : Nat) (ha : a < 18446744073709551616) : bits .and .u64 (a : Int) 4294967295 = ((a % 4294967296 : Nat) : Int) := by
  have h := bits_and_u64_nat a 4294967295 ha (by omega)
  rw [show a &&& 4294967295 = a % 4294967296 from Nat.and_two_pow_sub_one_eq_mod a 32] at h
  exact h
theorem div_n (a : Nat) : (a : Int) / 4294967296 = ((a / 4294967296 : Nat) : Int) := by omega
theorem mul_n (a b : Nat) : (a : Int) * (b : Int) = ((a * b : Nat) : Int) := (Int.natCast_mul a b).symm
theorem add_n (a b : Nat) : (a : Int) + (b : Int) = ((a + b : Nat) : Int) := (Int.natCast_add a b).symm
theorem wrap_n (a : Nat) (ha : a < 18446744073709551616) : IntKind.u64.wrap (a : Int) = (a : Int) := by rw [IntKind.wrap_u64]; omega
theorem wrap_m (a : Nat) : IntKind.u64.wrap (a : Int) = ((a % 18446744073709551616 : Nat) : Int) := by rw [IntKind.wrap_u64]; omega

set_option maxHeartbeats 1000000 in
theorem mul64_any (x y : Nat) (hx : x < 18446744073709551616) (hy : y < 18446744073709551616) (w : World) :
    Calls Try.prog 62 #[.int .u64 x, .int .u64 y] w fun e w' => e = .returned (.tuple #[.int .u64 ((x * y / 18446744073709551616 : Nat) : Int), .int .u64 ((x * y % 18446744073709551616 : Nat) : Int)]) ∧ w = w' := by
  obtain ⟨bd, bt, bw, hhi⟩ := Lib.mul64_hi x y hx hy
  have ba := Lib.half_mul_le (a := x / 4294967296) (b := y / 4294967296) (by omega) (by omega)
  have bb := Lib.half_mul_le (a := x / 4294967296) (b := y % 4294967296) (by omega) (by omega)
  have bc := Lib.half_mul_le (a := x % 4294967296) (b := y / 4294967296) (by omega) (by omega)
  have ba' : x / 4294967296 * (y / 4294967296) < 18446744073709551616 := by omega
  have bb' : x / 4294967296 * (y % 4294967296) < 18446744073709551616 := by omega
  have bc' : x % 4294967296 * (y / 4294967296) < 18446744073709551616 := by omega
  have bh1 : x / 4294967296 * (y / 4294967296) + (x / 4294967296 * (y % 4294967296) + x % 4294967296 * (y % 4294967296) / 4294967296) / 4294967296 < 18446744073709551616 := by omega
  have bh : x / 4294967296 * (y / 4294967296) + (x / 4294967296 * (y % 4294967296) + x % 4294967296 * (y % 4294967296) / 4294967296) / 4294967296 + ((x / 4294967296 * (y % 4294967296) + x % 4294967296 * (y % 4294967296) / 4294967296) % 4294967296 + x % 4294967296 * (y / 4294967296)) / 4294967296 < 18446744073709551616 := by omega
  go_enter Try.func62, Try.ntmps62
  go_wp2
  simp only [mask_n x hx, mask_n y hy, div_n, mul_n, add_n, wrap_n _ bd, wrap_n _ bb', wrap_n _ bt, mask_n _ bt, wrap_n _ bc', wrap_n _ bw, wrap_n _ ba', wrap_n _ bh1, wrap_n _ bh, wrap_m (x * y)]
  rw [hhi]
  go_ret2
  exact ⟨rfl, rfl⟩

theorem field_lo (h l : Int) (w : World) : (Instr.field 105 (.agg #[.int .i64 h, .int .u64 l]) 1).run Try.prog w = .ok (.int .u64 l) w := by kernel_rfl

theorem lo_abs {n : Int} (h : InR n) : vlo n.natAbs = n.natAbs := by unfold InR at h; unfold vlo; omega

set_option maxHeartbeats 400000 in
theorem w_size (n : Int) (h : InR n) (w : World) :
    Calls Try.prog 63 #[.int .i64 n] w fun e w' => e = .returned (.int .u64 (n.natAbs : Nat)) ∧ Below w.heap.size w w' := by
  have hfd := field_lo
  have e1 := lo_abs h
  have hO := w_of n h
  by_cases hn : n < 0
  · have e2 : ((n.natAbs : Nat) : Int) = -n := by omega
    rw [e2] at e1 ⊢
    have hT := w_turn_t
    have hP := w_opposite n
    rw [e1] at hP
    generalize vlo n = al at *; generalize vhi n = ah at *; generalize vhi (-n) = bh at *
    go_enter Try.func63, Try.ntmps63
    go_wp2_with fail
    refine (hT _).mono ?_; rintro e w1 ⟨rfl, rfl⟩
    go_wp2_with fail
    refine (hO _).mono ?_; rintro e w1 ⟨rfl, hb1⟩
    go_wp2_with fail
    refine (hP _).mono ?_; rintro e w2 ⟨rfl, hb2⟩
    go_wp2_with fail
    go_ret
    exact ⟨rfl, hb1.trans (hb2.mono hb1.size)⟩
  · have e2 : ((n.natAbs : Nat) : Int) = n := by omega
    have h0 : 0 ≤ n := by omega
    rw [e2] at e1 ⊢
    have hT : ∀ w, Calls Try.prog 64 #[.bool (decide (n < 0))] w fun e w' => e = .returned (.func (.func 73) #[] #[]) ∧ w = w' := by
      rw [decide_eq_false hn]; exact w_turn_f
    have hP := w_itself n
    rw [e1] at hP hO
    generalize vhi n = ah at *
    clear hn
    go_enter Try.func63, Try.ntmps63
    go_wp2_with fail
    refine (hT _).mono ?_; rintro e w1 ⟨rfl, rfl⟩
    go_wp2_with fail
    refine (hO _).mono ?_; rintro e w1 ⟨rfl, hb1⟩
    go_wp2_with fail
    refine (hP _).mono ?_; rintro e w2 ⟨rfl, hb2⟩
    go_wp2_with fail
    go_ret
    exact ⟨rfl, hb1.trans (hb2.mono hb1.size)⟩

theorem abs_lt {n : Int} (h : InR n) : n.natAbs < 18446744073709551616 := by unfold InR at h; omega
theorem up_wrap (N : Nat) : wrap64 ((N / 18446744073709551616 : Nat) : Int) = vhi (N : Int) := by unfold vhi; rfl
theorem lo_wrap (N : Nat) : ((N % 18446744073709551616 : Nat) : Int) = vlo (N : Int) := by unfold vlo; omega

set_option maxHeartbeats 1000000 in
theorem w_mul (a b : Int) (ha : InR a) (hb : InR b) (w : World) :
    Calls Try.prog 49 #[.int .i64 a, .int .i64 b] w fun e w' => e = .returned (.agg #[.int .i64 (vhi (a * b)), .int .u64 (vlo (a * b))]) ∧ Below w.heap.size w w' := by
  have sa := w_size a ha; have sb := w_size b hb
  have hM := mul64_any a.natAbs b.natAbs (abs_lt ha) (abs_lt hb)
  have hU := up_wrap (a.natAbs * b.natAbs); have hL := lo_wrap (a.natAbs * b.natAbs)
  clear ha hb
  rcases Int.lt_or_le a 0 with ha | ha <;> rcases Int.lt_or_le b 0 with hb | hb
  · have HE : Hid (((a.natAbs * b.natAbs : Nat) : Int) = a * b) := by
      show ((a.natAbs * b.natAbs : Nat) : Int) = a * b
      rw [Int.natCast_mul, show ((a.natAbs : Nat) : Int) = -a by omega, show ((b.natAbs : Nat) : Int) = -b by omega]
      exact Int.neg_mul_neg a b
    have hT := w_turn_f
    have hP := w_itself ((a.natAbs * b.natAbs : Nat) : Int)
    rw [HE.out] at hP
    have e1 := hU; have e2 := hL
    rw [HE.out] at e1 e2
    clear hU hL
    generalize a.natAbs * b.natAbs / 18446744073709551616 = up at *
    generalize a.natAbs * b.natAbs % 18446744073709551616 = lw at *
    generalize a.natAbs = na at *; generalize b.natAbs = nb at *
    rw [← e1, ← e2] at hP
    have H12 := Lib.hid (And.intro e1 e2)
    clear e1 e2
    generalize vhi (a * b) = rh at *; generalize vlo (a * b) = rl at *
    go_enter Try.func49, Try.ntmps49
    go_wp2_with fail
    refine (sa _).mono ?_; rintro e w1 ⟨rfl, hb1⟩
    go_wp2_with fail
    refine (sb _).mono ?_; rintro e w2 ⟨rfl, hb2⟩
    go_wp2_with fail
    refine (hM _).mono ?_; rintro e w3 ⟨rfl, rfl⟩
    go_wp2_with fail
    refine (hT _).mono ?_; rintro e w4 ⟨rfl, rfl⟩
    go_wp2_with fail
    refine (hP _).mono ?_; rintro e w4 ⟨rfl, hb4⟩
    have hb12 := hb1.trans (hb2.mono hb1.size)
    have hb14 := hb12.trans (hb4.mono hb12.size)
    obtain ⟨x0, x1, x2⟩ := onebox hb14
    obtain ⟨f0, f1⟩ := onefree hb14
    go_wp2_with fail
    refine bodyPost_ret (v := .agg #[.int .i64 rh, .int .u64 rl]) (by simp [results, Try.results49, go_sem, x0, x1, H12.out.1, H12.out.2]) rfl ⟨rfl, ?_⟩
    exact ((((below1 w _).trans (hb14.mono (by simp))).setCell (Nat.le_refl _) _).setCell (Nat.le_refl _) _)
  · have HE : Hid (((a.natAbs * b.natAbs : Nat) : Int) = -(a * b)) := by
      show ((a.natAbs * b.natAbs : Nat) : Int) = -(a * b)
      rw [Int.natCast_mul, show ((a.natAbs : Nat) : Int) = -a by omega, show ((b.natAbs : Nat) : Int) = b by omega]
      exact Int.neg_mul a b
    have hT := w_turn_t
    have hd : decide (b < 0) = false := decide_eq_false (by omega)
    have hP := w_opposite ((a.natAbs * b.natAbs : Nat) : Int)
    rw [HE.out, Int.neg_neg] at hP
    have e1 := hU; have e2 := hL
    rw [HE.out] at e1 e2
    clear hU hL
    generalize a.natAbs * b.natAbs / 18446744073709551616 = up at *
    generalize a.natAbs * b.natAbs % 18446744073709551616 = lw at *
    generalize a.natAbs = na at *; generalize b.natAbs = nb at *
    rw [← e1, ← e2] at hP
    have H12 := Lib.hid (And.intro e1 e2)
    clear e1 e2
    generalize vhi (a * b) = rh at *; generalize vlo (a * b) = rl at *
    go_enter Try.func49, Try.ntmps49
    go_wp2_with fail
    refine (sa _).mono ?_; rintro e w1 ⟨rfl, hb1⟩
    go_wp2_with fail
    refine (sb _).mono ?_; rintro e w2 ⟨rfl, hb2⟩
    go_wp2_with fail
    refine (hM _).mono ?_; rintro e w3 ⟨rfl, rfl⟩
    go_wp2_with fail
    refine (hT _).mono ?_; rintro e w4 ⟨rfl, rfl⟩
    go_wp2_with fail
    refine (hP _).mono ?_; rintro e w4 ⟨rfl, hb4⟩
    have hb12 := hb1.trans (hb2.mono hb1.size)
    have hb14 := hb12.trans (hb4.mono hb12.size)
    obtain ⟨x0, x1, x2⟩ := onebox hb14
    obtain ⟨f0, f1⟩ := onefree hb14
    go_wp2_with fail
    refine bodyPost_ret (v := .agg #[.int .i64 rh, .int .u64 rl]) (by simp [results, Try.results49, go_sem, x0, x1]) rfl ⟨rfl, ?_⟩
    exact ((((below1 w _).trans (hb14.mono (by simp))).setCell (Nat.le_refl _) _).setCell (Nat.le_refl _) _)
  · have HE : Hid (((a.natAbs * b.natAbs : Nat) : Int) = -(a * b)) := by
      show ((a.natAbs * b.natAbs : Nat) : Int) = -(a * b)
      rw [Int.natCast_mul, show ((a.natAbs : Nat) : Int) = a by omega, show ((b.natAbs : Nat) : Int) = -b by omega]
      exact Int.mul_neg a b
    have hT := w_turn_t
    have hd : decide (a < 0) = false := decide_eq_false (by omega)
    have hP := w_opposite ((a.natAbs * b.natAbs : Nat) : Int)
    rw [HE.out, Int.neg_neg] at hP
    have e1 := hU; have e2 := hL
    rw [HE.out] at e1 e2
    clear hU hL
    generalize a.natAbs * b.natAbs / 18446744073709551616 = up at *
    generalize a.natAbs * b.natAbs % 18446744073709551616 = lw at *
    generalize a.natAbs = na at *; generalize b.natAbs = nb at *
    rw [← e1, ← e2] at hP
    have H12 := Lib.hid (And.intro e1 e2)
    clear e1 e2
    generalize vhi (a * b) = rh at *; generalize vlo (a * b) = rl at *
    go_enter Try.func49, Try.ntmps49
    go_wp2_with fail
    refine (sa _).mono ?_; rintro e w1 ⟨rfl, hb1⟩
    go_wp2_with fail
    refine (sb _).mono ?_; rintro e w2 ⟨rfl, hb2⟩
    go_wp2_with fail
    refine (hM _).mono ?_; rintro e w3 ⟨rfl, rfl⟩
    go_wp2_with fail
    refine (hT _).mono ?_; rintro e w4 ⟨rfl, rfl⟩
    go_wp2_with fail
    refine (hP _).mono ?_; rintro e w4 ⟨rfl, hb4⟩
    have hb12 := hb1.trans (hb2.mono hb1.size)
    have hb14 := hb12.trans (hb4.mono hb12.size)
    obtain ⟨x0, x1, x2⟩ := onebox hb14
    obtain ⟨f0, f1⟩ := onefree hb14
    go_wp2_with fail
    refine bodyPost_ret (v := .agg #[.int .i64 rh, .int .u64 rl]) (by simp [results, Try.results49, go_sem, x0, x1]) rfl ⟨rfl, ?_⟩
    exact ((((below1 w _).trans (hb14.mono (by simp))).setCell (Nat.le_refl _) _).setCell (Nat.le_refl _) _)
  · have HE : Hid (((a.natAbs * b.natAbs : Nat) : Int) = a * b) := by
      show ((a.natAbs * b.natAbs : Nat) : Int) = a * b
      rw [Int.natCast_mul, show ((a.natAbs : Nat) : Int) = a by omega, show ((b.natAbs : Nat) : Int) = b by omega]
    have hT := w_turn_f
    have hd : decide (a < 0) = false := decide_eq_false (by omega)
    have hd2 : decide (b < 0) = false := decide_eq_false (by omega)
    have hP := w_itself ((a.natAbs * b.natAbs : Nat) : Int)
    rw [HE.out] at hP
    have e1 := hU; have e2 := hL
    rw [HE.out] at e1 e2
    clear hU hL
    generalize a.natAbs * b.natAbs / 18446744073709551616 = up at *
    generalize a.natAbs * b.natAbs % 18446744073709551616 = lw at *
    generalize a.natAbs = na at *; generalize b.natAbs = nb at *
    rw [← e1, ← e2] at hP
    have H12 := Lib.hid (And.intro e1 e2)
    clear e1 e2
    generalize vhi (a * b) = rh at *; generalize vlo (a * b) = rl at *
    go_enter Try.func49, Try.ntmps49
    go_wp2_with fail
    refine (sa _).mono ?_; rintro e w1 ⟨rfl, hb1⟩
    go_wp2_with fail
    refine (sb _).mono ?_; rintro e w2 ⟨rfl, hb2⟩
    go_wp2_with fail
    refine (hM _).mono ?_; rintro e w3 ⟨rfl, rfl⟩
    go_wp2_with fail
    refine (hT _).mono ?_; rintro e w4 ⟨rfl, rfl⟩
    go_wp2_with fail
    refine (hP _).mono ?_; rintro e w4 ⟨rfl, hb4⟩
    have hb12 := hb1.trans (hb2.mono hb1.size)
    have hb14 := hb12.trans (hb4.mono hb12.size)
    obtain ⟨x0, x1, x2⟩ := onebox hb14
    obtain ⟨f0, f1⟩ := onefree hb14
    go_wp2_with fail
    refine bodyPost_ret (v := .agg #[.int .i64 rh, .int .u64 rl]) (by simp [results, Try.results49, go_sem, x0, x1, H12.out.1, H12.out.2]) rfl ⟨rfl, ?_⟩
    exact ((((below1 w _).trans (hb14.mono (by simp))).setCell (Nat.le_refl _) _).setCell (Nat.le_refl _) _)
end Go.Proofs.Ytogckefmmjbapaa
