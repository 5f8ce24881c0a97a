/-
  What wide's own numbers do (Of, plus, less, itself, opposite), over whole numbers. No conditions besides. What wide's Mul answers: the product, for whatever numbers in range. No conditions besides. What wide's Int answers, for whatever wide numbers. No conditions besides.
-/
import Derived.Test.YtebjmnppeohdiaaChecked
import Derived.Test.YtebjmnppeohdiaaWid
import Derived.WalkKit
import Derived.WalkSpells
import Derived.StillTactics
import Derived.Laws.Pointers
import Derived.Deep.RegionHeld3
import Derived.Laws.Externs
import Derived.ChangeKeysEq
import Derived.Shelf.Spec.BitsCarry
import Derived.Lib.Mul64
import Derived.Laws.Bits64b
namespace Go.Proofs.Ytebjmnppeohdiaa
open Go.RowKit
set_option linter.unusedSimpArgs false
set_option linter.unusedVariables false

/- What wide's own numbers do (Of, plus, less, itself, opposite), over whole numbers. No conditions besides. -/
theorem sub64_any (x y c : Int) (hx : InU x) (hy : InU y) (hc0 : 0 ≤ c) (hc : c ≤ 1) (w : World) : (callFunc 93 #[.int .u64 x, .int .u64 y, .int .u64 c]).run Try.prog w =
    .ok (.value (.tuple #[.int .u64 ((x - y - c) % 18446744073709551616), .int .u64 (if x < y + c then 1 else 0)])) w := by
  unfold InU at hx hy
  obtain ⟨X, rfl⟩ := Int.eq_ofNat_of_zero_le hx.1
  obtain ⟨Y, rfl⟩ := Int.eq_ofNat_of_zero_le hy.1
  obtain ⟨K, rfl⟩ := Int.eq_ofNat_of_zero_le hc0
  rw [run_callFunc_extern Try.func93 (by kernel_rfl) (by kernel_rfl) (by kernel_rfl) (e := sub64Entry) (by kernel_rfl), run_sub64 X Y K (by omega)]
  simp only [Result.andThen]
  have e1 : (((X + 18446744073709551616 - Y - K) % 18446744073709551616 : Nat) : Int) = ((X : Int) - Y - K) % 18446744073709551616 := by omega
  have e2 : ((if X < Y + K then 1 else 0 : Nat) : Int) = (if (X : Int) < Y + K then 1 else 0) := by
    by_cases h : X < Y + K
    · rw [if_pos h, if_pos (by omega)]; rfl
    · rw [if_neg h, if_neg (by omega)]; rfl
  rw [e1, e2]
theorem sub64_0 (x y : Int) (hx : InU x) (hy : InU y) (w : World) : (callFunc 93 #[.int .u64 x, .int .u64 y, .int .u64 0]).run Try.prog w =
    .ok (.value (.tuple #[.int .u64 ((x - y) % 18446744073709551616), .int .u64 (if x < y then 1 else 0)])) w := by
  simpa using sub64_any x y 0 hx hy (Int.le_refl 0) (by decide) w

set_option maxHeartbeats 400000 in
theorem w_of (n : Int) (hn : InR n) (w : World) :
    Calls Try.prog 89 #[.int .i64 n] w fun e w' => e = .returned (.agg #[.int .i64 (vhi n), .int .u64 (vlo n)]) ∧ Below w.heap.size w w' := by
  have e1 := vhi_n hn
  unfold InR at hn
  go_enter Try.func89, Try.ntmps89
  go_wp2
  refine bodyPost_ret (v := .agg #[.int .i64 (vhi n), .int .u64 (vlo n)]) (by simp [results, Try.results89, go_sem, u64_v, e1]) rfl ⟨rfl, ?_⟩
  exact below1 _ _

set_option maxHeartbeats 400000 in
theorem w_less (x y : Int) (w : World) :
    Calls Try.prog 92 #[.agg #[.int .i64 (vhi x), .int .u64 (vlo x)], .agg #[.int .i64 (vhi y), .int .u64 (vlo y)]] w fun e w' =>
      e = .returned (.agg #[.int .i64 (vhi (x - y)), .int .u64 (vlo (x - y))]) ∧ Below w.heap.size w w' := by
  have e1 := vlo_sub x y
  have e2 := vhi_sub x y
  have a1 := vlo_U x; have a2 := vlo_U y
  rw [← e1, ← e2]; clear e1 e2
  generalize vlo x = al at *; generalize vlo y = bl at *; generalize vhi x = ah at *; generalize vhi y = bh at *
  have k0 : 0 ≤ (if al < bl then 1 else 0 : Int) := by split <;> omega
  have k1 : (if al < bl then 1 else 0 : Int) ≤ 1 := by split <;> omega
  have hlo := sub64_0 al bl a1 a2
  generalize (if al < bl then 1 else 0 : Int) = c at *
  have a3 : InU (IntKind.u64.wrap ah) := by rw [IntKind.wrap_u64]; unfold InU; omega
  have a4 : InU (IntKind.u64.wrap bh) := by rw [IntKind.wrap_u64]; unfold InU; omega
  have hhi := sub64_any _ _ c a3 a4 k0 k1
  clear a1 a2 k0 k1 a3 a4
  generalize (if IntKind.u64.wrap ah < IntKind.u64.wrap bh + c then 1 else 0 : Int) = d at *
  go_enter Try.func92, Try.ntmps92
  go_wp2_with (first | simp only [hlo] | simp only [hhi])
  refine bodyPost_ret (v := .agg #[.int .i64 (wrap64 ((IntKind.u64.wrap ah - IntKind.u64.wrap bh - c) % 18446744073709551616)), .int .u64 ((al - bl) % 18446744073709551616)]) (by simp [results, Try.results92, go_sem]) rfl ⟨rfl, ?_⟩
  exact below3 _ _ _ _

set_option maxHeartbeats 400000 in
theorem w_itself (x : Int) (w : World) :
    Calls Try.prog 91 #[.agg #[.int .i64 (vhi x), .int .u64 (vlo x)]] w fun e w' =>
      e = .returned (.agg #[.int .i64 (vhi x), .int .u64 (vlo x)]) ∧ Below w.heap.size w w' := by
  generalize vlo x = al at *; generalize vhi x = ah at *
  go_enter Try.func91, Try.ntmps91
  go_wp2
  refine bodyPost_ret (v := .agg #[.int .i64 ah, .int .u64 al]) (by simp [results, Try.results91, go_sem]) rfl ⟨rfl, ?_⟩
  exact below2 _ _ _

set_option maxHeartbeats 400000 in
theorem w_opposite (x : Int) (w : World) :
    Calls Try.prog 90 #[.agg #[.int .i64 (vhi x), .int .u64 (vlo x)]] w fun e w' =>
      e = .returned (.agg #[.int .i64 (vhi (-x)), .int .u64 (vlo (-x))]) ∧ Below w.heap.size w w' := by
  have H := w_less 0 x
  rw [show (0 : Int) - x = -x by omega, vhi_zero, vlo_zero] at H
  generalize vlo x = al at *; generalize vhi x = ah at *
  generalize vlo (-x) = bl at *; generalize vhi (-x) = bh at *
  go_enter Try.func90, Try.ntmps90
  go_wp2_with fail
  refine (H _).mono ?_; rintro e w1 ⟨rfl, hb1⟩
  obtain ⟨x0, x1, x2, x3⟩ := twobox hb1
  obtain ⟨f0, f1, f2, f3⟩ := twofree hb1
  have hs := (twolt hb1).2
  go_wp2_with fail
  refine bodyPost_ret (v := .agg #[.int .i64 bh, .int .u64 bl]) (by simp [results, Try.results90, go_sem, x2, x3]) rfl ⟨rfl, ?_⟩
  exact ((((below2 w _ _).trans (hb1.mono (by simp; omega))).setCell (by show _ ≤ w.heap.size + 1; omega) _).setCell (by show _ ≤ w.heap.size + 1; omega) _)
/- What wide's Mul answers: the product, for whatever numbers in range. No conditions besides. -/
set_option maxHeartbeats 400000 in
theorem w_turn_t (w : World) :
    Calls Try.prog 88 #[.bool true] w fun e w' => e = .returned (.func (.func 90) #[] #[]) ∧ w = w' := by
  go_enter Try.func88, Try.ntmps88
  go_wp2
  go_ret
  exact ⟨rfl, rfl⟩
set_option maxHeartbeats 400000 in
theorem w_turn_f (w : World) :
    Calls Try.prog 88 #[.bool false] w fun e w' => e = .returned (.func (.func 91) #[] #[]) ∧ w = w' := by
  go_enter Try.func88, Try.ntmps88
  go_wp2
  go_ret
  exact ⟨rfl, rfl⟩

theorem mask_n (a : Nat) (ha : a < 18446744073709551616) : bits .and .u64 (a : Int) 4294967295 = ((a % 4294967296 : Nat) : Int) := by
  have h := bits_and_u64_nat a 4294967295 ha (by omega)
  rw [show a &&& 4294967295 = a % 4294967296 from Nat.and_two_pow_sub_one_eq_mod a 32] at h
  exact h
theorem div_n (a : Nat) : (a : Int) / 4294967296 = ((a / 4294967296 : Nat) : Int) := by omega
theorem mul_n (a b : Nat) : (a : Int) * (b : Int) = ((a * b : Nat) : Int) := (Int.natCast_mul a b).symm
theorem add_n (a b : Nat) : (a : Int) + (b : Int) = ((a + b : Nat) : Int) := (Int.natCast_add a b).symm
theorem wrap_n (a : Nat) (ha : a < 18446744073709551616) : IntKind.u64.wrap (a : Int) = (a : Int) := by rw [IntKind.wrap_u64]; omega
theorem wrap_m (a : Nat) : IntKind.u64.wrap (a : Int) = ((a % 18446744073709551616 : Nat) : Int) := by rw [IntKind.wrap_u64]; omega

set_option maxHeartbeats 1000000 in
theorem mul64_any (x y : Nat) (hx : x < 18446744073709551616) (hy : y < 18446744073709551616) (w : World) :
    Calls Try.prog 86 #[.int .u64 x, .int .u64 y] w fun e w' => e = .returned (.tuple #[.int .u64 ((x * y / 18446744073709551616 : Nat) : Int), .int .u64 ((x * y % 18446744073709551616 : Nat) : Int)]) ∧ w = w' := by
  obtain ⟨bd, bt, bw, hhi⟩ := Lib.mul64_hi x y hx hy
  have ba := Lib.half_mul_le (a := x / 4294967296) (b := y / 4294967296) (by omega) (by omega)
  have bb := Lib.half_mul_le (a := x / 4294967296) (b := y % 4294967296) (by omega) (by omega)
  have bc := Lib.half_mul_le (a := x % 4294967296) (b := y / 4294967296) (by omega) (by omega)
  have ba' : x / 4294967296 * (y / 4294967296) < 18446744073709551616 := by omega
  have bb' : x / 4294967296 * (y % 4294967296) < 18446744073709551616 := by omega
  have bc' : x % 4294967296 * (y / 4294967296) < 18446744073709551616 := by omega
  have bh1 : x / 4294967296 * (y / 4294967296) + (x / 4294967296 * (y % 4294967296) + x % 4294967296 * (y % 4294967296) / 4294967296) / 4294967296 < 18446744073709551616 := by omega
  have bh : x / 4294967296 * (y / 4294967296) + (x / 4294967296 * (y % 4294967296) + x % 4294967296 * (y % 4294967296) / 4294967296) / 4294967296 + ((x / 4294967296 * (y % 4294967296) + x % 4294967296 * (y % 4294967296) / 4294967296) % 4294967296 + x % 4294967296 * (y / 4294967296)) / 4294967296 < 18446744073709551616 := by omega
  go_enter Try.func86, Try.ntmps86
  go_wp2
  simp only [mask_n x hx, mask_n y hy, div_n, mul_n, add_n, wrap_n _ bd, wrap_n _ bb', wrap_n _ bt, mask_n _ bt, wrap_n _ bc', wrap_n _ bw, wrap_n _ ba', wrap_n _ bh1, wrap_n _ bh, wrap_m (x * y)]
  rw [hhi]
  go_ret2
  exact ⟨rfl, rfl⟩

theorem field_lo (h l : Int) (w : World) : (Instr.field 120 (.agg #[.int .i64 h, .int .u64 l]) 1).run Try.prog w = .ok (.int .u64 l) w := by kernel_rfl

theorem lo_abs {n : Int} (h : InR n) : vlo n.natAbs = n.natAbs := by unfold InR at h; unfold vlo; omega

set_option maxHeartbeats 400000 in
theorem w_size (n : Int) (h : InR n) (w : World) :
    Calls Try.prog 87 #[.int .i64 n] w fun e w' => e = .returned (.int .u64 (n.natAbs : Nat)) ∧ Below w.heap.size w w' := by
  have hfd := field_lo
  have e1 := lo_abs h
  have hO := w_of n h
  by_cases hn : n < 0
  · have e2 : ((n.natAbs : Nat) : Int) = -n := by omega
    rw [e2] at e1 ⊢
    have hT := w_turn_t
    have hP := w_opposite n
    rw [e1] at hP
    generalize vlo n = al at *; generalize vhi n = ah at *; generalize vhi (-n) = bh at *
    go_enter Try.func87, Try.ntmps87
    go_wp2_with fail
    refine (hT _).mono ?_; rintro e w1 ⟨rfl, rfl⟩
    go_wp2_with fail
    refine (hO _).mono ?_; rintro e w1 ⟨rfl, hb1⟩
    go_wp2_with fail
    refine (hP _).mono ?_; rintro e w2 ⟨rfl, hb2⟩
    go_wp2_with fail
    go_ret
    exact ⟨rfl, hb1.trans (hb2.mono hb1.size)⟩
  · have e2 : ((n.natAbs : Nat) : Int) = n := by omega
    have h0 : 0 ≤ n := by omega
    rw [e2] at e1 ⊢
    have hT : ∀ w, Calls Try.prog 88 #[.bool (decide (n < 0))] w fun e w' => e = .returned (.func (.func 91) #[] #[]) ∧ w = w' := by
      rw [decide_eq_false hn]; exact w_turn_f
    have hP := w_itself n
    rw [e1] at hP hO
    generalize vhi n = ah at *
    clear hn
    go_enter Try.func87, Try.ntmps87
    go_wp2_with fail
    refine (hT _).mono ?_; rintro e w1 ⟨rfl, rfl⟩
    go_wp2_with fail
    refine (hO _).mono ?_; rintro e w1 ⟨rfl, hb1⟩
    go_wp2_with fail
    refine (hP _).mono ?_; rintro e w2 ⟨rfl, hb2⟩
    go_wp2_with fail
    go_ret
    exact ⟨rfl, hb1.trans (hb2.mono hb1.size)⟩

theorem abs_lt {n : Int} (h : InR n) : n.natAbs < 18446744073709551616 := by unfold InR at h; omega
theorem up_wrap (N : Nat) : wrap64 ((N / 18446744073709551616 : Nat) : Int) = vhi (N : Int) := by unfold vhi; rfl
theorem lo_wrap (N : Nat) : ((N % 18446744073709551616 : Nat) : Int) = vlo (N : Int) := by unfold vlo; omega

set_option maxHeartbeats 1000000 in
theorem w_mul (a b : Int) (ha : InR a) (hb : InR b) (w : World) :
    Calls Try.prog 82 #[.int .i64 a, .int .i64 b] w fun e w' => e = .returned (.agg #[.int .i64 (vhi (a * b)), .int .u64 (vlo (a * b))]) ∧ Below w.heap.size w w' := by
  have sa := w_size a ha; have sb := w_size b hb
  have hM := mul64_any a.natAbs b.natAbs (abs_lt ha) (abs_lt hb)
  have hU := up_wrap (a.natAbs * b.natAbs); have hL := lo_wrap (a.natAbs * b.natAbs)
  clear ha hb
  rcases Int.lt_or_le a 0 with ha | ha <;> rcases Int.lt_or_le b 0 with hb | hb
  · have HE : Hid (((a.natAbs * b.natAbs : Nat) : Int) = a * b) := by
      show ((a.natAbs * b.natAbs : Nat) : Int) = a * b
      rw [Int.natCast_mul, show ((a.natAbs : Nat) : Int) = -a by omega, show ((b.natAbs : Nat) : Int) = -b by omega]
      exact Int.neg_mul_neg a b
    have hT := w_turn_f
    have hP := w_itself ((a.natAbs * b.natAbs : Nat) : Int)
    rw [HE.out] at hP
    have e1 := hU; have e2 := hL
    rw [HE.out] at e1 e2
    clear hU hL
    generalize a.natAbs * b.natAbs / 18446744073709551616 = up at *
    generalize a.natAbs * b.natAbs % 18446744073709551616 = lw at *
    generalize a.natAbs = na at *; generalize b.natAbs = nb at *
    rw [← e1, ← e2] at hP
    have H12 := Lib.hid (And.intro e1 e2)
    clear e1 e2
    generalize vhi (a * b) = rh at *; generalize vlo (a * b) = rl at *
    go_enter Try.func82, Try.ntmps82
    go_wp2_with fail
    refine (sa _).mono ?_; rintro e w1 ⟨rfl, hb1⟩
    go_wp2_with fail
    refine (sb _).mono ?_; rintro e w2 ⟨rfl, hb2⟩
    go_wp2_with fail
    refine (hM _).mono ?_; rintro e w3 ⟨rfl, rfl⟩
    go_wp2_with fail
    refine (hT _).mono ?_; rintro e w4 ⟨rfl, rfl⟩
    go_wp2_with fail
    refine (hP _).mono ?_; rintro e w4 ⟨rfl, hb4⟩
    have hb12 := hb1.trans (hb2.mono hb1.size)
    have hb14 := hb12.trans (hb4.mono hb12.size)
    obtain ⟨x0, x1, x2⟩ := onebox hb14
    obtain ⟨f0, f1⟩ := onefree hb14
    go_wp2_with fail
    refine bodyPost_ret (v := .agg #[.int .i64 rh, .int .u64 rl]) (by simp [results, Try.results82, go_sem, x0, x1, H12.out.1, H12.out.2]) rfl ⟨rfl, ?_⟩
    exact ((((below1 w _).trans (hb14.mono (by simp))).setCell (Nat.le_refl _) _).setCell (Nat.le_refl _) _)
  · have HE : Hid (((a.natAbs * b.natAbs : Nat) : Int) = -(a * b)) := by
      show ((a.natAbs * b.natAbs : Nat) : Int) = -(a * b)
      rw [Int.natCast_mul, show ((a.natAbs : Nat) : Int) = -a by omega, show ((b.natAbs : Nat) : Int) = b by omega]
      exact Int.neg_mul a b
    have hT := w_turn_t
    have hd : decide (b < 0) = false := decide_eq_false (by omega)
    have hP := w_opposite ((a.natAbs * b.natAbs : Nat) : Int)
    rw [HE.out, Int.neg_neg] at hP
    have e1 := hU; have e2 := hL
    rw [HE.out] at e1 e2
    clear hU hL
    generalize a.natAbs * b.natAbs / 18446744073709551616 = up at *
    generalize a.natAbs * b.natAbs % 18446744073709551616 = lw at *
    generalize a.natAbs = na at *; generalize b.natAbs = nb at *
    rw [← e1, ← e2] at hP
    have H12 := Lib.hid (And.intro e1 e2)
    clear e1 e2
    generalize vhi (a * b) = rh at *; generalize vlo (a * b) = rl at *
    go_enter Try.func82, Try.ntmps82
    go_wp2_with fail
    refine (sa _).mono ?_; rintro e w1 ⟨rfl, hb1⟩
    go_wp2_with fail
    refine (sb _).mono ?_; rintro e w2 ⟨rfl, hb2⟩
    go_wp2_with fail
    refine (hM _).mono ?_; rintro e w3 ⟨rfl, rfl⟩
    go_wp2_with fail
    refine (hT _).mono ?_; rintro e w4 ⟨rfl, rfl⟩
    go_wp2_with fail
    refine (hP _).mono ?_; rintro e w4 ⟨rfl, hb4⟩
    have hb12 := hb1.trans (hb2.mono hb1.size)
    have hb14 := hb12.trans (hb4.mono hb12.size)
    obtain ⟨x0, x1, x2⟩ := onebox hb14
    obtain ⟨f0, f1⟩ := onefree hb14
    go_wp2_with fail
    refine bodyPost_ret (v := .agg #[.int .i64 rh, .int .u64 rl]) (by simp [results, Try.results82, go_sem, x0, x1]) rfl ⟨rfl, ?_⟩
    exact ((((below1 w _).trans (hb14.mono (by simp))).setCell (Nat.le_refl _) _).setCell (Nat.le_refl _) _)
  · have HE : Hid (((a.natAbs * b.natAbs : Nat) : Int) = -(a * b)) := by
      show ((a.natAbs * b.natAbs : Nat) : Int) = -(a * b)
      rw [Int.natCast_mul, show ((a.natAbs : Nat) : Int) = a by omega, show ((b.natAbs : Nat) : Int) = -b by omega]
      exact Int.mul_neg a b
    have hT := w_turn_t
    have hd : decide (a < 0) = false := decide_eq_false (by omega)
    have hP := w_opposite ((a.natAbs * b.natAbs : Nat) : Int)
    rw [HE.out, Int.neg_neg] at hP
    have e1 := hU; have e2 := hL
    rw [HE.out] at e1 e2
    clear hU hL
    generalize a.natAbs * b.natAbs / 18446744073709551616 = up at *
    generalize a.natAbs * b.natAbs % 18446744073709551616 = lw at *
    generalize a.natAbs = na at *; generalize b.natAbs = nb at *
    rw [← e1, ← e2] at hP
    have H12 := Lib.hid (And.intro e1 e2)
    clear e1 e2
    generalize vhi (a * b) = rh at *; generalize vlo (a * b) = rl at *
    go_enter Try.func82, Try.ntmps82
    go_wp2_with fail
    refine (sa _).mono ?_; rintro e w1 ⟨rfl, hb1⟩
    go_wp2_with fail
    refine (sb _).mono ?_; rintro e w2 ⟨rfl, hb2⟩
    go_wp2_with fail
    refine (hM _).mono ?_; rintro e w3 ⟨rfl, rfl⟩
    go_wp2_with fail
    refine (hT _).mono ?_; rintro e w4 ⟨rfl, rfl⟩
    go_wp2_with fail
    refine (hP _).mono ?_; rintro e w4 ⟨rfl, hb4⟩
    have hb12 := hb1.trans (hb2.mono hb1.size)
    have hb14 := hb12.trans (hb4.mono hb12.size)
    obtain ⟨x0, x1, x2⟩ := onebox hb14
    obtain ⟨f0, f1⟩ := onefree hb14
    go_wp2_with fail
    refine bodyPost_ret (v := .agg #[.int .i64 rh, .int .u64 rl]) (by simp [results, Try.results82, go_sem, x0, x1]) rfl ⟨rfl, ?_⟩
    exact ((((below1 w _).trans (hb14.mono (by simp))).setCell (Nat.le_refl _) _).setCell (Nat.le_refl _) _)
  · have HE : Hid (((a.natAbs * b.natAbs : Nat) : Int) = a * b) := by
      show ((a.natAbs * b.natAbs : Nat) : Int) = a * b
      rw [Int.natCast_mul, show ((a.natAbs : Nat) : Int) = a by omega, show ((b.natAbs : Nat) : Int) = b by omega]
    have hT := w_turn_f
    have hd : decide (a < 0) = false := decide_eq_false (by omega)
    have hd2 : decide (b < 0) = false := decide_eq_false (by omega)
    have hP := w_itself ((a.natAbs * b.natAbs : Nat) : Int)
    rw [HE.out] at hP
    have e1 := hU; have e2 := hL
    rw [HE.out] at e1 e2
    clear hU hL
    generalize a.natAbs * b.natAbs / 18446744073709551616 = up at *
    generalize a.natAbs * b.natAbs % 18446744073709551616 = lw at *
    generalize a.natAbs = na at *; generalize b.natAbs = nb at *
    rw [← e1, ← e2] at hP
    have H12 := Lib.hid (And.intro e1 e2)
    clear e1 e2
    generalize vhi (a * b) = rh at *; generalize vlo (a * b) = rl at *
    go_enter Try.func82, Try.ntmps82
    go_wp2_with fail
    refine (sa _).mono ?_; rintro e w1 ⟨rfl, hb1⟩
    go_wp2_with fail
    refine (sb _).mono ?_; rintro e w2 ⟨rfl, hb2⟩
    go_wp2_with fail
    refine (hM _).mono ?_; rintro e w3 ⟨rfl, rfl⟩
    go_wp2_with fail
    refine (hT _).mono ?_; rintro e w4 ⟨rfl, rfl⟩
    go_wp2_with fail
    refine (hP _).mono ?_; rintro e w4 ⟨rfl, hb4⟩
    have hb12 := hb1.trans (hb2.mono hb1.size)
    have hb14 := hb12.trans (hb4.mono hb12.size)
    obtain ⟨x0, x1, x2⟩ := onebox hb14
    obtain ⟨f0, f1⟩ := onefree hb14
    go_wp2_with fail
    refine bodyPost_ret (v := .agg #[.int .i64 rh, .int .u64 rl]) (by simp [results, Try.results82, go_sem, x0, x1, H12.out.1, H12.out.2]) rfl ⟨rfl, ?_⟩
    exact ((((below1 w _).trans (hb14.mono (by simp))).setCell (Nat.le_refl _) _).setCell (Nat.le_refl _) _)
/- What wide's Int answers, for whatever wide numbers. No conditions besides. -/
theorem onebox' {w w1 : World} {p q : Value} {t : TypeId} (hb : Below (w.alloc (.cells #[p, q] t)).drew.heap.size (w.alloc (.cells #[p, q] t)).drew w1) :
    w1.cell? ⟨w.heap.size, 0, none⟩ = some p ∧ w1.cell? ⟨w.heap.size, 1, none⟩ = some q := by
  obtain ⟨bc, bf⟩ := bcell hb
  have hz : w.heap.size < (w.alloc (.cells #[p, q] t)).drew.heap.size := by show w.heap.size < (w.alloc (.cells #[p, q] t)).heap.size; simp
  refine ⟨(bc _ _ hz).trans ?_, (bc _ _ hz).trans ?_⟩ <;> simp [go_sem]

theorem wrap_vlo (x : Int) : wrap64 (vlo x) = wrap64 x := by unfold vlo wrap64; omega
theorem w64_inR (x : Int) : InR (wrap64 x) := by unfold wrap64 InR; omega
theorem vlo_w64 (x : Int) : vlo (wrap64 x) = vlo x := by unfold vlo wrap64; omega
theorem vhi_w64 {x : Int} (h : InV x) (h' : ¬ InR x) : ¬ vhi (wrap64 x) = vhi x := by rw [vhi_n (w64_inR x), vhi_v h]; unfold wrap64; unfold InV at h; unfold InR at h'; omega
theorem w64_in {x : Int} (h : InR x) : wrap64 x = x := by unfold wrap64; unfold InR at h; omega
theorem eq_wide (a b c d : Int) (w : World) : (Op.equalIn 10000 112 (.agg #[.int .i64 a, .int .u64 b]) (.agg #[.int .i64 c, .int .u64 d])).run Try.prog w = .ok (a == c && b == d) w := by
  simp [go_sem]
  by_cases h1 : a = c <;> by_cases h2 : b = d <;> simp [h1, h2]

set_option maxHeartbeats 400000 in
theorem w_int (x : Int) (hx : InV x) (w : World) :
    Calls Try.prog 85 #[.agg #[.int .i64 (vhi x), .int .u64 (vlo x)]] w fun e w' =>
      e = .returned (.tuple #[.int .i64 (tv x), .int .i64 (te x)]) ∧ Below w.heap.size w w' := by
  have hc := wrap_vlo x
  have hO := w_of (wrap64 x) (w64_inR x)
  rw [vlo_w64] at hO
  by_cases h : InR x
  · rw [tv_in h, te_in h]
    rw [w64_in h] at hc hO
    generalize vlo x = al at *; generalize vhi x = ah at *
    clear h hx
    go_enter Try.func85, Try.ntmps85
    go_wp2
    go_region_held3 (fun w' => w'.cell? ⟨w.heap.size, 0, none⟩ = some (.int .i64 ah) ∧ w'.cell? ⟨w.heap.size, 1, none⟩ = some (.int .u64 al)) (first | (exact onebox' hb1) | (simp [go_sem, World.cell?_alloc_past]))
      (first
        | (go_at_call 89; refine (hO _).mono ?_; rintro e w1 ⟨rfl, hb1⟩; obtain ⟨y0, y1⟩ := onebox' hb1))
    go_wp2
    go_ret2
    exact ⟨rfl, (below1 _ _).drew.trans (hb1.mono (by simp))⟩
  · rw [tv_out h, te_out h]
    have hne := vhi_w64 hx h
    generalize vlo x = al at *; generalize vhi x = ah at *; generalize vhi (wrap64 x) = bh at *; generalize wrap64 x = n at *
    clear h hx
    have he : (bh == ah) = false := by simpa using hne
    go_enter Try.func85, Try.ntmps85
    go_wp2
    go_region_held3 (fun w' => w'.cell? ⟨w.heap.size, 0, none⟩ = some (.int .i64 ah) ∧ w'.cell? ⟨w.heap.size, 1, none⟩ = some (.int .u64 al)) (first | (exact onebox' hb1) | (simp [go_sem, World.cell?_alloc_past]))
      (first
        | (go_at_call 89; refine (hO _).mono ?_; rintro e w1 ⟨rfl, hb1⟩; obtain ⟨y0, y1⟩ := onebox' hb1))
    go_wp2
    go_ret2
    exact ⟨rfl, (below1 _ _).drew.trans (hb1.mono (by simp))⟩
end Go.Proofs.Ytebjmnppeohdiaa
