/-
  What ratio's own mayBe, Check and divisor answer, for whatever numbers. No conditions besides those named. What ratio's own divisor, lowest and Norm answer. The condition of the first two: numbers from 1 to 10^12 (the divisor's second one may be 0). What ratio's own product answers. The condition: numbers in range.
-/
import Derived.Test.YtebjmnppeohdiaaChecked
import Derived.Test.YtebjmnppeohdiaaRt1
import Derived.Test.YtebjmnppeohdiaaWid
import Derived.Test.YtebjmnppeohdiaaWd2
import Derived.Deep.DeepCutAuto
import Derived.Deep.RegionWith
namespace Go.Proofs.Ytebjmnppeohdiaa
open Go.RowKit
set_option linter.unusedSimpArgs false
set_option linter.unusedVariables false

/- What ratio's own mayBe, Check and divisor answer, for whatever numbers. No conditions besides those named. -/
theorem c_maybe_t (n : Int) (h1 : 1 ≤ n) (h2 : n ≤ 1000000000000) (w : World) :
    Calls Try.prog 84 #[.int .i64 n] w fun e w' => e = .returned (.bool true) ∧ w = w' := by
  have d1 : decide (1 ≤ n) = true := decide_eq_true h1
  have d2 : decide (n ≤ 1000000000000) = true := decide_eq_true h2
  go_enter Try.func84, Try.ntmps84
  go_wp2_with fail
  go_ret
  exact ⟨rfl, rfl⟩
theorem c_maybe_lo (n : Int) (h1 : n < 1) (w : World) :
    Calls Try.prog 84 #[.int .i64 n] w fun e w' => e = .returned (.bool false) ∧ w = w' := by
  have d1 : decide (1 ≤ n) = false := decide_eq_false (by omega)
  go_enter Try.func84, Try.ntmps84
  go_wp2_with fail
  go_ret
  exact ⟨rfl, rfl⟩
theorem c_maybe_hi (n : Int) (h1 : 1 ≤ n) (h2 : 1000000000000 < n) (w : World) :
    Calls Try.prog 84 #[.int .i64 n] w fun e w' => e = .returned (.bool false) ∧ w = w' := by
  have d1 : decide (1 ≤ n) = true := decide_eq_true h1
  have d2 : decide (n ≤ 1000000000000) = false := decide_eq_false (by omega)
  go_enter Try.func84, Try.ntmps84
  go_wp2_with fail
  go_ret
  exact ⟨rfl, rfl⟩
/-- A number of a rate that may be. -/
def OkN (n : Int) : Prop := 1 ≤ n ∧ n ≤ 1000000000000
instance instDecOkN (n : Int) : Decidable (OkN n) := by unfold OkN; infer_instance
theorem c_maybe (n : Int) (w : World) :
    Calls Try.prog 84 #[.int .i64 n] w fun e w' => e = .returned (.bool (decide (OkN n))) ∧ w = w' := by
  rcases Int.lt_or_le n 1 with h | h
  · rw [decide_eq_false (show ¬ OkN n by unfold OkN; omega)]; exact c_maybe_lo n h w
  · rcases Int.lt_or_le 1000000000000 n with h' | h'
    · rw [decide_eq_false (show ¬ OkN n by unfold OkN; omega)]; exact c_maybe_hi n h h' w
    · rw [decide_eq_true (show OkN n by unfold OkN; omega)]; exact c_maybe_t n h h' w

set_option maxHeartbeats 400000 in
theorem c_check (n d : Int) (w : World) :
    Calls Try.prog 79 #[.agg #[.int .i64 n, .int .i64 d]] w fun e w' => e = .returned (.int .i64 (rc n d)) ∧ Below w.heap.size w w' := by
  have h1 := c_maybe n
  have h2 := c_maybe d
  by_cases a : OkN n
  · rw [decide_eq_true a] at h1
    by_cases b : OkN d
    · rw [decide_eq_true b] at h2
      rw [rc_ok (by unfold OkN at a b; unfold OkR; omega)]
      clear a b
      go_enter Try.func79, Try.ntmps79
      go_wp2_with fail
      refine (h1 _).mono ?_; rintro e w1 ⟨rfl, rfl⟩
      go_wp2_with fail
      refine (h2 _).mono ?_; rintro e w1 ⟨rfl, rfl⟩
      go_wp2_with fail
      go_ret
      exact ⟨rfl, below1 _ _⟩
    · rw [decide_eq_false b] at h2
      rw [rc_no (by unfold OkN at a b; unfold OkR; omega)]
      clear a b
      go_enter Try.func79, Try.ntmps79
      go_wp2_with fail
      refine (h1 _).mono ?_; rintro e w1 ⟨rfl, rfl⟩
      go_wp2_with fail
      refine (h2 _).mono ?_; rintro e w1 ⟨rfl, rfl⟩
      go_wp2_with fail
      go_ret
      exact ⟨rfl, below1 _ _⟩
  · rw [decide_eq_false a] at h1
    rw [rc_no (by unfold OkN at a; unfold OkR; omega)]
    clear a
    go_enter Try.func79, Try.ntmps79
    go_wp2_with fail
    refine (h1 _).mono ?_; rintro e w1 ⟨rfl, rfl⟩
    go_wp2_with fail
    go_ret
    exact ⟨rfl, below1 _ _⟩
/- What ratio's own divisor, lowest and Norm answer. The condition of the first two: numbers from 1 to 10^12 (the divisor's second one may be 0). -/
/-- What holds at the loop's head. -/
def DivisorRel (g : Nat) (w : World) (a b : Value) (wr : World) : Prop :=
  ∃ A B : Nat, a = .int .i64 (A : Int) ∧ b = .int .i64 (B : Int) ∧ 0 < A ∧ A ≤ 1000000000000 ∧ B ≤ 1000000000000 ∧ Nat.gcd A B = g ∧ Below w.heap.size w wr

set_option maxHeartbeats 400000 in
theorem c_divisor (X Y : Nat) (hX : 0 < X) (bX : X ≤ 1000000000000) (bY : Y ≤ 1000000000000) (w : World) :
    Calls Try.prog 80 #[.int .i64 (X : Int), .int .i64 (Y : Int)] w fun e w' => e = .returned (.int .i64 ((Nat.gcd X Y : Nat) : Int)) ∧ Below w.heap.size w w' := by
  have H0 : Hid (DivisorRel (Nat.gcd X Y) w (.int .i64 (X : Int)) (.int .i64 (Y : Int)) w) := ⟨X, Y, rfl, rfl, hX, bX, bY, rfl, Below.refl _ _⟩
  generalize Nat.gcd X Y = g at *
  clear hX bX bY
  go_enter Try.func80, Try.ntmps80
  go_wp2_with fail
  go_loopw [0, 1] (fun a b wr => DivisorRel g w a b wr) (fun _ b _ => (intOf b).toNat)
  case atStart => exact H0.out
  case round =>
    obtain ⟨A, B, rfl, rfl, hA, bA, bB, hR, hb⟩ := hrel
    by_cases h0 : B = 0
    · subst h0
      have e : A = g := by rw [Nat.gcd_zero_right] at hR; exact hR
      subst e
      clear hR H0
      go_wp2_with fail
      go_ret
      exact ⟨rfl, hb⟩
    · have hne : ((B : Int) == 0) = false := by simp; omega
      have hn2 : ¬ (B : Int) = 0 := by omega
      have ht : (A : Int).tmod (B : Int) = ((A % B : Nat) : Int) := by rw [Int.tmod_eq_emod_of_nonneg (by omega), Int.natCast_emod]
      have hlt := Nat.mod_lt A (show 0 < B by omega)
      have HL := Lib.hid (And.intro hlt (And.intro hR (And.intro bB (show 0 < B by omega))))
      generalize hr : A % B = r at *
      have HR := Lib.hid hr
      clear hlt hR H0 h0 hr bA bB hA
      go_wp2_with fail
      go_region
      go_roundw
      case rel =>
        obtain ⟨l1, l2, l3, l4⟩ := HL.out
        have l5 := HR.out
        exact ⟨_, _, _, _, _, _, _, _, ⟨B, r, rfl, rfl, l4, l3, by omega, by rw [← l5, Nat.gcd_comm, ← Nat.gcd_rec, Nat.gcd_comm]; exact l2, hb.drew⟩, rfl⟩
      case measure => have := HL.out.1; simp [intOf]; omega
/-- The divisor of a rate's two numbers, and what is left of them. -/
theorem divisor_is {n d : Int} (h : OkR n d) (w : World) : ∃ g : Int, (∀ w, Calls Try.prog 80 #[.int .i64 n, .int .i64 d] w fun e w' => e = .returned (.int .i64 g) ∧ Below w.heap.size w w') ∧
    0 < g ∧ IntKind.i64.wrap (n.tdiv g) = normn n d ∧ IntKind.i64.wrap (d.tdiv g) = normd n d := by
  have hb := norm_ok h
  obtain ⟨N, D, g, hg, hN, hD, hc, hn, hd, e1, e2, b1, b2⟩ := norm_is h
  have hgcd : Nat.gcd (N * g) (D * g) = g := by rw [Nat.gcd_mul_right, hc, Nat.one_mul]
  rw [e1, e2] at hb ⊢
  subst hn hd
  have h0 : (g : Int) ≠ 0 := by omega
  refine ⟨g, fun w => ?_, by omega, ?_, ?_⟩
  · have := c_divisor (N * g) (D * g) (Nat.mul_pos hN hg) (by unfold OkR at h; rw [← Int.natCast_mul, ← Int.natCast_mul] at h; omega) (by unfold OkR at h; rw [← Int.natCast_mul, ← Int.natCast_mul] at h; omega) w
    rw [hgcd, Int.natCast_mul, Int.natCast_mul] at this
    exact this
  · rw [Int.mul_tdiv_cancel _ h0]; unfold OkR at hb; rw [IntKind.wrap_i64]; omega
  · rw [Int.mul_tdiv_cancel _ h0]; unfold OkR at hb; rw [IntKind.wrap_i64]; omega

set_option maxHeartbeats 1000000 in
theorem c_lowest (n d : Int) (h : OkR n d) (w : World) :
    Calls Try.prog 72 #[.int .i64 n, .int .i64 d] w fun e w' => e = .returned (.agg #[.int .i64 (normn n d), .int .i64 (normd n d)]) ∧ Below w.heap.size w w' := by
  obtain ⟨g, hD, hg, e1, e2⟩ := divisor_is h w
  have hne : (g == 0) = false := by simp; omega
  have hn2 : ¬ g = 0 := by omega
  generalize normn n d = a at *; generalize normd n d = b at *
  clear h hg
  have e1' : wrap64 (n.tdiv g) = a := by rw [← e1]; exact (IntWalk.i64_left _).symm
  have e2' : wrap64 (d.tdiv g) = b := by rw [← e2]; exact (IntWalk.i64_left _).symm
  go_enter Try.func72, Try.ntmps72
  go_wp2_with fail
  refine (hD _).mono ?_; rintro e w1 ⟨rfl, hb1⟩
  obtain ⟨x0, x1, x2⟩ := onebox hb1
  obtain ⟨f0, f1⟩ := onefree hb1
  go_wp2_with fail
  go_region
  go_wp2_with fail
  refine bodyPost_ret (v := .agg #[.int .i64 a, .int .i64 b]) (by simp [results, Try.results72, go_sem, x0, x1]) rfl ⟨rfl, ?_⟩
  have hb := (below1 w (.cells #[.int .i64 0, .int .i64 0] 43)).trans (hb1.mono (by simp))
  exact (below_set2 hb (Nat.le_refl _)).drew

set_option maxHeartbeats 2000000 in
theorem c_norm (n d : Int) (w : World) :
    Calls Try.prog 71 #[.agg #[.int .i64 n, .int .i64 d]] w fun e w' => e = .returned (.agg #[.int .i64 (normn n d), .int .i64 (normd n d)]) ∧ Below w.heap.size w w' := by
  have hc := c_check n d
  have K := ((Keeps.start w).new (.int .i64 n) (.int .i64 d) 43).alloc (.cells #[.int .i64 0, .int .i64 0] 43)
  have HO := Lib.hid (Ow2.new2 w (.cells #[.int .i64 n, .int .i64 d] 43) (.int .i64 0) (.int .i64 0) 43)
  by_cases h : OkR n d
  · rw [rc_ok h] at hc
    have hL := c_lowest n d h
    generalize normn n d = a at *; generalize normd n d = b at *
    clear h
    go_enter Try.func71, Try.ntmps71
    go_wp2_with fail
    refine (hc _).mono ?_; rintro e w0 ⟨rfl, hb0⟩
    replace K := K.below hb0
    replace HO := Lib.hid (HO.out.below hb0)
    clear hb0
    obtain ⟨y0, y1⟩ := K.one
    go_wp2_with fail
    refine (hL _).mono ?_; rintro e w1 ⟨rfl, hb1⟩
    replace K := K.below hb1
    obtain ⟨⟨o0, o1, o2⟩, f1, f2⟩ := HO.out.below hb1
    clear y0 y1
    go_wp2_with fail
    refine bodyPost_ret (v := .agg #[.int .i64 a, .int .i64 b]) (by simp [results, Try.results71, go_sem, o0, o1]) rfl ⟨rfl, ?_⟩
    exact below_set2 K.1 (by omega)
  · rw [(norm_no h).1, (norm_no h).2]
    have hz := rc_b h
    generalize rc n d = e1 at *
    clear h
    go_enter Try.func71, Try.ntmps71
    go_wp2_with fail
    refine (hc _).mono ?_; rintro e w0 ⟨rfl, hb0⟩
    replace K := K.below hb0
    obtain ⟨⟨o0, o1, o2⟩, f1, f2⟩ := HO.out.below hb0
    go_wp2_with fail
    refine bodyPost_ret (v := .agg #[.int .i64 0, .int .i64 0]) (by simp [results, Try.results71, go_sem, o0, o1]) rfl ⟨rfl, ?_⟩
    exact below_set2 K.1 (by omega)
/- What ratio's own product answers. The condition: numbers in range. -/
set_option maxHeartbeats 2000000 in
theorem c_product (n d : Int) (hn : InR n) (hd : InR d) (w : World) :
    Calls Try.prog 74 #[.agg #[.int .i64 n, .int .i64 d]] w fun e w' => e = .returned (.agg #[.int .i64 (vhi (n * d)), .int .u64 (vlo (n * d))]) ∧ Below w.heap.size w w' := by
  have hM := w_mul n d hn hd
  have K := ((Keeps.start w).new (.int .i64 n) (.int .i64 d) 105).alloc (.cells #[.int .i64 0, .int .u64 0] 112)
  have HO := Lib.hid (Ow2.new2 w (.cells #[.int .i64 n, .int .i64 d] 105) (.int .i64 0) (.int .u64 0) 112)
  generalize vhi (n * d) = a at *; generalize vlo (n * d) = b at *
  clear hn hd
  go_enter Try.func74, Try.ntmps74
  go_wp2_with fail
  refine (hM _).mono ?_; rintro e w0 ⟨rfl, hb0⟩
  replace K := K.below hb0
  obtain ⟨⟨o0, o1, o2⟩, f1, f2⟩ := HO.out.below hb0
  go_wp2_with fail
  refine bodyPost_ret (v := .agg #[.int .i64 a, .int .u64 b]) (by simp [results, Try.results74, go_sem, o0, o1]) rfl ⟨rfl, ?_⟩
  exact below_set2 K.1 (by omega)
end Go.Proofs.Ytebjmnppeohdiaa
