/-
  What ratio's own divisor, lowest and Norm answer. The condition of the first two: numbers from 1 to 10^12 (the divisor's second one may be 0).
-/
import Derived.Test.YtogckefmmjbapaaRatA
import Derived.Test.YtogckefmmjbapaaWideD0
import Derived.Test.YtogckefmmjbapaaWideF2
import Derived.Deep.DeepCutAuto
import Derived.Deep.RegionWith
namespace Go.Proofs.Ytogckefmmjbapaa
open Go.RowKit
set_option linter.unusedSimpArgs false
set_option linter.unusedVariables false

/-- What holds at the loop's head. -/
def DivisorRel (g : Nat) (w : World) (a b : Value) (wr : World) : Prop :=
  ∃ A B : Nat, a = .int .i64 (A : Int) ∧ b = .int .i64 (B : Int) ∧ 0 < A ∧ A ≤ 1000000000000 ∧ B ≤ 1000000000000 ∧ Nat.gcd A B = g ∧ Below w.heap.size w wr

set_option maxHeartbeats 400000 in
theorem c_divisor (X Y : Nat) (hX : 0 < X) (bX : X ≤ 1000000000000) (bY : Y ≤ 1000000000000) (w : World) :
    Calls Try.prog 44 #[.int .i64 (X : Int), .int .i64 (Y : Int)] w fun e w' => e = .returned (.int .i64 ((Nat.gcd X Y : Nat) : Int)) ∧ Below w.heap.size w w' := by
  have H0 : Hid (DivisorRel (Nat.gcd X Y) w (.int .i64 (X : Int)) (.int .i64 (Y : Int)) w) := ⟨X, Y, rfl, rfl, hX, bX, bY, rfl, Below.refl _ _⟩
  generalize Nat.gcd X Y = g at *
  clear hX bX bY
  go_enter Try.func44, Try.ntmps44
  go_wp2_with fail
  go_loopw [0, 1] (fun a b wr => DivisorRel g w a b wr) (fun _ b _ => (intOf b).toNat)
  case atStart => exact H0.out
  case round =>
    obtain ⟨A, B, rfl, rfl, hA, bA, bB, hR, hb⟩ := hrel
    by_cases h0 : B = 0
    · subst h0
      have e : A = g := by rw [Nat.gcd_zero_right] at hR; exact hR
      subst e
      clear hR H0
      go_wp2_with fail
      go_ret
      exact ⟨rfl, hb⟩
    · have hne : ((B : Int) == 0) = false := by simp; omega
      have hn2 : ¬ (B : Int) = 0 := by omega
      have ht : (A : Int).tmod (B : Int) = ((A % B : Nat) : Int) := by rw [Int.tmod_eq_emod_of_nonneg (by omega), Int.natCast_emod]
      have hlt := Nat.mod_lt A (show 0 < B by omega)
      have HL := Lib.hid (And.intro hlt (And.intro hR (And.intro bB (show 0 < B by omega))))
      generalize hr : A % B = r at *
      have HR := Lib.hid hr
      clear hlt hR H0 h0 hr bA bB hA
      go_wp2_with fail
      go_region
      go_roundw
      case rel =>
        obtain ⟨l1, l2, l3, l4⟩ := HL.out
        have l5 := HR.out
        exact ⟨_, _, _, _, _, _, _, _, ⟨B, r, rfl, rfl, l4, l3, by omega, by rw [← l5, Nat.gcd_comm, ← Nat.gcd_rec, Nat.gcd_comm]; exact l2, hb.drew⟩, rfl⟩
      case measure => have := HL.out.1; simp [intOf]; omega
/-- The divisor of a rate's two numbers, and what is left of them. -/
theorem divisor_is {n d : Int} (h : OkR n d) (w : World) : ∃ g : Int, (∀ w, Calls Try.prog 44 #[.int .i64 n, .int .i64 d] w fun e w' => e = .returned (.int .i64 g) ∧ Below w.heap.size w w') ∧
    0 < g ∧ IntKind.i64.wrap (n.tdiv g) = normn n d ∧ IntKind.i64.wrap (d.tdiv g) = normd n d := by
  have hb := norm_ok h
  obtain ⟨N, D, g, hg, hN, hD, hc, hn, hd, e1, e2, b1, b2⟩ := norm_is h
  have hgcd : Nat.gcd (N * g) (D * g) = g := by rw [Nat.gcd_mul_right, hc, Nat.one_mul]
  rw [e1, e2] at hb ⊢
  subst hn hd
  have h0 : (g : Int) ≠ 0 := by omega
  refine ⟨g, fun w => ?_, by omega, ?_, ?_⟩
  · have := c_divisor (N * g) (D * g) (Nat.mul_pos hN hg) (by unfold OkR at h; rw [← Int.natCast_mul, ← Int.natCast_mul] at h; omega) (by unfold OkR at h; rw [← Int.natCast_mul, ← Int.natCast_mul] at h; omega) w
    rw [hgcd, Int.natCast_mul, Int.natCast_mul] at this
    exact this
  · rw [Int.mul_tdiv_cancel _ h0]; unfold OkR at hb; rw [IntKind.wrap_i64]; omega
  · rw [Int.mul_tdiv_cancel _ h0]; unfold OkR at hb; rw [IntKind.wrap_i64]; omega

set_option maxHeartbeats 1000000 in
theorem c_lowest (n d : Int) (h : OkR n d) (w : World) :
    Calls Try.prog 30 #[.int .i64 n, .int .i64 d] w fun e w' => e = .returned (.agg #[.int .i64 (normn n d), .int .i64 (normd n d)]) ∧ Below w.heap.size w w' := by
  obtain ⟨g, hD, hg, e1, e2⟩ := divisor_is h w
  have hne : (g == 0) = false := by simp; omega
  have hn2 : ¬ g = 0 := by omega
  generalize normn n d = a at *; generalize normd n d = b at *
  clear h hg
  have e1' : wrap64 (n.tdiv g) = a := by rw [← e1]; exact (IntWalk.i64_left _).symm
  have e2' : wrap64 (d.tdiv g) = b := by rw [← e2]; exact (IntWalk.i64_left _).symm
  go_enter Try.func30, Try.ntmps30
  go_wp2_with fail
  refine (hD _).mono ?_; rintro e w1 ⟨rfl, hb1⟩
  obtain ⟨x0, x1, x2⟩ := onebox hb1
  obtain ⟨f0, f1⟩ := onefree hb1
  go_wp2_with fail
  go_region
  go_wp2_with fail
  refine bodyPost_ret (v := .agg #[.int .i64 a, .int .i64 b]) (by simp [results, Try.results30, go_sem, x0, x1]) rfl ⟨rfl, ?_⟩
  have hb := (below1 w (.cells #[.int .i64 0, .int .i64 0] 24)).trans (hb1.mono (by simp))
  exact (below_set2 hb (Nat.le_refl _)).drew

set_option maxHeartbeats 2000000 in
theorem c_norm (n d : Int) (w : World) :
    Calls Try.prog 41 #[.agg #[.int .i64 n, .int .i64 d]] w fun e w' => e = .returned (.agg #[.int .i64 (normn n d), .int .i64 (normd n d)]) ∧ Below w.heap.size w w' := by
  have hc := c_check n d
  have K := ((Keeps.start w).new (.int .i64 n) (.int .i64 d) 24).alloc (.cells #[.int .i64 0, .int .i64 0] 24)
  have HO := Lib.hid (Ow2.new2 w (.cells #[.int .i64 n, .int .i64 d] 24) (.int .i64 0) (.int .i64 0) 24)
  by_cases h : OkR n d
  · rw [rc_ok h] at hc
    have hL := c_lowest n d h
    generalize normn n d = a at *; generalize normd n d = b at *
    clear h
    go_enter Try.func41, Try.ntmps41
    go_wp2_with fail
    refine (hc _).mono ?_; rintro e w0 ⟨rfl, hb0⟩
    replace K := K.below hb0
    replace HO := Lib.hid (HO.out.below hb0)
    clear hb0
    obtain ⟨y0, y1⟩ := K.one
    go_wp2_with fail
    refine (hL _).mono ?_; rintro e w1 ⟨rfl, hb1⟩
    replace K := K.below hb1
    obtain ⟨⟨o0, o1, o2⟩, f1, f2⟩ := HO.out.below hb1
    clear y0 y1
    go_wp2_with fail
    refine bodyPost_ret (v := .agg #[.int .i64 a, .int .i64 b]) (by simp [results, Try.results41, go_sem, o0, o1]) rfl ⟨rfl, ?_⟩
    exact below_set2 K.1 (by omega)
  · rw [(norm_no h).1, (norm_no h).2]
    have hz := rc_b h
    generalize rc n d = e1 at *
    clear h
    go_enter Try.func41, Try.ntmps41
    go_wp2_with fail
    refine (hc _).mono ?_; rintro e w0 ⟨rfl, hb0⟩
    replace K := K.below hb0
    obtain ⟨⟨o0, o1, o2⟩, f1, f2⟩ := HO.out.below hb0
    go_wp2_with fail
    refine bodyPost_ret (v := .agg #[.int .i64 0, .int .i64 0]) (by simp [results, Try.results41, go_sem, o0, o1]) rfl ⟨rfl, ?_⟩
    exact below_set2 K.1 (by omega)
end Go.Proofs.Ytogckefmmjbapaa
