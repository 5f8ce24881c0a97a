/-
  What ratio's own bounded and made answer. The condition: numbers of rates that may be.
-/
import Derived.Test.YtogckefmmjbapaaRatC0
namespace Go.Proofs.Ytogckefmmjbapaa
open Go.RowKit
set_option linter.unusedSimpArgs false
set_option linter.unusedVariables false

/-- What is told of a product: itself, or nought and the error. -/
def bv (p : Int) : Int := if p ≤ 1000000000000 then p else 0
def be (p : Int) : Int := if p ≤ 1000000000000 then 0 else 10
theorem okn_inR {n : Int} (h : OkN n) : InR n := by unfold OkN at h; unfold InR; omega

set_option maxHeartbeats 2000000 in
theorem c_bounded (n d : Int) (hn : OkN n) (hd : OkN d) (w : World) :
    Calls Try.prog 48 #[.func (.func 43) #[.agg #[.int .i64 n, .int .i64 d]] #[]] w fun e w' =>
      e = .returned (.tuple #[.int .i64 (bv (n * d)), .int .i64 (be (n * d))]) ∧ Below w.heap.size w w' := by
  have h1 := c_product n d (okn_inR hn) (okn_inR hd)
  have h2 := w_int (n * d) (mul_inV (okn_inR hn) (okn_inR hd))
  generalize vhi (n * d) = a at *; generalize vlo (n * d) = b at *
  have hp : 0 < n * d := Int.mul_pos (by unfold OkN at hn; omega) (by unfold OkN at hd; omega)
  by_cases hR : InR (n * d)
  · rw [tv_in hR, te_in hR] at h2
    unfold bv be
    by_cases hT : n * d ≤ 1000000000000
    · rw [if_pos hT, if_pos hT]
      have d1 : decide (1000000000000 < n * d) = false := decide_eq_false (by omega)
      generalize n * d = p at *
      clear hR hT hp hn hd
      go_enter Try.func48, Try.ntmps48
      go_wp2_with fail
      refine (h1 _).mono ?_; rintro e w1 ⟨rfl, hb1⟩
      go_wp2_with fail
      refine (h2 _).mono ?_; rintro e w2 ⟨rfl, hb2⟩
      go_wp2_with fail
      go_ret2
      exact ⟨rfl, hb1.trans (hb2.mono hb1.size)⟩
    · rw [if_neg hT, if_neg hT]
      have d1 : decide (1000000000000 < n * d) = true := decide_eq_true (by omega)
      have d2 : 1000000000000 < n * d := by omega
      generalize n * d = p at *
      clear hR hT hp hn hd
      go_enter Try.func48, Try.ntmps48
      go_wp2_with fail
      refine (h1 _).mono ?_; rintro e w1 ⟨rfl, hb1⟩
      go_wp2_with fail
      refine (h2 _).mono ?_; rintro e w2 ⟨rfl, hb2⟩
      go_wp2_with fail
      go_ret2
      exact ⟨rfl, hb1.trans (hb2.mono hb1.size)⟩
  · rw [tv_out hR, te_out hR] at h2
    unfold bv be
    rw [if_neg (by unfold InR at hR; omega), if_neg (by unfold InR at hR; omega)]
    clear hR hp hn hd
    go_enter Try.func48, Try.ntmps48
    go_wp2_with fail
    refine (h1 _).mono ?_; rintro e w1 ⟨rfl, hb1⟩
    go_wp2_with fail
    refine (h2 _).mono ?_; rintro e w2 ⟨rfl, hb2⟩
    go_wp2_with fail
    go_ret2
    exact ⟨rfl, hb1.trans (hb2.mono hb1.size)⟩

set_option maxHeartbeats 2000000 in
theorem c_made (n d m f : Int) (hn : OkN n) (hd : OkN d) (hm : OkN m) (hf : OkN f) (w : World) :
    Calls Try.prog 42 #[.func (.func 43) #[.agg #[.int .i64 n, .int .i64 d]] #[], .func (.func 43) #[.agg #[.int .i64 m, .int .i64 f]] #[]] w fun e w' =>
      e = .returned (.tuple #[.agg #[.int .i64 (if n * d ≤ 1000000000000 ∧ m * f ≤ 1000000000000 then n * d else 0), .int .i64 (if n * d ≤ 1000000000000 ∧ m * f ≤ 1000000000000 then m * f else 0)], .int .i64 (if n * d ≤ 1000000000000 ∧ m * f ≤ 1000000000000 then 0 else 10)]) ∧ Below w.heap.size w w' := by
  have h1 := c_bounded n d hn hd; have h2 := c_bounded m f hm hf
  have K := (Keeps.start w).alloc (.cells #[.int .i64 0, .int .i64 0] 24)
  have HO := Lib.hid (Ow2.new w (.int .i64 0) (.int .i64 0) 24)
  unfold bv be at h1 h2
  by_cases hp : n * d ≤ 1000000000000
  · rw [if_pos hp, if_pos hp] at h1
    by_cases hq : m * f ≤ 1000000000000
    · rw [if_pos hq, if_pos hq] at h2
      rw [if_pos ⟨hp, hq⟩, if_pos ⟨hp, hq⟩, if_pos ⟨hp, hq⟩]
      generalize n * d = p at *; generalize m * f = q at *
      clear hp hq hn hd hm hf
      go_enter Try.func42, Try.ntmps42
      go_wp2_with fail
      refine (h1 _).mono ?_; rintro e w1 ⟨rfl, hb1⟩
      replace K := K.below hb1; replace HO := Lib.hid (HO.out.below hb1); clear hb1
      go_wp2_with fail
      refine (h2 _).mono ?_; rintro e w2 ⟨rfl, hb2⟩
      replace K := K.below hb2
      obtain ⟨⟨o0, o1, o2⟩, f1, f2⟩ := HO.out.below hb2
      clear hb2
      go_wp2_with fail
      refine bodyPost_ret (v := .tuple #[.agg #[.int .i64 p, .int .i64 q], .int .i64 0]) (by simp [results, Try.results42, go_sem, o0, o1]) rfl ⟨rfl, ?_⟩
      exact below_set2 K.1 (Nat.le_refl _)
    · have hh : ¬ (n * d ≤ 1000000000000 ∧ m * f ≤ 1000000000000) := fun h => hq h.2
      rw [if_neg hq, if_neg hq] at h2
      rw [if_neg hh, if_neg hh, if_neg hh]
      generalize n * d = p at *
      clear hp hq hh hn hd hm hf
      go_enter Try.func42, Try.ntmps42
      go_wp2_with fail
      refine (h1 _).mono ?_; rintro e w1 ⟨rfl, hb1⟩
      replace K := K.below hb1; replace HO := Lib.hid (HO.out.below hb1); clear hb1
      go_wp2_with fail
      refine (h2 _).mono ?_; rintro e w2 ⟨rfl, hb2⟩
      replace K := K.below hb2
      obtain ⟨⟨o0, o1, o2⟩, f1, f2⟩ := HO.out.below hb2
      clear hb2
      go_wp2_with fail
      refine bodyPost_ret (v := .tuple #[.agg #[.int .i64 0, .int .i64 0], .int .i64 10]) (by simp [results, Try.results42, go_sem, o0, o1]) rfl ⟨rfl, ?_⟩
      exact below_set2 K.1 (Nat.le_refl _)
  · have hh : ¬ (n * d ≤ 1000000000000 ∧ m * f ≤ 1000000000000) := fun h => hp h.1
    rw [if_neg hp, if_neg hp] at h1
    rw [if_neg hh, if_neg hh, if_neg hh]
    clear hp hh hn hd hm hf
    go_enter Try.func42, Try.ntmps42
    go_wp2_with fail
    refine (h1 _).mono ?_; rintro e w1 ⟨rfl, hb1⟩
    replace K := K.below hb1
    obtain ⟨⟨o0, o1, o2⟩, f1, f2⟩ := HO.out.below hb1
    clear hb1
    go_wp2_with fail
    refine bodyPost_ret (v := .tuple #[.agg #[.int .i64 0, .int .i64 0], .int .i64 10]) (by simp [results, Try.results42, go_sem, o0, o1]) rfl ⟨rfl, ?_⟩
    exact below_set2 K.1 (Nat.le_refl _)
end Go.Proofs.Ytogckefmmjbapaa
