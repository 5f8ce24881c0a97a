/-
  What num's Add, Sub, Neg, Abs and Cmp answer: the whole number, or nought with the error, for whatever numbers in range. No conditions besides.
-/
import Derived.Test.YtbmjnajajimmmaaChecked
import Derived.Test.YtbmjnajajimmmaaMath
import Derived.WalkKit
import Derived.WalkSpells
import Derived.RowKit3
namespace Go.Proofs.Ytbmjnajajimmmaa
open Go.RowKit

set_option maxHeartbeats 400000 in
theorem add_any (a b : Int) (ha : InR a) (hb : InR b) (w : World) :
    Calls Try.prog 7 #[.int .i64 a, .int .i64 b] w fun e w' => e = .returned (.tuple #[.int .i64 (tv (a + b)), .int .i64 (te (a + b))]) ∧ w = w' := by
  by_cases h : InR (a + b)
  · rw [tv_in h, te_in h]
    unfold InR at ha hb h
    have ht : (!decide (a + b < a) == decide (b < 0)) = false := by
      by_cases hn : b < 0
      · simp [hn]; omega
      · simp [hn]; omega
    go_enter Try.func7, Try.ntmps7
    go_wp2
    go_ret2
    exact ⟨rfl, rfl⟩
  · rw [tv_out h, te_out h]
    unfold InR at ha hb h
    have ht : (!decide (wrap64 (a + b) < a) == decide (b < 0)) = true := by
      unfold wrap64
      by_cases hn : b < 0
      · simp [hn]; omega
      · simp [hn]; omega
    go_enter Try.func7, Try.ntmps7
    go_wp2
    go_ret2
    exact ⟨rfl, rfl⟩

set_option maxHeartbeats 400000 in
theorem sub_any (a b : Int) (ha : InR a) (hb : InR b) (w : World) :
    Calls Try.prog 11 #[.int .i64 a, .int .i64 b] w fun e w' => e = .returned (.tuple #[.int .i64 (tv (a - b)), .int .i64 (te (a - b))]) ∧ w = w' := by
  by_cases h : InR (a - b)
  · rw [tv_in h, te_in h]
    unfold InR at ha hb h
    have ht : (!decide (a < a - b) == decide (b < 0)) = false := by
      by_cases hn : b < 0
      · simp [hn]; omega
      · simp [hn]; omega
    go_enter Try.func11, Try.ntmps11
    go_wp2
    go_ret2
    exact ⟨rfl, rfl⟩
  · rw [tv_out h, te_out h]
    unfold InR at ha hb h
    have ht : (!decide (a < wrap64 (a - b)) == decide (b < 0)) = true := by
      unfold wrap64
      by_cases hn : b < 0
      · simp [hn]; omega
      · simp [hn]; omega
    go_enter Try.func11, Try.ntmps11
    go_wp2
    go_ret2
    exact ⟨rfl, rfl⟩

theorem zero_in : InR 0 := by unfold InR; omega

set_option maxHeartbeats 400000 in
theorem neg_any (a : Int) (ha : InR a) (w : World) :
    Calls Try.prog 13 #[.int .i64 a] w fun e w' => e = .returned (.tuple #[.int .i64 (tv (-a)), .int .i64 (te (-a))]) ∧ w = w' := by
  have h0 := sub_any 0 a zero_in ha
  rw [show (0 : Int) - a = -a by omega] at h0
  have H := h0; clear h0
  go_enter Try.func13, Try.ntmps13
  go_wp2_with (go_at_call 11; refine (H _).mono ?_; rintro e w' ⟨rfl, rfl⟩)
  go_ret2
  exact ⟨rfl, rfl⟩

set_option maxHeartbeats 400000 in
theorem abs_any (a : Int) (ha : InR a) (w : World) :
    Calls Try.prog 15 #[.int .i64 a] w fun e w' => e = .returned (.tuple #[.int .i64 (tv a.natAbs), .int .i64 (te a.natAbs)]) ∧ w = w' := by
  by_cases h : a < 0
  · have e : ((a.natAbs : Nat) : Int) = -a := by omega
    rw [e]; clear e
    have H := neg_any a ha
    go_enter Try.func15, Try.ntmps15
    go_wp2_with (go_at_call 13; refine (H _).mono ?_; rintro e w' ⟨rfl, rfl⟩)
    go_ret2
    exact ⟨rfl, rfl⟩
  · have e : ((a.natAbs : Nat) : Int) = a := by omega
    rw [e, tv_in ha, te_in ha]; clear e
    go_enter Try.func15, Try.ntmps15
    go_wp2_with fail
    go_ret2
    exact ⟨rfl, rfl⟩

/-- -1, 0 or 1. -/
def cmpv (a b : Int) : Int := if a < b then -1 else if b < a then 1 else 0

set_option maxHeartbeats 400000 in
theorem cmp_any (a b : Int) (w : World) :
    Calls Try.prog 16 #[.int .i64 a, .int .i64 b] w fun e w' => e = .returned (.int .i64 (cmpv a b)) ∧ w = w' := by
  unfold cmpv
  by_cases h : a < b
  · rw [if_pos h]
    go_enter Try.func16, Try.ntmps16
    go_wp2
    go_ret
    exact ⟨rfl, rfl⟩
  · by_cases h' : b < a
    · rw [if_neg h, if_pos h']
      go_enter Try.func16, Try.ntmps16
      go_wp2
      go_ret
      exact ⟨rfl, rfl⟩
    · rw [if_neg h, if_neg h']
      go_enter Try.func16, Try.ntmps16
      go_wp2
      go_ret
      exact ⟨rfl, rfl⟩

end Go.Proofs.Ytbmjnajajimmmaa
