/-
  What decimal's own mayBe, whole and Rescale answer, for whatever amount in range and decimals. No conditions besides.
-/
import Derived.Test.YtnomeglccihplaaDoorDecN
import Derived.Test.YtnomeglccihplaaDoorScaD
import Derived.Test.YtnomeglccihplaaDoorRefDb2
namespace Go.Proofs.YtnomeglccihplaaDoor
open Go.RowKit
set_option linter.unusedSimpArgs false
set_option linter.unusedVariables false

theorem d_may (d : Int) (w : World) :
    Calls Tryd.prog 20 #[.int .i64 d] w fun e w' => e = .returned (.bool (decide (OkD d))) ∧ w = w' := by
  rcases Int.lt_or_le d 0 with h | h
  · rw [decide_eq_false (show ¬ OkD d by unfold OkD; omega)]
    have d1 : decide (0 ≤ d) = false := decide_eq_false (by omega)
    go_enter Tryd.func20, Tryd.ntmps20
    go_wp2_with fail
    go_ret
    exact ⟨rfl, rfl⟩
  · have d1 : decide (0 ≤ d) = true := decide_eq_true h
    rcases Int.lt_or_le 6 d with h' | h'
    · rw [decide_eq_false (show ¬ OkD d by unfold OkD; omega)]
      have d2 : decide (d ≤ 6) = false := decide_eq_false (by omega)
      go_enter Tryd.func20, Tryd.ntmps20
      go_wp2_with fail
      go_ret
      exact ⟨rfl, rfl⟩
    · rw [decide_eq_true (show OkD d by unfold OkD; omega)]
      have d2 : decide (d ≤ 6) = true := decide_eq_true h'
      go_enter Tryd.func20, Tryd.ntmps20
      go_wp2_with fail
      go_ret
      exact ⟨rfl, rfl⟩

set_option maxHeartbeats 1000000 in
theorem d_whole_nat (N : Nat) (h : N ≤ 6) (w : World) :
    Calls Tryd.prog 25 #[.int .i64 (N : Int)] w fun e w' => e = .returned (.int .i64 ((10 : Int) ^ N)) ∧ w = w' := by
  obtain ⟨R, hR⟩ : ∃ R, R = (10 : Int) ^ N := ⟨_, rfl⟩
  rw [← hR]
  have HR := Lib.hid hR
  clear hR
  go_enter Tryd.func25, Tryd.ntmps25
  go_wp2_with fail
  go_loop [3, 5] (fun o i => ∃ k : Nat, k ≤ N ∧ i = .int .i64 (k : Int) ∧ ∃ p : Int, o = .int .i64 p ∧ Hid (p = (10 : Int) ^ k)) (fun _ i => N - (intOf i).toNat)
  case atStart => exact ⟨0, Nat.zero_le _, rfl, 1, rfl, rfl⟩
  case round =>
    obtain ⟨k, hk, rfl, p, rfl, HP⟩ := hrel
    by_cases hlt : k < N
    · have hb : 1 ≤ p ∧ p ≤ 1000000 := by rw [HP.out]; exact ten_bd k (by omega)
      have hw : wrap64 (p * 10) = p * 10 := by unfold wrap64; omega
      go_wp2_with fail
      go_round
      case rel => exact ⟨k + 1, by omega, by go_num, p * 10, rfl, by show _ = _; rw [HP.out, Int.pow_succ]⟩
      case measure => simp [intOf]; omega
    · obtain rfl : k = N := by omega
      have e : p = R := by rw [HP.out, HR.out]
      subst e
      go_wp2_with fail
      go_ret
      exact ⟨rfl, rfl⟩
theorem d_whole (n : Int) (h : OkD n) (w : World) :
    Calls Tryd.prog 25 #[.int .i64 n] w fun e w' => e = .returned (.int .i64 (ten n)) ∧ w = w' := by
  have := d_whole_nat n.toNat (by unfold OkD at h; omega) w
  rw [Int.toNat_of_nonneg (by unfold OkD at h; omega)] at this
  exact this

set_option maxHeartbeats 1000000 in
theorem d_rescale (x d g : Int) (w : World) (hx : InR x) :
    Calls Tryd.prog 9 #[.int .i64 x, .int .i64 d, .int .i64 g] w fun e w' => e = .returned (.tuple #[.int .i64 (rsv x d g), .int .i64 (rse x d g)]) ∧ Below w.heap.size w w' := by
  have hm := d_may d; have hm' := d_may g
  unfold rsv rse
  by_cases h : OkD d
  · rw [decide_eq_true h] at hm
    by_cases h' : OkD g
    · rw [decide_eq_true h'] at hm'
      rw [if_pos ⟨h, h'⟩, if_pos ⟨h, h'⟩]
      have t1 := d_whole d h; have t2 := d_whole g h'
      have i1 := ten_inR h; have i2 := ten_inR h'
      have hS := s_scale x (ten g) (ten d) hx i2.1 i1.1
      rw [sv_yes i1.2, se_yes i1.2] at hS
      generalize tv (nearv (x * ten g) (ten d)) = a at *; generalize te (nearv (x * ten g) (ten d)) = b at *
      generalize ten d = p at *; generalize ten g = q at *
      clear h h' hx i1 i2
      go_enter Tryd.func9, Tryd.ntmps9
      go_wp2_with fail
      refine (hm _).mono ?_; rintro e w0 ⟨rfl, rfl⟩
      go_wp2_with fail
      refine (hm' _).mono ?_; rintro e w0 ⟨rfl, rfl⟩
      go_wp2_with fail
      refine (t2 _).mono ?_; rintro e w0 ⟨rfl, rfl⟩
      go_wp2_with fail
      refine (t1 _).mono ?_; rintro e w0 ⟨rfl, rfl⟩
      go_wp2_with fail
      refine (hS _).mono ?_; rintro e w1 ⟨rfl, hb1⟩
      go_wp2_with fail
      go_ret2
      exact ⟨rfl, hb1⟩
    · rw [decide_eq_false h'] at hm'
      rw [if_neg (fun k => h' k.2), if_neg (fun k => h' k.2)]
      clear h h' hx
      go_enter Tryd.func9, Tryd.ntmps9
      go_wp2_with fail
      refine (hm _).mono ?_; rintro e w0 ⟨rfl, rfl⟩
      go_wp2_with fail
      refine (hm' _).mono ?_; rintro e w0 ⟨rfl, rfl⟩
      go_wp2_with fail
      go_ret2
      exact ⟨rfl, Below.refl _ _⟩
  · rw [decide_eq_false h] at hm
    rw [if_neg (fun k => h k.1), if_neg (fun k => h k.1)]
    clear h hx
    go_enter Tryd.func9, Tryd.ntmps9
    go_wp2_with fail
    refine (hm _).mono ?_; rintro e w0 ⟨rfl, rfl⟩
    go_wp2_with fail
    go_ret2
    exact ⟨rfl, Below.refl _ _⟩
end Go.Proofs.YtnomeglccihplaaDoor
