/-
  What scale's Quo answers: the quotient downward, and what is left, or the error, for whatever wide number and whatever divisor. No conditions besides.
-/
import Derived.Test.YtnomeglccihplaaDoorScaA
import Derived.Test.YtnomeglccihplaaDoorKeepG
namespace Go.Proofs.YtnomeglccihplaaDoor
open Go.RowKit
set_option linter.unusedSimpArgs false
set_option linter.unusedVariables false

theorem dq_int (l a D : Nat) : (dq l a D : Int) = ((l : Int) * 18446744073709551616 + a) / (D : Int) := by
  unfold dq; rw [Int.natCast_ediv, Int.natCast_add, Int.natCast_mul]; rfl
theorem dr_int (l a D : Nat) : (dr l a D : Int) = ((l : Int) * 18446744073709551616 + a) % (D : Int) := by
  unfold dr; rw [Int.natCast_emod, Int.natCast_add, Int.natCast_mul]; rfl

/-- The upper word first, then the lower one with what is left of the upper one. -/
theorem words_div (h L d : Int) (hd : 0 < d) :
    (h * 18446744073709551616 + L) / d = h / d * 18446744073709551616 + (h % d * 18446744073709551616 + L) / d ∧ (h * 18446744073709551616 + L) % d = (h % d * 18446744073709551616 + L) % d := by
  have e1 := Int.mul_ediv_add_emod h d
  have e : h * 18446744073709551616 + L = (h % d * 18446744073709551616 + L) + d * (h / d * 18446744073709551616) := by
    rw [← Int.mul_assoc]
    generalize h % d = r at *; generalize d * (h / d) = z at *
    omega
  rw [e, Int.add_mul_ediv_left _ _ (by omega), Int.add_mul_emod_self_left]
  exact ⟨by omega, rfl⟩
theorem words_lo (r L d : Int) (hd : 0 < d) (h0 : 0 ≤ r) (h1 : r < d) (hL : InU L) : 0 ≤ (r * 18446744073709551616 + L) / d ∧ (r * 18446744073709551616 + L) / d < 18446744073709551616 := by
  unfold InU at hL
  refine ⟨Int.ediv_nonneg (by omega) (by omega), ?_⟩
  rw [Int.ediv_lt_iff_lt_mul hd]
  have : (r + 1) * 18446744073709551616 ≤ d * 18446744073709551616 := Int.mul_le_mul_of_nonneg_right (by omega) (by omega)
  rw [Int.mul_comm 18446744073709551616 d]
  omega
theorem words_hi (p q : Int) (h0 : 0 ≤ q) (h1 : q < 18446744073709551616) : vhi (p * 18446744073709551616 + q) = wrap64 p ∧ vlo (p * 18446744073709551616 + q) = q := by
  unfold vhi vlo
  refine ⟨?_, by omega⟩
  rw [show (p * 18446744073709551616 + q) / 18446744073709551616 = p by omega]

/-- What the words' division comes to, on either side of 0. -/
theorem words_all (x d : Int) (H L D l0 : Nat) (hx : InV x) (hd : 0 < d) (eD : (D : Int) = d) (eL : (L : Int) = vlo x) (h1 : ((dq l0 H D : Int) - vhi x / d) % 18446744073709551616 = 0) (h2 : (dr l0 H D : Int) = vhi x % d) :
    wrap64 (dq l0 H D : Int) = vhi (x / d) ∧ (dq (dr l0 H D) L D : Int) = vlo (x / d) ∧ (dr (dr l0 H D) L D : Int) = x % d := by
  have hw := of_wide hx
  unfold wideOf p64 at hw
  have hl := vlo_U x
  rw [dq_int (dr l0 H D) L D, dr_int (dr l0 H D) L D, h2, eL, eD]
  have w1 := words_div (vhi x) (vlo x) d hd
  rw [hw] at w1
  have w2 := words_lo (vhi x % d) (vlo x) d hd (Int.emod_nonneg _ (by omega)) (Int.emod_lt_of_pos _ hd) hl
  have w3 := words_hi (vhi x / d) _ w2.1 w2.2
  rw [w1.1, w1.2, w3.1, w3.2]
  refine ⟨?_, rfl, rfl⟩
  generalize (dq l0 H D : Int) = a at *; generalize vhi x / d = b at *
  unfold wrap64; omega

theorem up_p (h d : Int) (H D : Nat) (eH : (H : Int) = h) (eD : (D : Int) = d) : ((dq 0 H D : Int) - h / d) % 18446744073709551616 = 0 ∧ (dr 0 H D : Int) = h % d := by
  rw [dq_int, dr_int, eH, eD]; simp
theorem up_n (h d : Int) (H D l0 : Nat) (eH : (H : Int) = h + 18446744073709551616) (eD : (D : Int) = d) (el : (l0 : Int) = d - 1) (hd : 0 < d) : ((dq l0 H D : Int) - h / d) % 18446744073709551616 = 0 ∧ (dr l0 H D : Int) = h % d := by
  rw [dq_int, dr_int, eH, eD, el]
  have e : (d - 1) * 18446744073709551616 + (h + 18446744073709551616) = h + d * 18446744073709551616 := by rw [Int.sub_mul]; omega
  rw [e, Int.add_mul_ediv_left _ _ (by omega), Int.add_mul_emod_self_left]
  exact ⟨by omega, rfl⟩

set_option maxHeartbeats 400000 in
theorem quo_no (x d : Int) (hd : d < 1) (w : World) :
    Calls Tryd.prog 68 #[.agg #[.int .i64 (vhi x), .int .u64 (vlo x)], .int .i64 d] w fun e w' =>
      e = .returned (.tuple #[.agg #[.int .i64 0, .int .u64 0], .int .i64 0, .int .i64 2]) ∧ Below w.heap.size w w' := by
  generalize vhi x = h at *; generalize vlo x = l at *
  go_enter Tryd.func68, Tryd.ntmps68
  go_wp2_with fail
  refine bodyPost_ret (v := .tuple #[.agg #[.int .i64 0, .int .u64 0], .int .i64 0, .int .i64 2]) (by simp [results, Tryd.results68, go_sem]) rfl ⟨rfl, ?_⟩
  exact below2 _ _ _

set_option maxHeartbeats 400000 in
theorem quo_walk (h l d : Int) (D : Nat) (P Q R p r : Int) (hd : 1 ≤ d) (eD : IntKind.u64.wrap d = (D : Int)) (eP : wrap64 P = p) (eR : wrap64 R = r)
    (hV : ∀ w, Calls Tryd.prog 83 #[.agg #[.int .i64 h, .int .u64 l], .int .u64 (D : Int)] w fun e w' => e = .returned (.tuple #[.int .u64 P, .int .u64 Q, .int .u64 R]) ∧ Below w.heap.size w w') (w : World) :
    Calls Tryd.prog 68 #[.agg #[.int .i64 h, .int .u64 l], .int .i64 d] w fun e w' =>
      e = .returned (.tuple #[.agg #[.int .i64 p, .int .u64 Q], .int .i64 r, .int .i64 0]) ∧ Below w.heap.size w w' := by
  go_enter Tryd.func68, Tryd.ntmps68
  go_wp2_with fail
  refine (hV _).mono ?_; rintro e w1 ⟨rfl, hb1⟩
  obtain ⟨x0, x1, x2, x3⟩ := twobox hb1
  obtain ⟨f0, f1, f2, f3⟩ := twofree hb1
  have hs := (twolt hb1).2
  go_wp2_with fail
  refine bodyPost_ret (v := .tuple #[.agg #[.int .i64 p, .int .u64 Q], .int .i64 r, .int .i64 0]) (by simp [results, Tryd.results68, go_sem, x2, x3, eP, eR]) rfl ⟨rfl, ?_⟩
  exact ((((below2 w _ _).trans (hb1.mono (by simp; omega))).setCell (by show _ ≤ w.heap.size + 1; omega) _).setCell (by show _ ≤ w.heap.size + 1; omega) _)

theorem quo_ok (x d : Int) (hx : InV x) (hd : InR d) (h1 : 1 ≤ d) (w : World) :
    Calls Tryd.prog 68 #[.agg #[.int .i64 (vhi x), .int .u64 (vlo x)], .int .i64 d] w fun e w' =>
      e = .returned (.tuple #[.agg #[.int .i64 (vhi (x / d)), .int .u64 (vlo (x / d))], .int .i64 (x % d), .int .i64 0]) ∧ Below w.heap.size w w' := by
  have hl := vlo_U x
  have hh := vhi_R x
  unfold InR at hd hh; unfold InU at hl
  obtain ⟨D, eD⟩ := Int.eq_ofNat_of_zero_le (show 0 ≤ d by omega)
  obtain ⟨L, eL⟩ := Int.eq_ofNat_of_zero_le hl.1
  have wD : IntKind.u64.wrap d = (D : Int) := by rw [IntKind.wrap_u64]; omega
  have wr : wrap64 (x % d) = x % d := by
    have := Int.emod_nonneg x (show d ≠ 0 by omega); have := Int.emod_lt_of_pos x (show 0 < d by omega)
    unfold wrap64; omega
  rcases Int.lt_or_le (vhi x) 0 with hn | hn
  · obtain ⟨H, eH⟩ := Int.eq_ofNat_of_zero_le (show 0 ≤ vhi x + 18446744073709551616 by omega)
    have u := up_n (vhi x) d H D (D - 1) eH.symm eD.symm (by omega) (by omega)
    obtain ⟨a1, a2, a3⟩ := words_all x d H L D (D - 1) hx (by omega) eD.symm eL.symm u.1 u.2
    have hV := fun w => divided_n (vhi x) H L D (D - 1) w hn (by rw [IntKind.wrap_u64]; omega) (by rw [IntKind.wrap_u64]; omega) (by omega) (by omega) (by omega) (by omega) (by omega)
    rw [← show vlo x = (L : Int) from eL, a2, a3] at hV
    exact quo_walk _ _ d D _ _ _ _ _ h1 wD a1 wr hV w
  · obtain ⟨H, eH⟩ := Int.eq_ofNat_of_zero_le hn
    have u := up_p (vhi x) d H D eH.symm eD.symm
    obtain ⟨a1, a2, a3⟩ := words_all x d H L D 0 hx (by omega) eD.symm eL.symm u.1 u.2
    have hV := fun w => divided_p (vhi x) H L D 0 w hn (by rw [IntKind.wrap_u64]; omega) rfl (by omega) (by omega) (by omega) (by omega) (by omega)
    rw [← show vlo x = (L : Int) from eL, a2, a3] at hV
    exact quo_walk _ _ d D _ _ _ _ _ h1 wD a1 wr hV w
end Go.Proofs.YtnomeglccihplaaDoor
