/-
  awake of layer 5 answers true. No conditions.
-/
import Derived.Test.YtcjebegkcnnmbaaShaC
namespace Go.Proofs.Ytcjebegkcnnmbaa
open Go.RowKit
set_option linter.unusedSimpArgs false
set_option linter.unusedVariables false

theorem l_parent {x s r re : Int} (hx : InR x) (e1 : parv x s = r) (e2 : shc s = re) (w : World) :
    Calls Try.prog 7 #[.int .i64 x, .int .i64 s] w fun e w' => e = .returned (.tuple #[.int .i64 r, .int .i64 re]) ∧ Below w.heap.size w w' := by
  subst e1 e2; exact h_parent x s hx w
theorem l_minor {x s r re : Int} (hx : InR x) (e1 : minv x s = r) (e2 : shc s = re) (w : World) :
    Calls Try.prog 9 #[.int .i64 x, .int .i64 s] w fun e w' => e = .returned (.tuple #[.int .i64 r, .int .i64 re]) ∧ Below w.heap.size w w' := by
  subst e1 e2; exact h_minor x s hx w
theorem l_scheck {s re : Int} (e2 : shc s = re) (w : World) :
    Calls Try.prog 11 #[.int .i64 s] w fun e w' => e = .returned (.int .i64 re) ∧ w = w' := by
  subst e2; exact h_check s w
theorem l_chain2 {x y n d e0 : Int} (hx : InR x) (hy : InR y) (e1 : chainv [x, y] = (n, d, e0)) (b : Nat) (w : World) (c0 : w.cell? ⟨b, 0, none⟩ = some (.int .i64 x)) (c1 : w.cell? ⟨b, 1, none⟩ = some (.int .i64 y)) :
    Calls Try.prog 14 #[.slice (some ⟨b, 0, none⟩) 2 2] w fun e w' => e = .returned (.tuple #[.agg #[.int .i64 n, .int .i64 d], .int .i64 e0]) ∧ Below w.heap.size w w' := by
  have h := h_chain (some ⟨b, 0, none⟩) 2 [x, y] w ⟨by simp [hx, hy], fun i hi => ⟨b, 0, rfl, by
    match i, hi with
    | 0, _ => simpa using c0
    | 1, _ => simpa using c1⟩⟩ (by simp)
  rw [e1] at h; exact h
theorem l_chain0 (w : World) :
    Calls Try.prog 14 #[.slice none 0 0] w fun e w' => e = .returned (.tuple #[.agg #[.int .i64 1, .int .i64 1], .int .i64 0]) ∧ Below w.heap.size w w' := by
  have h := h_chain none 0 [] w ⟨by simp, fun i hi => by cases hi⟩ (by simp)
  rw [show chainv [] = (1, 1, 0) by decide +kernel] at h; exact h

theorem a_p (w : World) : Calls Try.prog 7 #[.int .i64 7, .int .i64 5000] w fun e w' => e = .returned (.tuple #[.int .i64 4, .int .i64 0]) ∧ Below w.heap.size w w' :=
  l_parent (by decide) (by decide +kernel) (by decide +kernel) w
theorem a_m (w : World) : Calls Try.prog 9 #[.int .i64 7, .int .i64 5000] w fun e w' => e = .returned (.tuple #[.int .i64 3, .int .i64 0]) ∧ Below w.heap.size w w' :=
  l_minor (by decide) (by decide +kernel) (by decide +kernel) w
theorem a_q (w : World) : Calls Try.prog 7 #[.int .i64 7, .int .i64 10001] w fun e w' => e = .returned (.tuple #[.int .i64 0, .int .i64 12]) ∧ Below w.heap.size w w' :=
  l_parent (by decide) (by decide +kernel) (by decide +kernel) w
theorem a_c1 (b : Nat) (w : World) (c0 : w.cell? ⟨b, 0, none⟩ = some (.int .i64 8000)) (c1 : w.cell? ⟨b, 1, none⟩ = some (.int .i64 5000)) :
    Calls Try.prog 14 #[.slice (some ⟨b, 0, none⟩) 2 2] w fun e w' => e = .returned (.tuple #[.agg #[.int .i64 2, .int .i64 5], .int .i64 0]) ∧ Below w.heap.size w w' :=
  l_chain2 (by decide) (by decide) (by decide +kernel) b w c0 c1
theorem a_c2 (b : Nat) (w : World) (c0 : w.cell? ⟨b, 0, none⟩ = some (.int .i64 8000)) (c1 : w.cell? ⟨b, 1, none⟩ = some (.int .i64 0)) :
    Calls Try.prog 14 #[.slice (some ⟨b, 0, none⟩) 2 2] w fun e w' => e = .returned (.tuple #[.agg #[.int .i64 0, .int .i64 1], .int .i64 0]) ∧ Below w.heap.size w w' :=
  l_chain2 (by decide) (by decide) (by decide +kernel) b w c0 c1
theorem a_k1 (w : World) : Calls Try.prog 11 #[.int .i64 (-1)] w fun e w' => e = .returned (.int .i64 12) ∧ w = w' := l_scheck (by decide +kernel) w
theorem a_k2 (w : World) : Calls Try.prog 11 #[.int .i64 10000] w fun e w' => e = .returned (.int .i64 0) ∧ w = w' := l_scheck (by decide +kernel) w

set_option maxHeartbeats 4000000 in
set_option maxRecDepth 100000 in
theorem h_awake (w : World) : Calls Try.prog 13 #[] w fun e w' => e = .returned (.bool true) ∧ Below w.heap.size w w' := by
  go_enter Try.func13, Try.ntmps13
  have K := Keeps.start w
  go_wp2_with fail
  refine (a_p _).mono ?_; rintro e w1 ⟨rfl, hb1⟩
  replace K := K.below hb1; clear hb1
  go_wp2_with fail
  refine (a_m _).mono ?_; rintro e w2 ⟨rfl, hb2⟩
  replace K := K.below hb2; clear hb2
  go_wp2_with fail
  refine (a_q _).mono ?_; rintro e w3 ⟨rfl, hb3⟩
  replace K := K.below hb3; clear hb3
  go_wp2_with fail
  refine (a_c1 _ _ (by simp [go_sem]) (by simp [go_sem])).mono ?_; rintro e w4 ⟨rfl, hb4⟩
  replace K := ((K.alloc (.cells #[.int .i64 8000, .int .i64 5000] 3)).below hb4).new (.int .i64 2) (.int .i64 5) 33; clear hb4
  go_wp2_with fail
  refine (a_c2 _ _ (by simp [go_sem]) (by simp [go_sem])).mono ?_; rintro e w5 ⟨rfl, hb5⟩
  replace K := ((K.alloc (.cells #[.int .i64 8000, .int .i64 0] 3)).below hb5).new (.int .i64 0) (.int .i64 1) 33; clear hb5
  go_wp2_with fail
  refine (l_chain0 _).mono ?_; rintro e w6 ⟨rfl, hb6⟩
  replace K := (K.below hb6).new (.int .i64 1) (.int .i64 1) 33; clear hb6
  obtain ⟨y0, y1, y2, y3, y4, y5⟩ := K.three'
  go_wp2_with fail
  refine (a_k1 _).mono ?_; rintro e w7 ⟨rfl, rfl⟩
  go_wp2_with fail
  refine (a_k2 _).mono ?_; rintro e w8 ⟨rfl, rfl⟩
  go_wp2_with fail
  go_ret
  exact ⟨rfl, K.1⟩
end Go.Proofs.Ytcjebegkcnnmbaa
