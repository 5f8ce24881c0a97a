/-
  What scale's Even, Scale and Floor answer, for whatever numbers in range. No conditions besides.
-/
import Derived.Test.YtnomeglccihplaaDoorScaC
namespace Go.Proofs.YtnomeglccihplaaDoor
open Go.RowKit
set_option linter.unusedSimpArgs false
set_option linter.unusedVariables false

theorem near_up {x d : Int} (h : d < x % d + x % d ∨ (x % d + x % d = d ∧ (x / d) % 2 = 1)) : nearv x d = x / d + 1 := if_pos h
theorem near_stay {x d : Int} (h : ¬ (d < x % d + x % d ∨ (x % d + x % d = d ∧ (x / d) % 2 = 1))) : nearv x d = x / d := if_neg h
theorem vlo_odd (q : Int) : (vlo q).tmod 2 = q % 2 := by
  have := vlo_U q
  rw [Int.tmod_eq_emod_of_nonneg this.1]
  unfold vlo; omega

theorem rounded_even (x d : Int) (B : Nat) (w : World) (hx : InV x) (hd : InR d) (hc : w.cell? ⟨B, 0, none⟩ = some (.int .i64 d)) (hB : B < w.heap.size) :
    Calls Tryd.prog 53 #[.agg #[.int .i64 (vhi x), .int .u64 (vlo x)], .int .i64 d, .func (.func 54) #[] #[.pointer (some ⟨B, 0, none⟩)]] w fun e w' => e = .returned (.tuple #[.int .i64 (sv (nearv x d) d), .int .i64 (se (nearv x d) d)]) ∧ Below w.heap.size w w' := by
  by_cases h : d < 1
  · rw [sv_no h, se_no h]; exact even_no x d B w h
  · have h1 : 1 ≤ d := by omega
    rw [sv_yes h1, se_yes h1]
    have r0 := Int.emod_nonneg x (show d ≠ 0 by omega)
    have r1 := Int.emod_lt_of_pos x (show 0 < d by omega)
    have hq := div_inV hx h1
    have hm : wrap64 (d - x % d) = d - x % d := by unfold wrap64; unfold InR at hd; omega
    have hcc := fun (w' : World) (hb : Below w.heap.size w w') => cell_below hc hB hb
    have hBB := fun (w' : World) (hb : Below w.heap.size w w') => Nat.lt_of_lt_of_le hB hb.size
    rcases Int.lt_trichotomy (x % d + x % d) d with hl | he | hg
    · rw [near_stay (by omega)]
      exact even_stay x d B w hx hd h1 hq (fun w' hb => above_less _ _ _ d _ B w' (hcc w' hb) (hBB w' hb) hm (by omega))
    · have hm' : wrap64 (d - x % d) = x % d := by rw [hm]; omega
      by_cases ho : (x / d) % 2 = 1
      · rw [near_up (Or.inr ⟨he, ho⟩)]
        exact even_up x d B w hx hd h1 hq (div_up_inV hx (by omega)) (fun w' hb => above_odd _ _ _ d B w' (hcc w' hb) (hBB w' hb) hm' _ (vlo_odd (x / d)) true (by rw [ho]; rfl))
      · rw [near_stay (by omega)]
        exact even_stay x d B w hx hd h1 hq (fun w' hb => above_odd _ _ _ d B w' (hcc w' hb) (hBB w' hb) hm' _ (vlo_odd (x / d)) false (by simpa using ho))
    · rw [near_up (Or.inl hg)]
      exact even_up x d B w hx hd h1 hq (div_up_inV hx (by omega)) (fun w' hb => above_more _ _ _ d _ B w' (hcc w' hb) (hBB w' hb) hm (by omega))

set_option maxHeartbeats 1000000 in
theorem s_even (x d : Int) (hx : InV x) (hd : InR d) (w : World) :
    Calls Tryd.prog 40 #[.agg #[.int .i64 (vhi x), .int .u64 (vlo x)], .int .i64 d] w fun e w' => e = .returned (.tuple #[.int .i64 (sv (nearv x d) d), .int .i64 (se (nearv x d) d)]) ∧ Below w.heap.size w w' := by
  have hmf : ∀ (fn : Fn) (first cap : Array Value) (w : World), (Instr.makeFunc fn first cap).run Tryd.prog w = .ok (.func fn first cap) w := fun _ _ _ _ => rfl
  have hR := rounded_even x d (w.heap.size + 1) ((w.alloc (.cells #[.int .i64 (vhi x), .int .u64 (vlo x)] 67)).alloc (.cells #[.int .i64 d] 3)) hx hd (by simp [go_sem]) (by simp)
  generalize sv (nearv x d) d = a at *; generalize se (nearv x d) d = b at *
  generalize vhi x = xh at *; generalize vlo x = xl at *
  clear hx hd
  go_enter Tryd.func40, Tryd.ntmps40
  go_wp2_with fail
  refine hR.mono ?_; rintro e w1 ⟨rfl, hb1⟩
  go_wp2_with fail
  go_ret2
  exact ⟨rfl, (below2 w _ _).trans (hb1.mono (by simp; omega))⟩

set_option maxHeartbeats 400000 in
theorem s_scale (x n d : Int) (hx : InR x) (hn : InR n) (hd : InR d) (w : World) :
    Calls Tryd.prog 24 #[.int .i64 x, .int .i64 n, .int .i64 d] w fun e w' => e = .returned (.tuple #[.int .i64 (sv (nearv (x * n) d) d), .int .i64 (se (nearv (x * n) d) d)]) ∧ Below w.heap.size w w' := by
  have hM := w_mul x n hx hn
  have hE := s_even (x * n) d (mul_inV hx hn) hd
  generalize sv (nearv (x * n) d) d = a at *; generalize se (nearv (x * n) d) d = b at *
  generalize vhi (x * n) = xh at *; generalize vlo (x * n) = xl at *
  clear hx hn hd
  go_enter Tryd.func24, Tryd.ntmps24
  go_wp2_with fail
  refine (hM _).mono ?_; rintro e w1 ⟨rfl, hb1⟩
  go_wp2_with fail
  refine (hE _).mono ?_; rintro e w2 ⟨rfl, hb2⟩
  go_wp2_with fail
  go_ret2
  exact ⟨rfl, hb1.trans (hb2.mono hb1.size)⟩
end Go.Proofs.YtnomeglccihplaaDoor
