/-
  What ratio's own Less answers, for whatever rates. No conditions besides.
-/
import Derived.Test.YtkkioemlajagjaaRatC
namespace Go.Proofs.Ytkkioemlajagjaa
open Go.RowKit
set_option linter.unusedSimpArgs false
set_option linter.unusedVariables false

set_option maxHeartbeats 2000000 in
theorem c_below (n d m f : Int) (hn : InR n) (hd : InR d) (hm : InR m) (hf : InR f) (w : World) :
    Calls Try.prog 27 #[.func (.func 28) #[.agg #[.int .i64 n, .int .i64 d]] #[], .func (.func 28) #[.agg #[.int .i64 m, .int .i64 f]] #[]] w fun e w' =>
      e = .returned (.bool (decide (cmpv (n * d) (m * f) < 0))) ∧ Below w.heap.size w w' := by
  have h1 := c_product n d hn hd; have h2 := c_product m f hm hf
  have h3 := w_cmp (n * d) (m * f) (mul_inV hn hd) (mul_inV hm hf)
  generalize vhi (n * d) = a at *; generalize vlo (n * d) = b at *
  generalize vhi (m * f) = a' at *; generalize vlo (m * f) = b' at *
  generalize cmpv (n * d) (m * f) = c at *
  clear hn hd hm hf
  go_enter Try.func27, Try.ntmps27
  go_wp2_with fail
  refine (h1 _).mono ?_; rintro e w1 ⟨rfl, hb1⟩
  go_wp2_with fail
  refine (h2 _).mono ?_; rintro e w2 ⟨rfl, hb2⟩
  go_wp2_with fail
  refine (h3 _).mono ?_; rintro e w3 ⟨rfl, hb3⟩
  go_wp2_with fail
  go_ret
  exact ⟨rfl, hb1.trans ((hb2.trans (hb3.mono hb2.size)).mono hb1.size)⟩

set_option maxHeartbeats 2000000 in
theorem c_less (n d m f : Int) (w : World) :
    Calls Try.prog 13 #[.agg #[.int .i64 n, .int .i64 d], .agg #[.int .i64 m, .int .i64 f]] w fun e w' => e = .returned (.bool (lessB n d m f)) ∧ Below w.heap.size w w' := by
  have hmf : ∀ (fn : Fn) (first cap : Array Value) (w : World), (Instr.makeFunc fn first cap).run Try.prog w = .ok (.func fn first cap) w := fun _ _ _ _ => rfl
  have h1 := c_check n d; have h2 := c_check m f
  have K := (Keeps.start w).new2 (.int .i64 n) (.int .i64 d) (.int .i64 m) (.int .i64 f) 23 23
  by_cases ha : OkR n d
  · by_cases hb : OkR m f
    · rw [rc_ok ha] at h1; rw [rc_ok hb] at h2
      have h3 := c_below n f m d (ok_inR ha).1 (ok_inR hb).2 (ok_inR hb).1 (ok_inR ha).2
      have e : lessB n d m f = decide (cmpv (n * f) (m * d) < 0) := by unfold lessB; rw [decide_eq_true ha, decide_eq_true hb]; rfl
      rw [e]
      generalize decide (cmpv (n * f) (m * d) < 0) = r at *
      clear ha hb e
      go_enter Try.func13, Try.ntmps13
      go_wp2_with fail
      refine (h1 _).mono ?_; rintro e w1 ⟨rfl, hb1⟩
      replace K := K.below hb1; clear hb1
      obtain ⟨z0, z1, z2, z3⟩ := K.two
      go_wp2_with fail
      refine (h2 _).mono ?_; rintro e w2 ⟨rfl, hb2⟩
      replace K := K.below hb2; clear hb2 z0 z1 z2 z3
      obtain ⟨z0, z1, z2, z3⟩ := K.two
      go_wp2_with fail
      refine (h3 _).mono ?_; rintro e w3 ⟨rfl, hb3⟩
      replace K := K.below hb3
      go_wp2_with fail
      go_ret
      exact ⟨rfl, K.1⟩
    · rw [less_no (fun h => hb h.2)]
      rw [rc_ok ha] at h1
      have hz := rc_b hb
      generalize rc m f = e2 at *
      clear ha hb
      go_enter Try.func13, Try.ntmps13
      go_wp2_with fail
      refine (h1 _).mono ?_; rintro e w1 ⟨rfl, hb1⟩
      replace K := K.below hb1; clear hb1
      obtain ⟨z0, z1, z2, z3⟩ := K.two
      go_wp2_with fail
      refine (h2 _).mono ?_; rintro e w2 ⟨rfl, hb2⟩
      replace K := K.below hb2; clear hb2 z0 z1 z2 z3
      go_wp2_with fail
      go_ret
      exact ⟨rfl, K.1⟩
  · rw [less_no (fun h => ha h.1)]
    rw [rc_no ha] at h1
    clear ha
    go_enter Try.func13, Try.ntmps13
    go_wp2_with fail
    refine (h1 _).mono ?_; rintro e w1 ⟨rfl, hb1⟩
    replace K := K.below hb1; clear hb1
    go_wp2_with fail
    go_ret
    exact ⟨rfl, K.1⟩
end Go.Proofs.Ytkkioemlajagjaa
