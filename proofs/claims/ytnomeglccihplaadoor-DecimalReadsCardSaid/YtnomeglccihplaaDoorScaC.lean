/-
  What scale's own rounded answers, with Even's closure. The condition: the variable that the closure has captured holds the divisor.
-/
import Derived.Test.YtnomeglccihplaaDoorScaB
import Derived.Test.YtnomeglccihplaaDoorScaM
import Derived.Test.YtnomeglccihplaaDoorWideD0
import Derived.Deep.DeepCutAuto
import Derived.Deep.RegionWith
namespace Go.Proofs.YtnomeglccihplaaDoor
open Go.RowKit
set_option linter.unusedSimpArgs false
set_option linter.unusedVariables false

theorem cell_below {w w' : World} {B : Nat} {v : Value} (hc : w.cell? ⟨B, 0, none⟩ = some v) (hB : B < w.heap.size) (hb : Below w.heap.size w w') : w'.cell? ⟨B, 0, none⟩ = some v :=
  ((bcell hb).1 _ _ hB).trans hc

set_option maxHeartbeats 400000 in
theorem above_more (h v l d m : Int) (B : Nat) (w : World) (hc : w.cell? ⟨B, 0, none⟩ = some (.int .i64 d)) (hB : B < w.heap.size) (wd : wrap64 (d - l) = m) (c : m < l) :
    Calls Tryd.prog 54 #[.agg #[.int .i64 h, .int .u64 v], .int .i64 l, .pointer (some ⟨B, 0, none⟩)] w fun e w' => e = .returned (.bool true) ∧ Below w.heap.size w w' := by
  have hc' := cell_below hc hB (below1 w (.cells #[.int .i64 h, .int .u64 v] 67))
  clear hc
  go_enter Tryd.func54, Tryd.ntmps54
  go_wp2_with fail
  go_ret
  exact ⟨rfl, below1 _ _⟩

set_option maxHeartbeats 400000 in
theorem above_less (h v l d m : Int) (B : Nat) (w : World) (hc : w.cell? ⟨B, 0, none⟩ = some (.int .i64 d)) (hB : B < w.heap.size) (wd : wrap64 (d - l) = m) (c : l < m) :
    Calls Tryd.prog 54 #[.agg #[.int .i64 h, .int .u64 v], .int .i64 l, .pointer (some ⟨B, 0, none⟩)] w fun e w' => e = .returned (.bool false) ∧ Below w.heap.size w w' := by
  have hc' := cell_below hc hB (below1 w (.cells #[.int .i64 h, .int .u64 v] 67))
  have c1 : ¬ m < l := by omega
  have c2 : (l == m) = false := by simp; omega
  clear hc c
  go_enter Tryd.func54, Tryd.ntmps54
  go_wp2_with fail
  go_ret
  exact ⟨rfl, below1 _ _⟩

set_option maxHeartbeats 400000 in
theorem above_odd (h v l d : Int) (B : Nat) (w : World) (hc : w.cell? ⟨B, 0, none⟩ = some (.int .i64 d)) (hB : B < w.heap.size) (wd : wrap64 (d - l) = l) (r : Int) (hr : v.tmod 2 = r) (b : Bool) (hb : (r == 1) = b) :
    Calls Tryd.prog 54 #[.agg #[.int .i64 h, .int .u64 v], .int .i64 l, .pointer (some ⟨B, 0, none⟩)] w fun e w' => e = .returned (.bool b) ∧ Below w.heap.size w w' := by
  have hc' := cell_below hc hB (below1 w (.cells #[.int .i64 h, .int .u64 v] 67))
  have c1 : ¬ l < l := by omega
  clear hc
  go_enter Tryd.func54, Tryd.ntmps54
  go_wp2_with fail
  go_ret
  exact ⟨rfl, below1 _ _⟩


set_option maxHeartbeats 1000000 in
theorem even_no (x d : Int) (B : Nat) (w : World) (h : d < 1) :
    Calls Tryd.prog 53 #[.agg #[.int .i64 (vhi x), .int .u64 (vlo x)], .int .i64 d, .func (.func 54) #[] #[.pointer (some ⟨B, 0, none⟩)]] w fun e w' => e = .returned (.tuple #[.int .i64 0, .int .i64 2]) ∧ Below w.heap.size w w' := by
  have hQ := quo_no x d h
  generalize vhi x = xh at *; generalize vlo x = xl at *
  go_enter Tryd.func53, Tryd.ntmps53
  go_wp2_with fail
  refine (hQ _).mono ?_; rintro e w1 ⟨rfl, hb1⟩
  go_wp2_with fail
  go_ret2
  have j := (below1 w (.cells #[.int .i64 xh, .int .u64 xl] 67)).trans (hb1.mono (by simp))
  exact ⟨rfl, j.alloc j.size _⟩

set_option maxHeartbeats 1000000 in
theorem even_stay (x d : Int) (B : Nat) (w : World) (hx : InV x) (hd : InR d) (h1 : 1 ≤ d) (hq : InV (x / d))
    (hA : ∀ w', Below w.heap.size w w' → Calls Tryd.prog 54 #[.agg #[.int .i64 (vhi (x / d)), .int .u64 (vlo (x / d))], .int .i64 (x % d), .pointer (some ⟨B, 0, none⟩)] w' fun e w'' => e = .returned (.bool false) ∧ Below w'.heap.size w' w'') :
    Calls Tryd.prog 53 #[.agg #[.int .i64 (vhi x), .int .u64 (vlo x)], .int .i64 d, .func (.func 54) #[] #[.pointer (some ⟨B, 0, none⟩)]] w fun e w' => e = .returned (.tuple #[.int .i64 (tv (x / d)), .int .i64 (te (x / d))]) ∧ Below w.heap.size w w' := by
  have hQ := quo_ok x d hx hd h1
  have hI := w_int (x / d) hq
  generalize tv (x / d) = a at *; generalize te (x / d) = b at *
  generalize vhi (x / d) = qh at *; generalize vlo (x / d) = ql at *; generalize x % d = r at *
  generalize vhi x = xh at *; generalize vlo x = xl at *
  clear hx hd hq h1
  go_enter Tryd.func53, Tryd.ntmps53
  go_wp2_with fail
  refine (hQ _).mono ?_; rintro e w1 ⟨rfl, hb1⟩
  have K := (((Keeps.start w).new (.int .i64 xh) (.int .u64 xl) 67).below hb1).new (.int .i64 qh) (.int .u64 ql) 67
  clear hb1
  go_wp2_with fail
  refine (hA _ K.1).mono ?_; rintro e w2 ⟨rfl, hb2⟩
  replace K := K.below hb2; clear hb2
  obtain ⟨y0, y1, y2⟩ := K.at0
  go_wp2_with fail
  refine (hI _).mono ?_; rintro e w3 ⟨rfl, hb3⟩
  replace K := K.below hb3
  go_wp2_with fail
  go_ret2
  exact ⟨rfl, K.1⟩

set_option maxHeartbeats 1000000 in
theorem even_up (x d : Int) (B : Nat) (w : World) (hx : InV x) (hd : InR d) (h1 : 1 ≤ d) (hq : InV (x / d)) (hq1 : InV (x / d + 1))
    (hA : ∀ w', Below w.heap.size w w' → Calls Tryd.prog 54 #[.agg #[.int .i64 (vhi (x / d)), .int .u64 (vlo (x / d))], .int .i64 (x % d), .pointer (some ⟨B, 0, none⟩)] w' fun e w'' => e = .returned (.bool true) ∧ Below w'.heap.size w' w'') :
    Calls Tryd.prog 53 #[.agg #[.int .i64 (vhi x), .int .u64 (vlo x)], .int .i64 d, .func (.func 54) #[] #[.pointer (some ⟨B, 0, none⟩)]] w fun e w' => e = .returned (.tuple #[.int .i64 (tv (x / d + 1)), .int .i64 (te (x / d + 1))]) ∧ Below w.heap.size w w' := by
  have hQ := quo_ok x d hx hd h1
  have hI := w_int (x / d + 1) hq1
  have hO := w_of 1 (by unfold InR; omega)
  have hS := w_add (x / d) 1 hq (inV_of (by unfold InR; omega))
  rw [vt_in hq1, ve_in hq1] at hS
  generalize tv (x / d + 1) = a at *; generalize te (x / d + 1) = b at *
  generalize vhi (x / d + 1) = uh at *; generalize vlo (x / d + 1) = ul at *
  generalize vhi (x / d) = qh at *; generalize vlo (x / d) = ql at *; generalize x % d = r at *
  generalize vhi x = xh at *; generalize vlo x = xl at *; generalize vhi 1 = oh at *; generalize vlo 1 = ol at *
  clear hx hd hq h1 hq1
  go_enter Tryd.func53, Tryd.ntmps53
  go_wp2_with fail
  refine (hQ _).mono ?_; rintro e w1 ⟨rfl, hb1⟩
  have K := ((Keeps.start w).new (.int .i64 xh) (.int .u64 xl) 67).below hb1
  have O := Ow2.new w1 (.int .i64 qh) (.int .u64 ql) 67
  have hk : w.heap.size ≤ w1.heap.size := K.size
  have J := (K.alloc (.cells #[.int .i64 qh, .int .u64 ql] 67)).1
  clear hb1 K
  go_wp2_with fail
  refine (hA _ J).mono ?_; rintro e w2 ⟨rfl, hb2⟩
  replace J := J.trans (hb2.mono J.size); replace O := O.below hb2; clear hb2
  have HO := Lib.hid O
  obtain ⟨⟨y0, y1, y2⟩, y3, y4⟩ := O
  go_upto_region 5 with fail
  go_cut [] (fun wx => Below w.heap.size w wx ∧ Ow2 wx w1.heap.size (.int .i64 uh) (.int .u64 ul))
  case first =>
    go_region_with
      (first
        | (go_at_call 70; refine (hO _).mono ?_; rintro e w3 ⟨rfl, hb3⟩; (first | (have O3 := Lib.hid (HO.out.below hb3); have J3 := Lib.hid (J.trans (hb3.mono J.size))) | (have O3 := Lib.hid (HO.out.drew.below hb3); have J3 := Lib.hid (J.drew.trans (hb3.mono J.drew.size)))); obtain ⟨⟨z0, z1, z2⟩, z3, z4⟩ := O3.out)
        | (go_at_call 69; refine (hS _).mono ?_; rintro e w4 ⟨rfl, hb4⟩; (first | (have O4 := Lib.hid (O3.out.below hb4); have J4 := Lib.hid (J3.out.trans (hb4.mono J3.out.size))) | (have O4 := Lib.hid (O3.out.drew.below hb4); have J4 := Lib.hid (J3.out.drew.trans (hb4.mono J3.out.drew.size)))); obtain ⟨⟨u0, u1, u2⟩, u3, u4⟩ := O4.out))
    all_goals
      go_wp2_with fail
      go_meet
      exact ⟨(J4.out.setCell hk _).setCell hk _, O4.out.put⟩
  case rest =>
    clear y0 y1 y2 y3 y4
    obtain ⟨J5, ⟨⟨y0, y1, y2⟩, y3, y4⟩⟩ := hcut
    go_wp2_with fail
    refine (hI _).mono ?_; rintro e w3 ⟨rfl, hb3⟩
    go_wp2_with fail
    go_ret2
    exact ⟨rfl, J5.trans (hb3.mono J5.size)⟩
end Go.Proofs.YtnomeglccihplaaDoor
