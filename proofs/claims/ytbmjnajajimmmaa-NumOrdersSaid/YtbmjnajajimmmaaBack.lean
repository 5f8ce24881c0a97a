/-
  NumBack of layer 1 returns true, whatever two numbers it is given. No conditions.
-/
import Derived.Test.YtbmjnajajimmmaaAwake
namespace Go.Proofs.Ytbmjnajajimmmaa
open Go.RowKit

section
variable {a b : Int} (ha : InR a) (hb : InR b) (w : World)
include ha hb
theorem bk1 (h : InR (a + b)) : Calls Try.prog 7 #[.int .i64 a, .int .i64 b] w fun e w' => e = .returned (.tuple #[.int .i64 (a + b), .int .i64 0]) ∧ w = w' := by
  have := add_any a b ha hb w; rwa [tv_in h, te_in h] at this
theorem bk1' (h : ¬ InR (a + b)) : Calls Try.prog 7 #[.int .i64 a, .int .i64 b] w fun e w' => e = .returned (.tuple #[.int .i64 0, .int .i64 10]) ∧ w = w' := by
  have := add_any a b ha hb w; rwa [tv_out h, te_out h] at this
theorem bk2 (h : InR (a + b)) : Calls Try.prog 11 #[.int .i64 (a + b), .int .i64 b] w fun e w' => e = .returned (.tuple #[.int .i64 a, .int .i64 0]) ∧ w = w' := by
  have := sub_any (a + b) b h hb w; rw [show a + b - b = a by omega] at this; rwa [tv_in ha, te_in ha] at this
theorem bk3 (h : InR (a + b)) : Calls Try.prog 11 #[.int .i64 (a + b), .int .i64 a] w fun e w' => e = .returned (.tuple #[.int .i64 b, .int .i64 0]) ∧ w = w' := by
  have := sub_any (a + b) a h ha w; rw [show a + b - a = b by omega] at this; rwa [tv_in hb, te_in hb] at this
theorem bs1 (h : InR (a - b)) : Calls Try.prog 11 #[.int .i64 a, .int .i64 b] w fun e w' => e = .returned (.tuple #[.int .i64 (a - b), .int .i64 0]) ∧ w = w' := by
  have := sub_any a b ha hb w; rwa [tv_in h, te_in h] at this
theorem bs1' (h : ¬ InR (a - b)) : Calls Try.prog 11 #[.int .i64 a, .int .i64 b] w fun e w' => e = .returned (.tuple #[.int .i64 0, .int .i64 10]) ∧ w = w' := by
  have := sub_any a b ha hb w; rwa [tv_out h, te_out h] at this
end
section
variable {a : Int} (ha : InR a) (w : World)
include ha
theorem bn1 (h : InR (-a)) : Calls Try.prog 13 #[.int .i64 a] w fun e w' => e = .returned (.tuple #[.int .i64 (-a), .int .i64 0]) ∧ w = w' := by
  have := neg_any a ha w; rwa [tv_in h, te_in h] at this
theorem bn1' (h : ¬ InR (-a)) : Calls Try.prog 13 #[.int .i64 a] w fun e w' => e = .returned (.tuple #[.int .i64 0, .int .i64 10]) ∧ w = w' := by
  have := neg_any a ha w; rwa [tv_out h, te_out h] at this
theorem bn2 (h : InR (-a)) : Calls Try.prog 13 #[.int .i64 (-a)] w fun e w' => e = .returned (.tuple #[.int .i64 a, .int .i64 0]) ∧ w = w' := by
  have := neg_any (-a) h w; rw [show - -a = a by omega] at this; rwa [tv_in ha, te_in ha] at this
theorem bn3 (h : InR (-a)) : Calls Try.prog 7 #[.int .i64 a, .int .i64 (-a)] w fun e w' => e = .returned (.tuple #[.int .i64 0, .int .i64 0]) ∧ w = w' := by
  have := add_any a (-a) ha h w; rw [show a + -a = 0 by omega] at this; rwa [tv_in zero_in, te_in zero_in] at this
theorem ba1 (h : InR (-a)) (h' : a < 0) : Calls Try.prog 15 #[.int .i64 a] w fun e w' => e = .returned (.tuple #[.int .i64 (-a), .int .i64 0]) ∧ w = w' := by
  have := abs_any a ha w; rw [show ((a.natAbs : Nat) : Int) = -a by omega] at this; rwa [tv_in h, te_in h] at this
theorem ba2 (h' : 0 ≤ a) : Calls Try.prog 15 #[.int .i64 a] w fun e w' => e = .returned (.tuple #[.int .i64 a, .int .i64 0]) ∧ w = w' := by
  have := abs_any a ha w; rw [show ((a.natAbs : Nat) : Int) = a by omega] at this; rwa [tv_in ha, te_in ha] at this
end
theorem bc1 (a b : Int) (w : World) : Calls Try.prog 16 #[.int .i64 (a - b), .int .i64 0] w fun e w' => e = .returned (.int .i64 (cmpv a b)) ∧ w = w' := by
  have := cmp_any (a - b) 0 w
  rwa [show cmpv (a - b) 0 = cmpv a b by unfold cmpv; split <;> split <;> (try split) <;> (try split) <;> omega] at this
theorem bc2 (a b : Int) (w : World) : Calls Try.prog 16 #[.int .i64 b, .int .i64 a] w fun e w' => e = .returned (.int .i64 (-cmpv a b)) ∧ w = w' := by
  have := cmp_any b a w
  rwa [show cmpv b a = -cmpv a b by unfold cmpv; split <;> split <;> (try split) <;> (try split) <;> omega] at this
theorem cmpv_bd (a b : Int) : -1 ≤ cmpv a b ∧ cmpv a b ≤ 1 := by unfold cmpv; split <;> (try split) <;> omega

set_option maxHeartbeats 1000000 in
set_option maxRecDepth 100000 in
theorem back_1 (a b : Int) (ha : InR a) (hb : InR b) (w : World) (h1 : InR (a + b)) (h2 : InR (-a)) (h3 : InR (a - b)) (h4 : a < 0) :
    Calls Try.prog 5 #[.int .i64 a, .int .i64 b] w fun e w' => e = .returned (.bool true) ∧ Below w.heap.size w w' := by
  have hc := cmpv_bd a b
  go_enter Try.func5, Try.ntmps5
  go_wp2_with (first
    | (go_at_call 7; first | ((with_reducible refine (bk1 ha hb _ h1).mono ?_); rintro e w' ⟨rfl, rfl⟩) | ((with_reducible refine (bn3 ha _ h2).mono ?_); rintro e w' ⟨rfl, rfl⟩))
    | (go_at_call 11; first | ((with_reducible refine (bk2 ha hb _ h1).mono ?_); rintro e w' ⟨rfl, rfl⟩) | ((with_reducible refine (bk3 ha hb _ h1).mono ?_); rintro e w' ⟨rfl, rfl⟩) | ((with_reducible refine (bs1 ha hb _ h3).mono ?_); rintro e w' ⟨rfl, rfl⟩))
    | (go_at_call 13; first | ((with_reducible refine (bn1 ha _ h2).mono ?_); rintro e w' ⟨rfl, rfl⟩) | ((with_reducible refine (bn2 ha _ h2).mono ?_); rintro e w' ⟨rfl, rfl⟩))
    | (go_at_call 15; ((with_reducible refine (ba1 ha _ h2 h4).mono ?_); rintro e w' ⟨rfl, rfl⟩))
    | (go_at_call 16; first | ((with_reducible refine (bc1 a b _).mono ?_); rintro e w' ⟨rfl, rfl⟩) | ((with_reducible refine (cmp_any a b _).mono ?_); rintro e w' ⟨rfl, rfl⟩) | ((with_reducible refine (bc2 a b _).mono ?_); rintro e w' ⟨rfl, rfl⟩))
    | (go_at_call 18; (with_reducible refine (awake_any _).mono ?_); rintro e w1 ⟨rfl, hb1⟩))
  all_goals go_ret
  all_goals exact ⟨rfl, hb1⟩

set_option maxHeartbeats 1000000 in
set_option maxRecDepth 100000 in
theorem back_2 (a b : Int) (ha : InR a) (hb : InR b) (w : World) (h1 : InR (a + b)) (h2 : InR (-a)) (h3 : InR (a - b)) (h4 : 0 ≤ a) :
    Calls Try.prog 5 #[.int .i64 a, .int .i64 b] w fun e w' => e = .returned (.bool true) ∧ Below w.heap.size w w' := by
  have hc := cmpv_bd a b
  go_enter Try.func5, Try.ntmps5
  go_wp2_with (first
    | (go_at_call 7; first | ((with_reducible refine (bk1 ha hb _ h1).mono ?_); rintro e w' ⟨rfl, rfl⟩) | ((with_reducible refine (bn3 ha _ h2).mono ?_); rintro e w' ⟨rfl, rfl⟩))
    | (go_at_call 11; first | ((with_reducible refine (bk2 ha hb _ h1).mono ?_); rintro e w' ⟨rfl, rfl⟩) | ((with_reducible refine (bk3 ha hb _ h1).mono ?_); rintro e w' ⟨rfl, rfl⟩) | ((with_reducible refine (bs1 ha hb _ h3).mono ?_); rintro e w' ⟨rfl, rfl⟩))
    | (go_at_call 13; first | ((with_reducible refine (bn1 ha _ h2).mono ?_); rintro e w' ⟨rfl, rfl⟩) | ((with_reducible refine (bn2 ha _ h2).mono ?_); rintro e w' ⟨rfl, rfl⟩))
    | (go_at_call 15; ((with_reducible refine (ba2 ha _ h4).mono ?_); rintro e w' ⟨rfl, rfl⟩))
    | (go_at_call 16; first | ((with_reducible refine (bc1 a b _).mono ?_); rintro e w' ⟨rfl, rfl⟩) | ((with_reducible refine (cmp_any a b _).mono ?_); rintro e w' ⟨rfl, rfl⟩) | ((with_reducible refine (bc2 a b _).mono ?_); rintro e w' ⟨rfl, rfl⟩))
    | (go_at_call 18; (with_reducible refine (awake_any _).mono ?_); rintro e w1 ⟨rfl, hb1⟩))
  all_goals go_ret
  all_goals exact ⟨rfl, hb1⟩

set_option maxHeartbeats 1000000 in
set_option maxRecDepth 100000 in
theorem back_3 (a b : Int) (ha : InR a) (hb : InR b) (w : World) (h1 : InR (a + b)) (h2 : ¬ InR (-a)) (h3 : InR (a - b)) :
    Calls Try.prog 5 #[.int .i64 a, .int .i64 b] w fun e w' => e = .returned (.bool true) ∧ Below w.heap.size w w' := by
  have hc := cmpv_bd a b
  go_enter Try.func5, Try.ntmps5
  go_wp2_with (first
    | (go_at_call 7; first | ((with_reducible refine (bk1 ha hb _ h1).mono ?_); rintro e w' ⟨rfl, rfl⟩))
    | (go_at_call 11; first | ((with_reducible refine (bk2 ha hb _ h1).mono ?_); rintro e w' ⟨rfl, rfl⟩) | ((with_reducible refine (bk3 ha hb _ h1).mono ?_); rintro e w' ⟨rfl, rfl⟩) | ((with_reducible refine (bs1 ha hb _ h3).mono ?_); rintro e w' ⟨rfl, rfl⟩))
    | (go_at_call 13; first | ((with_reducible refine (bn1' ha _ h2).mono ?_); rintro e w' ⟨rfl, rfl⟩))
    | (go_at_call 16; first | ((with_reducible refine (bc1 a b _).mono ?_); rintro e w' ⟨rfl, rfl⟩) | ((with_reducible refine (cmp_any a b _).mono ?_); rintro e w' ⟨rfl, rfl⟩) | ((with_reducible refine (bc2 a b _).mono ?_); rintro e w' ⟨rfl, rfl⟩))
    | (go_at_call 18; (with_reducible refine (awake_any _).mono ?_); rintro e w1 ⟨rfl, hb1⟩))
  all_goals go_ret
  all_goals exact ⟨rfl, hb1⟩

set_option maxHeartbeats 1000000 in
set_option maxRecDepth 100000 in
theorem back_4 (a b : Int) (ha : InR a) (hb : InR b) (w : World) (h1 : InR (a + b)) (h2 : InR (-a)) (h3 : ¬ InR (a - b)) (h4 : a < 0) :
    Calls Try.prog 5 #[.int .i64 a, .int .i64 b] w fun e w' => e = .returned (.bool true) ∧ Below w.heap.size w w' := by
  have hc := cmpv_bd a b
  go_enter Try.func5, Try.ntmps5
  go_wp2_with (first
    | (go_at_call 7; first | ((with_reducible refine (bk1 ha hb _ h1).mono ?_); rintro e w' ⟨rfl, rfl⟩) | ((with_reducible refine (bn3 ha _ h2).mono ?_); rintro e w' ⟨rfl, rfl⟩))
    | (go_at_call 11; first | ((with_reducible refine (bk2 ha hb _ h1).mono ?_); rintro e w' ⟨rfl, rfl⟩) | ((with_reducible refine (bk3 ha hb _ h1).mono ?_); rintro e w' ⟨rfl, rfl⟩) | ((with_reducible refine (bs1' ha hb _ h3).mono ?_); rintro e w' ⟨rfl, rfl⟩))
    | (go_at_call 13; first | ((with_reducible refine (bn1 ha _ h2).mono ?_); rintro e w' ⟨rfl, rfl⟩) | ((with_reducible refine (bn2 ha _ h2).mono ?_); rintro e w' ⟨rfl, rfl⟩))
    | (go_at_call 15; ((with_reducible refine (ba1 ha _ h2 h4).mono ?_); rintro e w' ⟨rfl, rfl⟩))
    | (go_at_call 16; first | ((with_reducible refine (cmp_any a b _).mono ?_); rintro e w' ⟨rfl, rfl⟩) | ((with_reducible refine (bc2 a b _).mono ?_); rintro e w' ⟨rfl, rfl⟩))
    | (go_at_call 18; (with_reducible refine (awake_any _).mono ?_); rintro e w1 ⟨rfl, hb1⟩))
  all_goals go_ret
  all_goals exact ⟨rfl, hb1⟩

set_option maxHeartbeats 1000000 in
set_option maxRecDepth 100000 in
theorem back_5 (a b : Int) (ha : InR a) (hb : InR b) (w : World) (h1 : InR (a + b)) (h2 : InR (-a)) (h3 : ¬ InR (a - b)) (h4 : 0 ≤ a) :
    Calls Try.prog 5 #[.int .i64 a, .int .i64 b] w fun e w' => e = .returned (.bool true) ∧ Below w.heap.size w w' := by
  have hc := cmpv_bd a b
  go_enter Try.func5, Try.ntmps5
  go_wp2_with (first
    | (go_at_call 7; first | ((with_reducible refine (bk1 ha hb _ h1).mono ?_); rintro e w' ⟨rfl, rfl⟩) | ((with_reducible refine (bn3 ha _ h2).mono ?_); rintro e w' ⟨rfl, rfl⟩))
    | (go_at_call 11; first | ((with_reducible refine (bk2 ha hb _ h1).mono ?_); rintro e w' ⟨rfl, rfl⟩) | ((with_reducible refine (bk3 ha hb _ h1).mono ?_); rintro e w' ⟨rfl, rfl⟩) | ((with_reducible refine (bs1' ha hb _ h3).mono ?_); rintro e w' ⟨rfl, rfl⟩))
    | (go_at_call 13; first | ((with_reducible refine (bn1 ha _ h2).mono ?_); rintro e w' ⟨rfl, rfl⟩) | ((with_reducible refine (bn2 ha _ h2).mono ?_); rintro e w' ⟨rfl, rfl⟩))
    | (go_at_call 15; ((with_reducible refine (ba2 ha _ h4).mono ?_); rintro e w' ⟨rfl, rfl⟩))
    | (go_at_call 16; first | ((with_reducible refine (cmp_any a b _).mono ?_); rintro e w' ⟨rfl, rfl⟩) | ((with_reducible refine (bc2 a b _).mono ?_); rintro e w' ⟨rfl, rfl⟩))
    | (go_at_call 18; (with_reducible refine (awake_any _).mono ?_); rintro e w1 ⟨rfl, hb1⟩))
  all_goals go_ret
  all_goals exact ⟨rfl, hb1⟩

set_option maxHeartbeats 1000000 in
set_option maxRecDepth 100000 in
theorem back_6 (a b : Int) (ha : InR a) (hb : InR b) (w : World) (h1 : InR (a + b)) (h2 : ¬ InR (-a)) (h3 : ¬ InR (a - b)) :
    Calls Try.prog 5 #[.int .i64 a, .int .i64 b] w fun e w' => e = .returned (.bool true) ∧ Below w.heap.size w w' := by
  have hc := cmpv_bd a b
  go_enter Try.func5, Try.ntmps5
  go_wp2_with (first
    | (go_at_call 7; first | ((with_reducible refine (bk1 ha hb _ h1).mono ?_); rintro e w' ⟨rfl, rfl⟩))
    | (go_at_call 11; first | ((with_reducible refine (bk2 ha hb _ h1).mono ?_); rintro e w' ⟨rfl, rfl⟩) | ((with_reducible refine (bk3 ha hb _ h1).mono ?_); rintro e w' ⟨rfl, rfl⟩) | ((with_reducible refine (bs1' ha hb _ h3).mono ?_); rintro e w' ⟨rfl, rfl⟩))
    | (go_at_call 13; first | ((with_reducible refine (bn1' ha _ h2).mono ?_); rintro e w' ⟨rfl, rfl⟩))
    | (go_at_call 16; first | ((with_reducible refine (cmp_any a b _).mono ?_); rintro e w' ⟨rfl, rfl⟩) | ((with_reducible refine (bc2 a b _).mono ?_); rintro e w' ⟨rfl, rfl⟩))
    | (go_at_call 18; (with_reducible refine (awake_any _).mono ?_); rintro e w1 ⟨rfl, hb1⟩))
  all_goals go_ret
  all_goals exact ⟨rfl, hb1⟩

set_option maxHeartbeats 1000000 in
set_option maxRecDepth 100000 in
theorem back_7 (a b : Int) (ha : InR a) (hb : InR b) (w : World) (h1 : ¬ InR (a + b)) (h2 : InR (-a)) (h3 : InR (a - b)) (h4 : a < 0) :
    Calls Try.prog 5 #[.int .i64 a, .int .i64 b] w fun e w' => e = .returned (.bool true) ∧ Below w.heap.size w w' := by
  have hc := cmpv_bd a b
  go_enter Try.func5, Try.ntmps5
  go_wp2_with (first
    | (go_at_call 7; first | ((with_reducible refine (bk1' ha hb _ h1).mono ?_); rintro e w' ⟨rfl, rfl⟩) | ((with_reducible refine (bn3 ha _ h2).mono ?_); rintro e w' ⟨rfl, rfl⟩))
    | (go_at_call 11; first | ((with_reducible refine (bs1 ha hb _ h3).mono ?_); rintro e w' ⟨rfl, rfl⟩))
    | (go_at_call 13; first | ((with_reducible refine (bn1 ha _ h2).mono ?_); rintro e w' ⟨rfl, rfl⟩) | ((with_reducible refine (bn2 ha _ h2).mono ?_); rintro e w' ⟨rfl, rfl⟩))
    | (go_at_call 15; ((with_reducible refine (ba1 ha _ h2 h4).mono ?_); rintro e w' ⟨rfl, rfl⟩))
    | (go_at_call 16; first | ((with_reducible refine (bc1 a b _).mono ?_); rintro e w' ⟨rfl, rfl⟩) | ((with_reducible refine (cmp_any a b _).mono ?_); rintro e w' ⟨rfl, rfl⟩) | ((with_reducible refine (bc2 a b _).mono ?_); rintro e w' ⟨rfl, rfl⟩))
    | (go_at_call 18; (with_reducible refine (awake_any _).mono ?_); rintro e w1 ⟨rfl, hb1⟩))
  all_goals go_ret
  all_goals exact ⟨rfl, hb1⟩

set_option maxHeartbeats 1000000 in
set_option maxRecDepth 100000 in
theorem back_8 (a b : Int) (ha : InR a) (hb : InR b) (w : World) (h1 : ¬ InR (a + b)) (h2 : InR (-a)) (h3 : InR (a - b)) (h4 : 0 ≤ a) :
    Calls Try.prog 5 #[.int .i64 a, .int .i64 b] w fun e w' => e = .returned (.bool true) ∧ Below w.heap.size w w' := by
  have hc := cmpv_bd a b
  go_enter Try.func5, Try.ntmps5
  go_wp2_with (first
    | (go_at_call 7; first | ((with_reducible refine (bk1' ha hb _ h1).mono ?_); rintro e w' ⟨rfl, rfl⟩) | ((with_reducible refine (bn3 ha _ h2).mono ?_); rintro e w' ⟨rfl, rfl⟩))
    | (go_at_call 11; first | ((with_reducible refine (bs1 ha hb _ h3).mono ?_); rintro e w' ⟨rfl, rfl⟩))
    | (go_at_call 13; first | ((with_reducible refine (bn1 ha _ h2).mono ?_); rintro e w' ⟨rfl, rfl⟩) | ((with_reducible refine (bn2 ha _ h2).mono ?_); rintro e w' ⟨rfl, rfl⟩))
    | (go_at_call 15; ((with_reducible refine (ba2 ha _ h4).mono ?_); rintro e w' ⟨rfl, rfl⟩))
    | (go_at_call 16; first | ((with_reducible refine (bc1 a b _).mono ?_); rintro e w' ⟨rfl, rfl⟩) | ((with_reducible refine (cmp_any a b _).mono ?_); rintro e w' ⟨rfl, rfl⟩) | ((with_reducible refine (bc2 a b _).mono ?_); rintro e w' ⟨rfl, rfl⟩))
    | (go_at_call 18; (with_reducible refine (awake_any _).mono ?_); rintro e w1 ⟨rfl, hb1⟩))
  all_goals go_ret
  all_goals exact ⟨rfl, hb1⟩

set_option maxHeartbeats 1000000 in
set_option maxRecDepth 100000 in
theorem back_9 (a b : Int) (ha : InR a) (hb : InR b) (w : World) (h1 : ¬ InR (a + b)) (h2 : ¬ InR (-a)) (h3 : InR (a - b)) :
    Calls Try.prog 5 #[.int .i64 a, .int .i64 b] w fun e w' => e = .returned (.bool true) ∧ Below w.heap.size w w' := by
  have hc := cmpv_bd a b
  go_enter Try.func5, Try.ntmps5
  go_wp2_with (first
    | (go_at_call 7; first | ((with_reducible refine (bk1' ha hb _ h1).mono ?_); rintro e w' ⟨rfl, rfl⟩))
    | (go_at_call 11; first | ((with_reducible refine (bs1 ha hb _ h3).mono ?_); rintro e w' ⟨rfl, rfl⟩))
    | (go_at_call 13; first | ((with_reducible refine (bn1' ha _ h2).mono ?_); rintro e w' ⟨rfl, rfl⟩))
    | (go_at_call 16; first | ((with_reducible refine (bc1 a b _).mono ?_); rintro e w' ⟨rfl, rfl⟩) | ((with_reducible refine (cmp_any a b _).mono ?_); rintro e w' ⟨rfl, rfl⟩) | ((with_reducible refine (bc2 a b _).mono ?_); rintro e w' ⟨rfl, rfl⟩))
    | (go_at_call 18; (with_reducible refine (awake_any _).mono ?_); rintro e w1 ⟨rfl, hb1⟩))
  all_goals go_ret
  all_goals exact ⟨rfl, hb1⟩

theorem back_any (a b : Int) (ha : InR a) (hb : InR b) (w : World) :
    Calls Try.prog 5 #[.int .i64 a, .int .i64 b] w fun e w' => e = .returned (.bool true) ∧ Below w.heap.size w w' := by
  by_cases h1 : InR (a + b)
  · by_cases h3 : InR (a - b)
    · by_cases h2 : InR (-a)
      · by_cases h4 : a < 0
        · exact back_1 a b ha hb w h1 h2 h3 h4
        · exact back_2 a b ha hb w h1 h2 h3 (by omega)
      · exact back_3 a b ha hb w h1 h2 h3
    · by_cases h2 : InR (-a)
      · by_cases h4 : a < 0
        · exact back_4 a b ha hb w h1 h2 h3 h4
        · exact back_5 a b ha hb w h1 h2 h3 (by omega)
      · exact back_6 a b ha hb w h1 h2 h3
  · by_cases h3 : InR (a - b)
    · by_cases h2 : InR (-a)
      · by_cases h4 : a < 0
        · exact back_7 a b ha hb w h1 h2 h3 h4
        · exact back_8 a b ha hb w h1 h2 h3 (by omega)
      · exact back_9 a b ha hb w h1 h2 h3
    · exfalso; unfold InR at ha hb h1 h3; omega

end Go.Proofs.Ytbmjnajajimmmaa
