/-
  What scan's own numeral answers: the text of a numeral that stands at a text's beginning, or the error's number. The condition: a text of at most 1000000 bytes.
-/
import Derived.Test.YtmmjkbjceocpmaaDoorScnA
namespace Go.Proofs.YtmmjkbjceocpmaaDoor
open Go.RowKit
set_option linter.unusedSimpArgs false
set_option linter.unusedVariables false

set_option maxHeartbeats 2000000 in
set_option maxRecDepth 100000 in
theorem nw_short (S B D T : ByteArray) (N : Bool) (n : Nat) (w : World)
    (hC : Calls Tryd.prog 27 #[.string S, .string ⟨#[45]⟩] w fun e w' => e = .returned (.tuple #[.string B, .bool N]) ∧ w' = w)
    (hLd : ∀ w, Calls Tryd.prog 28 #[.string B] w fun e w' => e = .returned (.int .i64 (n : Int)) ∧ Below w.heap.size w w')
    (i1 : (0 : Int) ≤ (n : Int)) (i2 : (n : Int) ≤ (B.size : Int)) (i3 : n ≤ B.size) (i4 : ¬ B.size < n) (hcut : B.extract 0 n = D)
    (z0 : B.toList.isEmpty = true) :
    Calls Tryd.prog 18 #[.string S] w fun e w' => e = .returned (.tuple #[.string ⟨#[]⟩, .int .i64 4]) ∧ Below w.heap.size w w' := by
  go_enter Tryd.func18, Tryd.ntmps18
  go_wp2_with fail
  refine hC.mono ?_; rintro e w0 ⟨rfl, rfl⟩
  go_wp2_with fail
  refine (hLd _).mono ?_; rintro e w1 ⟨rfl, hb1⟩
  go_wp2_with fail
  go_ret2
  exact ⟨rfl, hb1⟩

set_option maxHeartbeats 2000000 in
set_option maxRecDepth 100000 in
theorem nw_none (S B D T : ByteArray) (N : Bool) (n : Nat) (w : World)
    (hC : Calls Tryd.prog 27 #[.string S, .string ⟨#[45]⟩] w fun e w' => e = .returned (.tuple #[.string B, .bool N]) ∧ w' = w)
    (hLd : ∀ w, Calls Tryd.prog 28 #[.string B] w fun e w' => e = .returned (.int .i64 (n : Int)) ∧ Below w.heap.size w w')
    (i1 : (0 : Int) ≤ (n : Int)) (i2 : (n : Int) ≤ (B.size : Int)) (i3 : n ≤ B.size) (i4 : ¬ B.size < n) (hcut : B.extract 0 n = D)
    (z0 : B.toList.isEmpty = false) (z1 : D.toList.isEmpty = true) :
    Calls Tryd.prog 18 #[.string S] w fun e w' => e = .returned (.tuple #[.string ⟨#[]⟩, .int .i64 5]) ∧ Below w.heap.size w w' := by
  go_enter Tryd.func18, Tryd.ntmps18
  go_wp2_with fail
  refine hC.mono ?_; rintro e w0 ⟨rfl, rfl⟩
  go_wp2_with fail
  refine (hLd _).mono ?_; rintro e w1 ⟨rfl, hb1⟩
  go_wp2_with fail
  go_ret2
  exact ⟨rfl, hb1⟩

set_option maxHeartbeats 2000000 in
set_option maxRecDepth 100000 in
theorem nw_minus (S B D T : ByteArray) (N : Bool) (n : Nat) (w : World)
    (hC : Calls Tryd.prog 27 #[.string S, .string ⟨#[45]⟩] w fun e w' => e = .returned (.tuple #[.string B, .bool N]) ∧ w' = w)
    (hLd : ∀ w, Calls Tryd.prog 28 #[.string B] w fun e w' => e = .returned (.int .i64 (n : Int)) ∧ Below w.heap.size w w')
    (i1 : (0 : Int) ≤ (n : Int)) (i2 : (n : Int) ≤ (B.size : Int)) (i3 : n ≤ B.size) (i4 : ¬ B.size < n) (hcut : B.extract 0 n = D)
    (z0 : B.toList.isEmpty = false) (z1 : D.toList.isEmpty = false) (m : Nat) (j1 : (0 : Int) < (D.size : Int)) (hby : ∀ q, (D[0]'q).toNat = m) (z2 : ((m : Int) == 48) = true) (hN : N = true) :
    Calls Tryd.prog 18 #[.string S] w fun e w' => e = .returned (.tuple #[.string ⟨#[]⟩, .int .i64 5]) ∧ Below w.heap.size w w' := by
  subst hN
  go_enter Tryd.func18, Tryd.ntmps18
  go_wp2_with fail
  refine hC.mono ?_; rintro e w0 ⟨rfl, rfl⟩
  go_wp2_with fail
  refine (hLd _).mono ?_; rintro e w1 ⟨rfl, hb1⟩
  go_wp2_with fail
  go_ret2
  exact ⟨rfl, hb1⟩

set_option maxHeartbeats 2000000 in
set_option maxRecDepth 100000 in
theorem nw_nought (S B D T : ByteArray) (N : Bool) (n : Nat) (w : World)
    (hC : Calls Tryd.prog 27 #[.string S, .string ⟨#[45]⟩] w fun e w' => e = .returned (.tuple #[.string B, .bool N]) ∧ w' = w)
    (hLd : ∀ w, Calls Tryd.prog 28 #[.string B] w fun e w' => e = .returned (.int .i64 (n : Int)) ∧ Below w.heap.size w w')
    (i1 : (0 : Int) ≤ (n : Int)) (i2 : (n : Int) ≤ (B.size : Int)) (i3 : n ≤ B.size) (i4 : ¬ B.size < n) (hcut : B.extract 0 n = D)
    (z0 : B.toList.isEmpty = false) (z1 : D.toList.isEmpty = false) (m : Nat) (j1 : (0 : Int) < (D.size : Int)) (hby : ∀ q, (D[0]'q).toNat = m) (z2 : ((m : Int) == 48) = true) (hN : N = false) (z3 : (D.toList == [48]) = false) :
    Calls Tryd.prog 18 #[.string S] w fun e w' => e = .returned (.tuple #[.string ⟨#[]⟩, .int .i64 5]) ∧ Below w.heap.size w w' := by
  subst hN
  go_enter Tryd.func18, Tryd.ntmps18
  go_wp2_with fail
  refine hC.mono ?_; rintro e w0 ⟨rfl, rfl⟩
  go_wp2_with fail
  refine (hLd _).mono ?_; rintro e w1 ⟨rfl, hb1⟩
  go_wp2_with fail
  go_ret2
  exact ⟨rfl, hb1⟩

set_option maxHeartbeats 2000000 in
set_option maxRecDepth 100000 in
theorem nw_neg (S B D T : ByteArray) (N : Bool) (n : Nat) (w : World)
    (hC : Calls Tryd.prog 27 #[.string S, .string ⟨#[45]⟩] w fun e w' => e = .returned (.tuple #[.string B, .bool N]) ∧ w' = w)
    (hLd : ∀ w, Calls Tryd.prog 28 #[.string B] w fun e w' => e = .returned (.int .i64 (n : Int)) ∧ Below w.heap.size w w')
    (i1 : (0 : Int) ≤ (n : Int)) (i2 : (n : Int) ≤ (B.size : Int)) (i3 : n ≤ B.size) (i4 : ¬ B.size < n) (hcut : B.extract 0 n = D)
    (z0 : B.toList.isEmpty = false) (z1 : D.toList.isEmpty = false) (m : Nat) (j1 : (0 : Int) < (D.size : Int)) (hby : ∀ q, (D[0]'q).toNat = m) (z2 : ((m : Int) == 48) = false) (hN : N = true) (k : Nat) (k1 : wrap64 ((D.size : Int) + 1) = (k : Int)) (k2 : (0 : Int) ≤ (k : Int)) (k3 : (k : Int) ≤ (S.size : Int)) (k4 : ¬ S.size < k) (hcut2 : S.extract 0 k = T) :
    Calls Tryd.prog 18 #[.string S] w fun e w' => e = .returned (.tuple #[.string T, .int .i64 0]) ∧ Below w.heap.size w w' := by
  subst hN
  go_enter Tryd.func18, Tryd.ntmps18
  go_wp2_with fail
  refine hC.mono ?_; rintro e w0 ⟨rfl, rfl⟩
  go_wp2_with fail
  refine (hLd _).mono ?_; rintro e w1 ⟨rfl, hb1⟩
  go_wp2_with fail
  go_ret2
  exact ⟨rfl, hb1⟩

set_option maxHeartbeats 2000000 in
set_option maxRecDepth 100000 in
theorem nw_pos (S B D T : ByteArray) (N : Bool) (n : Nat) (w : World)
    (hC : Calls Tryd.prog 27 #[.string S, .string ⟨#[45]⟩] w fun e w' => e = .returned (.tuple #[.string B, .bool N]) ∧ w' = w)
    (hLd : ∀ w, Calls Tryd.prog 28 #[.string B] w fun e w' => e = .returned (.int .i64 (n : Int)) ∧ Below w.heap.size w w')
    (i1 : (0 : Int) ≤ (n : Int)) (i2 : (n : Int) ≤ (B.size : Int)) (i3 : n ≤ B.size) (i4 : ¬ B.size < n) (hcut : B.extract 0 n = D)
    (z0 : B.toList.isEmpty = false) (z1 : D.toList.isEmpty = false) (m : Nat) (j1 : (0 : Int) < (D.size : Int)) (hby : ∀ q, (D[0]'q).toNat = m) (z2 : ((m : Int) == 48) = false) (hN : N = false) :
    Calls Tryd.prog 18 #[.string S] w fun e w' => e = .returned (.tuple #[.string D, .int .i64 0]) ∧ Below w.heap.size w w' := by
  subst hN
  go_enter Tryd.func18, Tryd.ntmps18
  go_wp2_with fail
  refine hC.mono ?_; rintro e w0 ⟨rfl, rfl⟩
  go_wp2_with fail
  refine (hLd _).mono ?_; rintro e w1 ⟨rfl, hb1⟩
  go_wp2_with fail
  go_ret2
  exact ⟨rfl, hb1⟩

set_option maxHeartbeats 2000000 in
set_option maxRecDepth 100000 in
theorem nw_zero (S B D T : ByteArray) (N : Bool) (n : Nat) (w : World)
    (hC : Calls Tryd.prog 27 #[.string S, .string ⟨#[45]⟩] w fun e w' => e = .returned (.tuple #[.string B, .bool N]) ∧ w' = w)
    (hLd : ∀ w, Calls Tryd.prog 28 #[.string B] w fun e w' => e = .returned (.int .i64 (n : Int)) ∧ Below w.heap.size w w')
    (i1 : (0 : Int) ≤ (n : Int)) (i2 : (n : Int) ≤ (B.size : Int)) (i3 : n ≤ B.size) (i4 : ¬ B.size < n) (hcut : B.extract 0 n = D)
    (z0 : B.toList.isEmpty = false) (z1 : D.toList.isEmpty = false) (m : Nat) (j1 : (0 : Int) < (D.size : Int)) (hby : ∀ q, (D[0]'q).toNat = m) (z2 : ((m : Int) == 48) = true) (hN : N = false) (z3 : (D.toList == [48]) = true) :
    Calls Tryd.prog 18 #[.string S] w fun e w' => e = .returned (.tuple #[.string D, .int .i64 0]) ∧ Below w.heap.size w w' := by
  subst hN
  go_enter Tryd.func18, Tryd.ntmps18
  go_wp2_with fail
  refine hC.mono ?_; rintro e w0 ⟨rfl, rfl⟩
  go_wp2_with fail
  refine (hLd _).mono ?_; rintro e w1 ⟨rfl, hb1⟩
  go_wp2_with fail
  go_ret2
  exact ⟨rfl, hb1⟩

end Go.Proofs.YtmmjkbjceocpmaaDoor
