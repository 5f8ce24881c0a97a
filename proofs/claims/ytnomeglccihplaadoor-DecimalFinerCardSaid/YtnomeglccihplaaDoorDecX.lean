/-
  What decimal's own Print and Parse answer: the contracts of layer 6 for the landed code. The condition: the library's variables read as they were laid.
-/
import Derived.Test.YtnomeglccihplaaDoorDecB
import Derived.Test.YtnomeglccihplaaDoorDecU
import Derived.Test.YtnomeglccihplaaDoorDecC
namespace Go.Proofs.YtnomeglccihplaaDoor
open Go.RowKit
set_option linter.unusedSimpArgs false
set_option linter.unusedVariables false

set_option maxHeartbeats 1000000 in
theorem hp6 : PrintC := by
  intro x d w hx L
  have hm := d_may d
  unfold printv
  by_cases h : OkD d
  · rw [dc_ok h, if_pos h]
    rw [decide_eq_true h] at hm
    have hd : ((d.toNat : Nat) : Int) = d := Int.toNat_of_nonneg (by unfold OkD at h; omega)
    have hP := d_printed x d.toNat (by unfold OkD at h; omega) hx w L
    rw [hd] at hP
    generalize bs (dtext x d.toNat) = T at *
    clear h hx hd
    go_enter Tryd.func7, Tryd.ntmps7
    go_wp2_with fail
    refine (hm _).mono ?_; rintro e w0 ⟨rfl, rfl⟩
    go_wp2_with fail
    refine hP.mono ?_; rintro e w1 ⟨rfl, hb1⟩
    go_wp2_with fail
    go_ret2
    exact ⟨rfl, hb1⟩
  · rw [dc_no h, if_neg h]
    rw [decide_eq_false h] at hm
    clear h hx
    go_enter Tryd.func7, Tryd.ntmps7
    go_wp2_with fail
    refine (hm _).mono ?_; rintro e w0 ⟨rfl, rfl⟩
    go_wp2_with fail
    go_ret2
    exact ⟨rfl, Below.refl _ _⟩

theorem hr6 : RescaleC := fun x d g w hx => d_rescale x d g w hx

/-- What is told of a text that is not taken apart well. -/
theorem parse_bad {l : List UInt8} {d : Int} (h : OkD d) (hn : dtext (sval l) d.toNat ≠ l) : parsev l d = 0 ∧ parsee l d = 5 := by
  unfold parsev parsee
  rw [if_pos h, if_pos h, if_neg hn, if_neg hn]; exact ⟨rfl, rfl⟩
theorem parse_good {l : List UInt8} {d : Int} (h : OkD d) (hn : dtext (sval l) d.toNat = l) : parsev l d = tv (sval l) ∧ parsee l d = te (sval l) := by
  unfold parsev parsee
  rw [if_pos h, if_pos h, if_pos hn, if_pos hn]; exact ⟨rfl, rfl⟩
theorem bad_pok {l : List UInt8} {d : Nat} (h : pok (body l) d = false) : dtext (sval l) d ≠ l := fun e => by
  have := (take_dtext (sval l) d).2.1
  rw [e, h] at this; cases this
theorem bad_wh {l : List UInt8} {d : Nat} (h : badw (wh (body l) d) = true) : dtext (sval l) d ≠ l := fun e => by
  have := (take_dtext (sval l) d).2.2.1
  rw [e, h] at this; cases this
theorem bad_rest {l : List UInt8} {d : Nat} (h : (wh (body l) d ++ fr (body l) d).dropWhile isdig ≠ []) : dtext (sval l) d ≠ l := fun e => by
  have := (take_dtext (sval l) d).2.2.2
  rw [e] at this
  rw [this, (while_all isdig _ (full_isdig _ _)).2] at h
  exact h rfl
theorem bad_zero {l : List UInt8} {d : Nat} (h1 : neg45 l = true) (h2 : pval (wh (body l) d ++ fr (body l) d) = 0) : dtext (sval l) d ≠ l := fun e => by
  have h := take_dtext (sval l) d
  have h3 := h.2.2.2
  have h4 := h.1
  rw [e] at h3 h4
  rw [h3, pval_full] at h2
  rw [h1] at h4
  have := of_decide_eq_true h4.symm
  omega
theorem drop_nil (p : UInt8 → Bool) : ∀ l : List UInt8, l.dropWhile p = [] → (∀ b ∈ l, p b = true) ∧ l.takeWhile p = l
  | [], _ => ⟨by simp, rfl⟩
  | a :: l, h => by
    cases ha : p a
    · rw [List.dropWhile_cons, ha] at h; simp at h
    · rw [List.dropWhile_cons, ha, if_pos rfl] at h
      have ih := drop_nil p l h
      refine ⟨?_, by rw [List.takeWhile_cons, ha, if_pos rfl, ih.2]⟩
      intro b hb
      rcases List.mem_cons.1 hb with rfl | hb
      · exact ha
      · exact ih.1 b hb
theorem wf_len (s : List UInt8) (d : Nat) : (wh s d).length + (fr s d).length ≤ s.length := by
  unfold wh fr
  split
  · simp
  · have := congrArg List.length (List.takeWhile_append_dropWhile (p := fun b => b != (46 : UInt8)) (l := s))
    rw [List.length_append] at this
    rw [List.length_drop]; omega
theorem body_len (l : List UInt8) : (body l).length ≤ l.length := by unfold body; split <;> simp

set_option maxHeartbeats 2000000 in
set_option maxRecDepth 100000 in
theorem pw_empty (S B A F T R : ByteArray) (N : Bool) (d n : Int) (w : World)
    (hm : ∀ w, Calls Tryd.prog 20 #[.int .i64 d] w fun e w' => e = .returned (.bool true) ∧ w = w')
    (hC : Calls Tryd.prog 27 #[.string S, .string ⟨#[45]⟩] w fun e w' => e = .returned (.tuple #[.string B, .bool N]) ∧ w' = w)
    (hPa : Calls Tryd.prog 28 #[.string B, .int .i64 d] w fun e w' => e = .returned (.tuple #[.string A, .string F, .bool true]) ∧ Below w.heap.size w w')
    (hcat : ∀ w, (Op.stringOp .add A F).run Tryd.prog w = .ok (.string T) w)
    (hT : ∀ w, Calls Tryd.prog 29 #[.string T] w fun e w' => e = .returned (.tuple #[.int .u64 n, .string R]) ∧ Below w.heap.size w w')
    (z1 : A.toList.isEmpty = true) :
    Calls Tryd.prog 12 #[.string S, .int .i64 d] w fun e w' => e = .returned (.tuple #[.int .i64 0, .int .i64 5]) ∧ Below w.heap.size w w' := by
  go_enter Tryd.func12, Tryd.ntmps12
  go_wp2_with fail
  refine (hm _).mono ?_; rintro e w0 ⟨rfl, rfl⟩
  go_wp2_with fail
  refine hC.mono ?_; rintro e w0 ⟨rfl, rfl⟩
  go_wp2_with fail
  refine hPa.mono ?_; rintro e w1 ⟨rfl, hb1⟩
  go_wp2_with fail
  go_ret2
  exact ⟨rfl, hb1⟩

set_option maxHeartbeats 2000000 in
set_option maxRecDepth 100000 in
theorem pw_nought (S B A F T R : ByteArray) (N : Bool) (d n : Int) (w : World)
    (hm : ∀ w, Calls Tryd.prog 20 #[.int .i64 d] w fun e w' => e = .returned (.bool true) ∧ w = w')
    (hC : Calls Tryd.prog 27 #[.string S, .string ⟨#[45]⟩] w fun e w' => e = .returned (.tuple #[.string B, .bool N]) ∧ w' = w)
    (hPa : Calls Tryd.prog 28 #[.string B, .int .i64 d] w fun e w' => e = .returned (.tuple #[.string A, .string F, .bool true]) ∧ Below w.heap.size w w')
    (hcat : ∀ w, (Op.stringOp .add A F).run Tryd.prog w = .ok (.string T) w)
    (hT : ∀ w, Calls Tryd.prog 29 #[.string T] w fun e w' => e = .returned (.tuple #[.int .u64 n, .string R]) ∧ Below w.heap.size w w')
    (z1 : A.toList.isEmpty = false) (z2 : (A.toList == [48]) = false) (m : Nat) (i2 : (0 : Int) < (A.size : Int)) (hby : ∀ q, (A[0]'q).toNat = m) (z3 : ((m : Int) == 48) = true) :
    Calls Tryd.prog 12 #[.string S, .int .i64 d] w fun e w' => e = .returned (.tuple #[.int .i64 0, .int .i64 5]) ∧ Below w.heap.size w w' := by
  go_enter Tryd.func12, Tryd.ntmps12
  go_wp2_with fail
  refine (hm _).mono ?_; rintro e w0 ⟨rfl, rfl⟩
  go_wp2_with fail
  refine hC.mono ?_; rintro e w0 ⟨rfl, rfl⟩
  go_wp2_with fail
  refine hPa.mono ?_; rintro e w1 ⟨rfl, hb1⟩
  go_wp2_with fail
  go_ret2
  exact ⟨rfl, hb1⟩

set_option maxHeartbeats 2000000 in
set_option maxRecDepth 100000 in
theorem pw_rest_a (S B A F T R : ByteArray) (N : Bool) (d n : Int) (w : World)
    (hm : ∀ w, Calls Tryd.prog 20 #[.int .i64 d] w fun e w' => e = .returned (.bool true) ∧ w = w')
    (hC : Calls Tryd.prog 27 #[.string S, .string ⟨#[45]⟩] w fun e w' => e = .returned (.tuple #[.string B, .bool N]) ∧ w' = w)
    (hPa : Calls Tryd.prog 28 #[.string B, .int .i64 d] w fun e w' => e = .returned (.tuple #[.string A, .string F, .bool true]) ∧ Below w.heap.size w w')
    (hcat : ∀ w, (Op.stringOp .add A F).run Tryd.prog w = .ok (.string T) w)
    (hT : ∀ w, Calls Tryd.prog 29 #[.string T] w fun e w' => e = .returned (.tuple #[.int .u64 n, .string R]) ∧ Below w.heap.size w w')
    (z1 : A.toList.isEmpty = false) (z2 : (A.toList == [48]) = true) (z4 : R.toList.isEmpty = false) :
    Calls Tryd.prog 12 #[.string S, .int .i64 d] w fun e w' => e = .returned (.tuple #[.int .i64 0, .int .i64 5]) ∧ Below w.heap.size w w' := by
  go_enter Tryd.func12, Tryd.ntmps12
  go_wp2_with fail
  refine (hm _).mono ?_; rintro e w0 ⟨rfl, rfl⟩
  go_wp2_with fail
  refine hC.mono ?_; rintro e w0 ⟨rfl, rfl⟩
  go_wp2_with fail
  refine hPa.mono ?_; rintro e w1 ⟨rfl, hb1⟩
  go_wp2_with fail
  refine (hT _).mono ?_; rintro e w2 ⟨rfl, hb2⟩
  have HB := Lib.hid (hb1.trans (hb2.mono hb1.size))
  go_wp2_with fail
  go_ret2
  exact ⟨rfl, HB.out⟩

set_option maxHeartbeats 2000000 in
set_option maxRecDepth 100000 in
theorem pw_zero_a (S B A F T R : ByteArray) (N : Bool) (d n pv pe : Int) (w : World)
    (hm : ∀ w, Calls Tryd.prog 20 #[.int .i64 d] w fun e w' => e = .returned (.bool true) ∧ w = w')
    (hC : Calls Tryd.prog 27 #[.string S, .string ⟨#[45]⟩] w fun e w' => e = .returned (.tuple #[.string B, .bool N]) ∧ w' = w)
    (hPa : Calls Tryd.prog 28 #[.string B, .int .i64 d] w fun e w' => e = .returned (.tuple #[.string A, .string F, .bool true]) ∧ Below w.heap.size w w')
    (hcat : ∀ w, (Op.stringOp .add A F).run Tryd.prog w = .ok (.string T) w)
    (hT : ∀ w, Calls Tryd.prog 29 #[.string T] w fun e w' => e = .returned (.tuple #[.int .u64 n, .string R]) ∧ Below w.heap.size w w')
    (hS : ∀ w, Calls Tryd.prog 30 #[.int .u64 n, .bool N] w fun e w' => e = .returned (.tuple #[.int .i64 pv, .int .i64 pe]) ∧ w = w')
    (z1 : A.toList.isEmpty = false) (z2 : (A.toList == [48]) = true) (z4 : R.toList.isEmpty = true) (hN : N = true) (z5 : (n == 0) = true) :
    Calls Tryd.prog 12 #[.string S, .int .i64 d] w fun e w' => e = .returned (.tuple #[.int .i64 0, .int .i64 5]) ∧ Below w.heap.size w w' := by
  subst hN
  go_enter Tryd.func12, Tryd.ntmps12
  go_wp2_with fail
  refine (hm _).mono ?_; rintro e w0 ⟨rfl, rfl⟩
  go_wp2_with fail
  refine hC.mono ?_; rintro e w0 ⟨rfl, rfl⟩
  go_wp2_with fail
  refine hPa.mono ?_; rintro e w1 ⟨rfl, hb1⟩
  go_wp2_with fail
  refine (hT _).mono ?_; rintro e w2 ⟨rfl, hb2⟩
  have HB := Lib.hid (hb1.trans (hb2.mono hb1.size))
  go_wp2_with fail
  go_ret2
  exact ⟨rfl, HB.out⟩

set_option maxHeartbeats 2000000 in
set_option maxRecDepth 100000 in
theorem pw_minus_a (S B A F T R : ByteArray) (N : Bool) (d n pv pe : Int) (w : World)
    (hm : ∀ w, Calls Tryd.prog 20 #[.int .i64 d] w fun e w' => e = .returned (.bool true) ∧ w = w')
    (hC : Calls Tryd.prog 27 #[.string S, .string ⟨#[45]⟩] w fun e w' => e = .returned (.tuple #[.string B, .bool N]) ∧ w' = w)
    (hPa : Calls Tryd.prog 28 #[.string B, .int .i64 d] w fun e w' => e = .returned (.tuple #[.string A, .string F, .bool true]) ∧ Below w.heap.size w w')
    (hcat : ∀ w, (Op.stringOp .add A F).run Tryd.prog w = .ok (.string T) w)
    (hT : ∀ w, Calls Tryd.prog 29 #[.string T] w fun e w' => e = .returned (.tuple #[.int .u64 n, .string R]) ∧ Below w.heap.size w w')
    (hS : ∀ w, Calls Tryd.prog 30 #[.int .u64 n, .bool N] w fun e w' => e = .returned (.tuple #[.int .i64 pv, .int .i64 pe]) ∧ w = w')
    (z1 : A.toList.isEmpty = false) (z2 : (A.toList == [48]) = true) (z4 : R.toList.isEmpty = true) (hN : N = true) (z5 : (n == 0) = false) :
    Calls Tryd.prog 12 #[.string S, .int .i64 d] w fun e w' => e = .returned (.tuple #[.int .i64 pv, .int .i64 pe]) ∧ Below w.heap.size w w' := by
  subst hN
  go_enter Tryd.func12, Tryd.ntmps12
  go_wp2_with fail
  refine (hm _).mono ?_; rintro e w0 ⟨rfl, rfl⟩
  go_wp2_with fail
  refine hC.mono ?_; rintro e w0 ⟨rfl, rfl⟩
  go_wp2_with fail
  refine hPa.mono ?_; rintro e w1 ⟨rfl, hb1⟩
  go_wp2_with fail
  refine (hT _).mono ?_; rintro e w2 ⟨rfl, hb2⟩
  have HB := Lib.hid (hb1.trans (hb2.mono hb1.size))
  go_wp2_with fail
  refine (hS _).mono ?_; rintro e w3 ⟨rfl, rfl⟩
  go_wp2_with fail
  go_ret2
  exact ⟨rfl, HB.out⟩

set_option maxHeartbeats 2000000 in
set_option maxRecDepth 100000 in
theorem pw_plus_a (S B A F T R : ByteArray) (N : Bool) (d n pv pe : Int) (w : World)
    (hm : ∀ w, Calls Tryd.prog 20 #[.int .i64 d] w fun e w' => e = .returned (.bool true) ∧ w = w')
    (hC : Calls Tryd.prog 27 #[.string S, .string ⟨#[45]⟩] w fun e w' => e = .returned (.tuple #[.string B, .bool N]) ∧ w' = w)
    (hPa : Calls Tryd.prog 28 #[.string B, .int .i64 d] w fun e w' => e = .returned (.tuple #[.string A, .string F, .bool true]) ∧ Below w.heap.size w w')
    (hcat : ∀ w, (Op.stringOp .add A F).run Tryd.prog w = .ok (.string T) w)
    (hT : ∀ w, Calls Tryd.prog 29 #[.string T] w fun e w' => e = .returned (.tuple #[.int .u64 n, .string R]) ∧ Below w.heap.size w w')
    (hS : ∀ w, Calls Tryd.prog 30 #[.int .u64 n, .bool N] w fun e w' => e = .returned (.tuple #[.int .i64 pv, .int .i64 pe]) ∧ w = w')
    (z1 : A.toList.isEmpty = false) (z2 : (A.toList == [48]) = true) (z4 : R.toList.isEmpty = true) (hN : N = false) :
    Calls Tryd.prog 12 #[.string S, .int .i64 d] w fun e w' => e = .returned (.tuple #[.int .i64 pv, .int .i64 pe]) ∧ Below w.heap.size w w' := by
  subst hN
  go_enter Tryd.func12, Tryd.ntmps12
  go_wp2_with fail
  refine (hm _).mono ?_; rintro e w0 ⟨rfl, rfl⟩
  go_wp2_with fail
  refine hC.mono ?_; rintro e w0 ⟨rfl, rfl⟩
  go_wp2_with fail
  refine hPa.mono ?_; rintro e w1 ⟨rfl, hb1⟩
  go_wp2_with fail
  refine (hT _).mono ?_; rintro e w2 ⟨rfl, hb2⟩
  have HB := Lib.hid (hb1.trans (hb2.mono hb1.size))
  go_wp2_with fail
  refine (hS _).mono ?_; rintro e w3 ⟨rfl, rfl⟩
  go_wp2_with fail
  go_ret2
  exact ⟨rfl, HB.out⟩

set_option maxHeartbeats 2000000 in
set_option maxRecDepth 100000 in
theorem pw_rest_b (S B A F T R : ByteArray) (N : Bool) (d n : Int) (w : World)
    (hm : ∀ w, Calls Tryd.prog 20 #[.int .i64 d] w fun e w' => e = .returned (.bool true) ∧ w = w')
    (hC : Calls Tryd.prog 27 #[.string S, .string ⟨#[45]⟩] w fun e w' => e = .returned (.tuple #[.string B, .bool N]) ∧ w' = w)
    (hPa : Calls Tryd.prog 28 #[.string B, .int .i64 d] w fun e w' => e = .returned (.tuple #[.string A, .string F, .bool true]) ∧ Below w.heap.size w w')
    (hcat : ∀ w, (Op.stringOp .add A F).run Tryd.prog w = .ok (.string T) w)
    (hT : ∀ w, Calls Tryd.prog 29 #[.string T] w fun e w' => e = .returned (.tuple #[.int .u64 n, .string R]) ∧ Below w.heap.size w w')
    (z1 : A.toList.isEmpty = false) (z2 : (A.toList == [48]) = false) (m : Nat) (i2 : (0 : Int) < (A.size : Int)) (hby : ∀ q, (A[0]'q).toNat = m) (z3 : ((m : Int) == 48) = false) (z4 : R.toList.isEmpty = false) :
    Calls Tryd.prog 12 #[.string S, .int .i64 d] w fun e w' => e = .returned (.tuple #[.int .i64 0, .int .i64 5]) ∧ Below w.heap.size w w' := by
  go_enter Tryd.func12, Tryd.ntmps12
  go_wp2_with fail
  refine (hm _).mono ?_; rintro e w0 ⟨rfl, rfl⟩
  go_wp2_with fail
  refine hC.mono ?_; rintro e w0 ⟨rfl, rfl⟩
  go_wp2_with fail
  refine hPa.mono ?_; rintro e w1 ⟨rfl, hb1⟩
  go_wp2_with fail
  refine (hT _).mono ?_; rintro e w2 ⟨rfl, hb2⟩
  have HB := Lib.hid (hb1.trans (hb2.mono hb1.size))
  go_wp2_with fail
  go_ret2
  exact ⟨rfl, HB.out⟩

set_option maxHeartbeats 2000000 in
set_option maxRecDepth 100000 in
theorem pw_zero_b (S B A F T R : ByteArray) (N : Bool) (d n pv pe : Int) (w : World)
    (hm : ∀ w, Calls Tryd.prog 20 #[.int .i64 d] w fun e w' => e = .returned (.bool true) ∧ w = w')
    (hC : Calls Tryd.prog 27 #[.string S, .string ⟨#[45]⟩] w fun e w' => e = .returned (.tuple #[.string B, .bool N]) ∧ w' = w)
    (hPa : Calls Tryd.prog 28 #[.string B, .int .i64 d] w fun e w' => e = .returned (.tuple #[.string A, .string F, .bool true]) ∧ Below w.heap.size w w')
    (hcat : ∀ w, (Op.stringOp .add A F).run Tryd.prog w = .ok (.string T) w)
    (hT : ∀ w, Calls Tryd.prog 29 #[.string T] w fun e w' => e = .returned (.tuple #[.int .u64 n, .string R]) ∧ Below w.heap.size w w')
    (hS : ∀ w, Calls Tryd.prog 30 #[.int .u64 n, .bool N] w fun e w' => e = .returned (.tuple #[.int .i64 pv, .int .i64 pe]) ∧ w = w')
    (z1 : A.toList.isEmpty = false) (z2 : (A.toList == [48]) = false) (m : Nat) (i2 : (0 : Int) < (A.size : Int)) (hby : ∀ q, (A[0]'q).toNat = m) (z3 : ((m : Int) == 48) = false) (z4 : R.toList.isEmpty = true) (hN : N = true) (z5 : (n == 0) = true) :
    Calls Tryd.prog 12 #[.string S, .int .i64 d] w fun e w' => e = .returned (.tuple #[.int .i64 0, .int .i64 5]) ∧ Below w.heap.size w w' := by
  subst hN
  go_enter Tryd.func12, Tryd.ntmps12
  go_wp2_with fail
  refine (hm _).mono ?_; rintro e w0 ⟨rfl, rfl⟩
  go_wp2_with fail
  refine hC.mono ?_; rintro e w0 ⟨rfl, rfl⟩
  go_wp2_with fail
  refine hPa.mono ?_; rintro e w1 ⟨rfl, hb1⟩
  go_wp2_with fail
  refine (hT _).mono ?_; rintro e w2 ⟨rfl, hb2⟩
  have HB := Lib.hid (hb1.trans (hb2.mono hb1.size))
  go_wp2_with fail
  go_ret2
  exact ⟨rfl, HB.out⟩

set_option maxHeartbeats 2000000 in
set_option maxRecDepth 100000 in
theorem pw_minus_b (S B A F T R : ByteArray) (N : Bool) (d n pv pe : Int) (w : World)
    (hm : ∀ w, Calls Tryd.prog 20 #[.int .i64 d] w fun e w' => e = .returned (.bool true) ∧ w = w')
    (hC : Calls Tryd.prog 27 #[.string S, .string ⟨#[45]⟩] w fun e w' => e = .returned (.tuple #[.string B, .bool N]) ∧ w' = w)
    (hPa : Calls Tryd.prog 28 #[.string B, .int .i64 d] w fun e w' => e = .returned (.tuple #[.string A, .string F, .bool true]) ∧ Below w.heap.size w w')
    (hcat : ∀ w, (Op.stringOp .add A F).run Tryd.prog w = .ok (.string T) w)
    (hT : ∀ w, Calls Tryd.prog 29 #[.string T] w fun e w' => e = .returned (.tuple #[.int .u64 n, .string R]) ∧ Below w.heap.size w w')
    (hS : ∀ w, Calls Tryd.prog 30 #[.int .u64 n, .bool N] w fun e w' => e = .returned (.tuple #[.int .i64 pv, .int .i64 pe]) ∧ w = w')
    (z1 : A.toList.isEmpty = false) (z2 : (A.toList == [48]) = false) (m : Nat) (i2 : (0 : Int) < (A.size : Int)) (hby : ∀ q, (A[0]'q).toNat = m) (z3 : ((m : Int) == 48) = false) (z4 : R.toList.isEmpty = true) (hN : N = true) (z5 : (n == 0) = false) :
    Calls Tryd.prog 12 #[.string S, .int .i64 d] w fun e w' => e = .returned (.tuple #[.int .i64 pv, .int .i64 pe]) ∧ Below w.heap.size w w' := by
  subst hN
  go_enter Tryd.func12, Tryd.ntmps12
  go_wp2_with fail
  refine (hm _).mono ?_; rintro e w0 ⟨rfl, rfl⟩
  go_wp2_with fail
  refine hC.mono ?_; rintro e w0 ⟨rfl, rfl⟩
  go_wp2_with fail
  refine hPa.mono ?_; rintro e w1 ⟨rfl, hb1⟩
  go_wp2_with fail
  refine (hT _).mono ?_; rintro e w2 ⟨rfl, hb2⟩
  have HB := Lib.hid (hb1.trans (hb2.mono hb1.size))
  go_wp2_with fail
  refine (hS _).mono ?_; rintro e w3 ⟨rfl, rfl⟩
  go_wp2_with fail
  go_ret2
  exact ⟨rfl, HB.out⟩

set_option maxHeartbeats 2000000 in
set_option maxRecDepth 100000 in
theorem pw_plus_b (S B A F T R : ByteArray) (N : Bool) (d n pv pe : Int) (w : World)
    (hm : ∀ w, Calls Tryd.prog 20 #[.int .i64 d] w fun e w' => e = .returned (.bool true) ∧ w = w')
    (hC : Calls Tryd.prog 27 #[.string S, .string ⟨#[45]⟩] w fun e w' => e = .returned (.tuple #[.string B, .bool N]) ∧ w' = w)
    (hPa : Calls Tryd.prog 28 #[.string B, .int .i64 d] w fun e w' => e = .returned (.tuple #[.string A, .string F, .bool true]) ∧ Below w.heap.size w w')
    (hcat : ∀ w, (Op.stringOp .add A F).run Tryd.prog w = .ok (.string T) w)
    (hT : ∀ w, Calls Tryd.prog 29 #[.string T] w fun e w' => e = .returned (.tuple #[.int .u64 n, .string R]) ∧ Below w.heap.size w w')
    (hS : ∀ w, Calls Tryd.prog 30 #[.int .u64 n, .bool N] w fun e w' => e = .returned (.tuple #[.int .i64 pv, .int .i64 pe]) ∧ w = w')
    (z1 : A.toList.isEmpty = false) (z2 : (A.toList == [48]) = false) (m : Nat) (i2 : (0 : Int) < (A.size : Int)) (hby : ∀ q, (A[0]'q).toNat = m) (z3 : ((m : Int) == 48) = false) (z4 : R.toList.isEmpty = true) (hN : N = false) :
    Calls Tryd.prog 12 #[.string S, .int .i64 d] w fun e w' => e = .returned (.tuple #[.int .i64 pv, .int .i64 pe]) ∧ Below w.heap.size w w' := by
  subst hN
  go_enter Tryd.func12, Tryd.ntmps12
  go_wp2_with fail
  refine (hm _).mono ?_; rintro e w0 ⟨rfl, rfl⟩
  go_wp2_with fail
  refine hC.mono ?_; rintro e w0 ⟨rfl, rfl⟩
  go_wp2_with fail
  refine hPa.mono ?_; rintro e w1 ⟨rfl, hb1⟩
  go_wp2_with fail
  refine (hT _).mono ?_; rintro e w2 ⟨rfl, hb2⟩
  have HB := Lib.hid (hb1.trans (hb2.mono hb1.size))
  go_wp2_with fail
  refine (hS _).mono ?_; rintro e w3 ⟨rfl, rfl⟩
  go_wp2_with fail
  go_ret2
  exact ⟨rfl, HB.out⟩

theorem sat_zero {v : Int} (h0 : 0 ≤ v) : (satv v == 0) = decide (v = 0) := by
  unfold satv
  by_cases h : v = 0
  · subst h; rfl
  · rw [decide_eq_false h]
    split <;> simp <;> omega
set_option maxHeartbeats 1000000 in
theorem hq6 : ParseC := by
  intro l d w hl L
  have hm := d_may d
  by_cases h : OkD d
  · rw [decide_eq_true h] at hm
    have hd : ((d.toNat : Nat) : Int) = d := Int.toNat_of_nonneg (by unfold OkD at h; omega)
    have hC := y_pre l w
    have hbl := body_len l
    have hPa := d_parted (body l) d.toNat (by unfold OkD at h; omega) (by omega) w L
    rw [hd] at hPa
    have hwf := wf_len (body l) d.toNat
    have hT := fun w => d_taken (wh (body l) d.toNat ++ fr (body l) d.toNat) (by rw [List.length_append]; omega) w
    have hcat := str_add (wh (body l) d.toNat) (fr (body l) d.toNat) (by omega)
    cases hpk : pok (body l) d.toNat
    · rw [(parse_bad h (bad_pok hpk)).1, (parse_bad h (bad_pok hpk)).2]
      rw [hpk] at hPa
      generalize bs (wh (body l) d.toNat) = W at *
      generalize bs (fr (body l) d.toNat) = F at *
      generalize bs (body l) = B at *
      generalize neg45 l = N at *
      generalize bs l = S at *
      clear hT hcat h hd hbl hwf hpk hl
      go_enter Tryd.func12, Tryd.ntmps12
      go_wp2_with fail
      refine (hm _).mono ?_; rintro e w0 ⟨rfl, rfl⟩
      go_wp2_with fail
      refine hC.mono ?_; rintro e w0 ⟨rfl, rfl⟩
      go_wp2_with fail
      refine hPa.mono ?_; rintro e w1 ⟨rfl, hb1⟩
      go_wp2_with fail
      go_ret2
      exact ⟨rfl, hb1⟩
    · rw [hpk] at hPa
      have hbw := fun q => @bad_wh l d.toNat q
      have hbr := fun q => @bad_rest l d.toNat q
      have hbz := fun q r => @bad_zero l d.toNat q r
      have hgood := dtext_take l d.toNat hpk
      have hnn := pval_nn (wh (body l) d.toNat ++ fr (body l) d.toNat)
      have hS := fun w => d_signed (pval (wh (body l) d.toNat ++ fr (body l) d.toNat)) (neg45 l) hnn w
      generalize wh (body l) d.toNat = A at *
      generalize fr (body l) d.toNat = F at *
      have hE : (bs A).toList.isEmpty = A.isEmpty := by rw [bs_list]
      have hE2 : ((bs A).toList == [48]) = (A == [48]) := by rw [bs_list]
      by_cases hA0 : A = []
      · rw [(parse_bad h (hbw (by rw [hA0]; rfl))).1, (parse_bad h (hbw (by rw [hA0]; rfl))).2]
        exact pw_empty _ _ _ _ _ _ _ d _ w hm hC hPa hcat hT (by rw [hE, hA0]; rfl)
      · have z1 : (bs A).toList.isEmpty = false := by rw [hE]; simpa using hA0
        by_cases hA1 : A = [48]
        · have hb : badw A = false := by rw [hA1]; rfl
          have z2 : ((bs A).toList == [48]) = true := by rw [hE2]; simpa using hA1
          by_cases hr : List.dropWhile isdig (A ++ F) = []
          · have hdn := drop_nil isdig _ hr
            have z4 : (bs (List.dropWhile isdig (A ++ F))).toList.isEmpty = true := by rw [bs_list, hr]; rfl
            rw [hdn.2] at hT
            cases hN : neg45 l
            · have hg := hgood hb hdn.1 (by rw [hN]; intro q; cases q)
              have hpg := parse_good h hg.1
              rw [hpg.1, hpg.2, hg.2]
              exact pw_plus_a _ _ _ _ _ _ _ d _ _ _ w hm hC hPa hcat hT hS z1 z2 z4 hN
            · by_cases hz : pval (A ++ F) = 0
              · rw [(parse_bad h (hbz hN hz)).1, (parse_bad h (hbz hN hz)).2]
                exact pw_zero_a _ _ _ _ _ _ _ d _ _ _ w hm hC hPa hcat hT hS z1 z2 z4 hN (by rw [sat_zero hnn, decide_eq_true hz])
              · have hg := hgood hb hdn.1 (fun _ => hz)
                have hpg := parse_good h hg.1
                rw [hpg.1, hpg.2, hg.2]
                exact pw_minus_a _ _ _ _ _ _ _ d _ _ _ w hm hC hPa hcat hT hS z1 z2 z4 hN (by rw [sat_zero hnn, decide_eq_false hz])
          · rw [(parse_bad h (hbr hr)).1, (parse_bad h (hbr hr)).2]
            exact pw_rest_a _ _ _ _ _ _ _ d _ w hm hC hPa hcat hT z1 z2 (by rw [bs_list]; simpa using hr)
        · have z2 : ((bs A).toList == [48]) = false := by rw [hE2]; simpa using hA1
          have hp : 0 < A.length := List.length_pos_iff.2 hA0
          have hsz := bs_size A
          have i2 : (0 : Int) < ((bs A).size : Int) := by omega
          have hby : ∀ q, ((bs A)[0]'q).toNat = (A.getD 0 0).toNat := fun q => by simp [bs, List.getD, hp, ByteArray.getElem_eq_getElem_data]
          have hhd : A.head? = some (A.getD 0 0) := by
            cases A with
            | nil => exact absurd rfl hA0
            | cons a b => rfl
          by_cases hm8 : (A.getD 0 0).toNat = 48
          · have hbad : badw A = true := by
              unfold badw
              have e48 : A.getD 0 0 = 48 := UInt8.toNat_inj.mp (by rw [hm8]; rfl)
              rw [hhd, e48]
              have : (A != [48]) = true := by simpa using hA1
              rw [this]
              cases A.isEmpty <;> rfl
            rw [(parse_bad h (hbw hbad)).1, (parse_bad h (hbw hbad)).2]
            exact pw_nought _ _ _ _ _ _ _ d _ w hm hC hPa hcat hT z1 z2 _ i2 hby (by rw [hm8]; rfl)
          · have hb : badw A = false := by
              unfold badw
              have e48 : (A.head? == some 48) = false := by
                rw [hhd]
                simp only [beq_eq_false_iff_ne, ne_eq, Option.some.injEq]
                intro q; rw [q] at hm8; exact hm8 rfl
              rw [e48, Bool.and_false, Bool.or_false]
              simpa using hA0
            have z3 : (((A.getD 0 0).toNat : Int) == 48) = false := beq_eq_false_iff_ne.2 (by omega)
            by_cases hr : List.dropWhile isdig (A ++ F) = []
            · have hdn := drop_nil isdig _ hr
              have z4 : (bs (List.dropWhile isdig (A ++ F))).toList.isEmpty = true := by rw [bs_list, hr]; rfl
              rw [hdn.2] at hT
              cases hN : neg45 l
              · have hg := hgood hb hdn.1 (by rw [hN]; intro q; cases q)
                have hpg := parse_good h hg.1
                rw [hpg.1, hpg.2, hg.2]
                exact pw_plus_b _ _ _ _ _ _ _ d _ _ _ w hm hC hPa hcat hT hS z1 z2 _ i2 hby z3 z4 hN
              · by_cases hz : pval (A ++ F) = 0
                · rw [(parse_bad h (hbz hN hz)).1, (parse_bad h (hbz hN hz)).2]
                  exact pw_zero_b _ _ _ _ _ _ _ d _ _ _ w hm hC hPa hcat hT hS z1 z2 _ i2 hby z3 z4 hN (by rw [sat_zero hnn, decide_eq_true hz])
                · have hg := hgood hb hdn.1 (fun _ => hz)
                  have hpg := parse_good h hg.1
                  rw [hpg.1, hpg.2, hg.2]
                  exact pw_minus_b _ _ _ _ _ _ _ d _ _ _ w hm hC hPa hcat hT hS z1 z2 _ i2 hby z3 z4 hN (by rw [sat_zero hnn, decide_eq_false hz])
            · rw [(parse_bad h (hbr hr)).1, (parse_bad h (hbr hr)).2]
              exact pw_rest_b _ _ _ _ _ _ _ d _ w hm hC hPa hcat hT z1 z2 _ i2 hby z3 (by rw [bs_list]; simpa using hr)
  · rw [decide_eq_false h] at hm
    have e1 : parsev l d = 0 := if_neg h
    have e2 : parsee l d = 2 := if_neg h
    rw [e1, e2]
    clear h
    go_enter Tryd.func12, Tryd.ntmps12
    go_wp2_with fail
    refine (hm _).mono ?_; rintro e w0 ⟨rfl, rfl⟩
    go_wp2_with fail
    go_ret2
    exact ⟨rfl, Below.refl _ _⟩
end Go.Proofs.YtnomeglccihplaaDoor
