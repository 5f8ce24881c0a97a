/-
  What scan's own Lit, Num, Line and Digits answer: the contracts of ScnC, of the landed code. No conditions besides the contracts' own.
-/
import Derived.Test.YtmmjkbjceocpmaaDoorScnB
import Derived.Test.YtmmjkbjceocpmaaDoorScnC
namespace Go.Proofs.YtmmjkbjceocpmaaDoor
open Go.RowKit
set_option linter.unusedSimpArgs false
set_option linter.unusedVariables false

set_option maxHeartbeats 1000000 in
theorem n_numeral (l : List UInt8) (hl : l.length ≤ 1000000) (w : World) :
    Calls Tryd.prog 18 #[.string (bs l)] w fun e w' => e = .returned (.tuple #[.string (bs (numl0 l)), .int .i64 (nume0 l)]) ∧ Below w.heap.size w w' := by
  have hbl := body_len7 l
  have hC := y7_pre l w
  have hLd : ∀ w, Calls Tryd.prog 28 #[.string (bs (body l))] w fun e w' => e = .returned (.int .i64 ((dig7 l).length : Int)) ∧ Below w.heap.size w w' := fun w => n_leading (body l) (by omega) w
  have hle : (dig7 l).length ≤ (body l).length := (List.takeWhile_prefix _).length_le
  have hcut : (bs (body l)).extract 0 (dig7 l).length = bs (dig7 l) := by
    rw [bs_cut, List.drop_zero, Nat.sub_zero]
    exact congrArg bs (take_whil isd (body l))
  have hB := bs_size (body l)
  have hD := bs_size (dig7 l)
  have e0 : (bs (body l)).toList.isEmpty = (body l).isEmpty := by rw [bs_list]
  have e1 : (bs (dig7 l)).toList.isEmpty = (dig7 l).isEmpty := by rw [bs_list]
  have e2 : ((bs (dig7 l)).toList == [48]) = (dig7 l == [48]) := by rw [bs_list]
  by_cases h0 : body l = []
  · have q : nume0 l = 4 := if_pos h0
    have q2 : numl0 l = [] := if_neg (by rw [q]; decide)
    rw [q, q2]
    exact nw_short (bs l) (bs (body l)) (bs (dig7 l)) (bs []) _ (dig7 l).length w hC hLd (by omega) (by omega) (by omega) (by omega) hcut (by rw [e0, h0]; rfl)
  have z0 : (bs (body l)).toList.isEmpty = false := by rw [e0]; simpa using h0
  by_cases h1 : dig7 l = []
  · have q : nume0 l = 5 := by unfold nume0; rw [if_neg h0, if_pos (Or.inl h1)]
    have q2 : numl0 l = [] := if_neg (by rw [q]; decide)
    rw [q, q2]
    exact nw_none (bs l) (bs (body l)) (bs (dig7 l)) (bs []) _ (dig7 l).length w hC hLd (by omega) (by omega) (by omega) (by omega) hcut z0 (by rw [e1, h1]; rfl)
  have z1 : (bs (dig7 l)).toList.isEmpty = false := by rw [e1]; simpa using h1
  have hp := List.length_pos_iff.2 h1
  have j1 : (0 : Int) < ((bs (dig7 l)).size : Int) := by omega
  have hby : ∀ q, ((bs (dig7 l))[0]'q).toNat = ((dig7 l).getD 0 0).toNat := fun q => by simp [bs, List.getD, hp, ByteArray.getElem_eq_getElem_data]
  have hh : (dig7 l).head? = some 48 ↔ ((dig7 l).getD 0 0).toNat = 48 := by
    cases hq : dig7 l with
    | nil => exact absurd hq h1
    | cons c r =>
      simp only [List.head?_cons, Option.some.injEq, List.getD_cons_zero]
      exact ⟨fun q => by rw [q]; rfl, fun q => UInt8.toNat_inj.mp (by rw [q]; rfl)⟩
  have hz : ((((dig7 l).getD 0 0).toNat : Int) == 48) = decide ((dig7 l).head? = some 48) := by
    by_cases q : ((dig7 l).getD 0 0).toNat = 48
    · rw [decide_eq_true (hh.mpr q), q]; rfl
    · rw [decide_eq_false (fun r => q (hh.mp r))]; exact beq_eq_false_iff_ne.mpr (by omega)
  have hg : nume0 l = 0 → numl0 l = sgn (neg45 l) ++ dig7 l := fun q => if_pos q
  cases hN : neg45 l
  · by_cases h2 : (dig7 l).head? = some 48
    · rw [decide_eq_true h2] at hz
      by_cases h3 : dig7 l = [48]
      · have q : nume0 l = 0 := by
          unfold nume0
          rw [if_neg h0, if_neg]
          rintro (q | ⟨_, q | q⟩)
          · exact h1 q
          · rw [hN] at q; cases q
          · exact q h3
        rw [hg q, q, hN]
        exact nw_zero (bs l) (bs (body l)) (bs (dig7 l)) (bs []) _ (dig7 l).length w hC hLd (by omega) (by omega) (by omega) (by omega) hcut z0 z1 _ j1 hby hz hN (by rw [e2, h3]; rfl)
      · have q : nume0 l = 5 := by unfold nume0; rw [if_neg h0, if_pos (Or.inr ⟨h2, Or.inr h3⟩)]
        have q2 : numl0 l = [] := if_neg (by rw [q]; decide)
        rw [q, q2]
        exact nw_nought (bs l) (bs (body l)) (bs (dig7 l)) (bs []) _ (dig7 l).length w hC hLd (by omega) (by omega) (by omega) (by omega) hcut z0 z1 _ j1 hby hz hN (by rw [e2]; simpa using h3)
    · rw [decide_eq_false h2] at hz
      have q : nume0 l = 0 := by
        unfold nume0
        rw [if_neg h0, if_neg]
        rintro (q | ⟨q, _⟩)
        · exact h1 q
        · exact h2 q
      rw [hg q, q, hN]
      exact nw_pos (bs l) (bs (body l)) (bs (dig7 l)) (bs []) _ (dig7 l).length w hC hLd (by omega) (by omega) (by omega) (by omega) hcut z0 z1 _ j1 hby hz hN
  · by_cases h2 : (dig7 l).head? = some 48
    · rw [decide_eq_true h2] at hz
      have q : nume0 l = 5 := by unfold nume0; rw [if_neg h0, if_pos (Or.inr ⟨h2, Or.inl hN⟩)]
      have q2 : numl0 l = [] := if_neg (by rw [q]; decide)
      rw [q, q2]
      exact nw_minus (bs l) (bs (body l)) (bs (dig7 l)) (bs []) _ (dig7 l).length w hC hLd (by omega) (by omega) (by omega) (by omega) hcut z0 z1 _ j1 hby hz hN
    · rw [decide_eq_false h2] at hz
      have q : nume0 l = 0 := by
        unfold nume0
        rw [if_neg h0, if_neg]
        rintro (q | ⟨q, _⟩)
        · exact h1 q
        · exact h2 q
      have hsl := bs_size l
      rw [hN] at hbl
      simp [sgn] at hbl
      have hT : (bs l).extract 0 ((dig7 l).length + 1) = bs (45 :: dig7 l) := by
        rw [bs_cut, List.drop_zero, Nat.sub_zero]
        have hb := body_is l
        rw [hN] at hb
        have e : l.take ((dig7 l).length + 1) = (45 :: body l).take ((dig7 l).length + 1) := congrArg _ hb
        rw [e, List.take_succ_cons]
        exact congrArg (fun x => bs (45 :: x)) (take_whil isd (body l))
      rw [hg q, q, hN]
      exact nw_neg (bs l) (bs (body l)) (bs (dig7 l)) (bs (45 :: dig7 l)) _ (dig7 l).length w hC hLd (by omega) (by omega) (by omega) (by omega) hcut z0 z1 _ j1 hby hz hN ((dig7 l).length + 1) (by unfold wrap64; omega) (by omega) (by omega) (by omega) hT

set_option maxHeartbeats 2000000 in
set_option maxRecDepth 100000 in
theorem mw_short (S M T : ByteArray) (A : Nat) (lo hi : Int) (w : World) (L : Laid w)
    (hP : Calls Tryd.prog 16 #[.string S, .int .i64 (A : Int)] w fun e w' => e = .returned (.bool true) ∧ w = w')
    (i1 : (0 : Int) ≤ (A : Int)) (i2 : (A : Int) ≤ (S.size : Int)) (i3 : ¬ S.size < A) (hcut : S.extract A S.size = M)
    (hN : ∀ w, Calls Tryd.prog 18 #[.string M] w fun e w' => e = .returned (.tuple #[.string ⟨#[]⟩, .int .i64 4]) ∧ Below w.heap.size w w') :
    Calls Tryd.prog 10 #[.string S, .int .i64 (A : Int), .int .i64 lo, .int .i64 hi] w fun e w' => e = .returned (.tuple #[.int .i64 0, .int .i64 0, .int .i64 4]) ∧ Below w.heap.size w w' := by
  have LL := L.all
  go_enter Tryd.func10, Tryd.ntmps10
  go_wp2_with fail
  refine hP.mono ?_; rintro e w0 ⟨rfl, rfl⟩
  go_wp2_with fail
  refine (hN _).mono ?_; rintro e w1 ⟨rfl, hb1⟩
  go_wp2_with fail
  go_ret3
  exact ⟨rfl, hb1⟩

set_option maxHeartbeats 2000000 in
set_option maxRecDepth 100000 in
theorem mw_form (S M T : ByteArray) (A : Nat) (lo hi : Int) (w : World) (L : Laid w)
    (hP : Calls Tryd.prog 16 #[.string S, .int .i64 (A : Int)] w fun e w' => e = .returned (.bool true) ∧ w = w')
    (i1 : (0 : Int) ≤ (A : Int)) (i2 : (A : Int) ≤ (S.size : Int)) (i3 : ¬ S.size < A) (hcut : S.extract A S.size = M)
    (hN : ∀ w, Calls Tryd.prog 18 #[.string M] w fun e w' => e = .returned (.tuple #[.string ⟨#[]⟩, .int .i64 5]) ∧ Below w.heap.size w w') :
    Calls Tryd.prog 10 #[.string S, .int .i64 (A : Int), .int .i64 lo, .int .i64 hi] w fun e w' => e = .returned (.tuple #[.int .i64 0, .int .i64 0, .int .i64 5]) ∧ Below w.heap.size w w' := by
  have LL := L.all
  go_enter Tryd.func10, Tryd.ntmps10
  go_wp2_with fail
  refine hP.mono ?_; rintro e w0 ⟨rfl, rfl⟩
  go_wp2_with fail
  refine (hN _).mono ?_; rintro e w1 ⟨rfl, hb1⟩
  go_wp2_with fail
  go_ret3
  exact ⟨rfl, hb1⟩

set_option maxHeartbeats 2000000 in
set_option maxRecDepth 100000 in
theorem mw_range (S M T : ByteArray) (A : Nat) (lo hi : Int) (w : World) (L : Laid w)
    (hP : Calls Tryd.prog 16 #[.string S, .int .i64 (A : Int)] w fun e w' => e = .returned (.bool true) ∧ w = w')
    (i1 : (0 : Int) ≤ (A : Int)) (i2 : (A : Int) ≤ (S.size : Int)) (i3 : ¬ S.size < A) (hcut : S.extract A S.size = M)
    (hN : ∀ w, Calls Tryd.prog 18 #[.string M] w fun e w' => e = .returned (.tuple #[.string T, .int .i64 0]) ∧ Below w.heap.size w w')
    (hA : ∀ w, Laid w → Calls Tryd.prog 19 #[.string T] w fun e w' => (∃ (n : Int) (N : Nat), e = .returned (.tuple #[.int .i64 n, .iface 70 (.pointer (some ⟨N, 0, none⟩))])) ∧ Below w.heap.size w w') :
    Calls Tryd.prog 10 #[.string S, .int .i64 (A : Int), .int .i64 lo, .int .i64 hi] w fun e w' => e = .returned (.tuple #[.int .i64 0, .int .i64 0, .int .i64 7]) ∧ Below w.heap.size w w' := by
  have LL := L.all
  go_enter Tryd.func10, Tryd.ntmps10
  go_wp2_with fail
  refine hP.mono ?_; rintro e w0 ⟨rfl, rfl⟩
  go_wp2_with fail
  refine (hN _).mono ?_; rintro e w1 ⟨rfl, hb1⟩
  go_wp2_with fail
  refine (hA _ (LL _ hb1)).mono ?_; rintro e w2 ⟨⟨sat, N, rfl⟩, hb2⟩
  replace hb2 := hb1.trans (hb2.mono hb1.size); clear hb1
  go_wp2_with fail
  go_ret3
  exact ⟨rfl, hb2⟩

set_option maxHeartbeats 2000000 in
set_option maxRecDepth 100000 in
theorem mw_low (S M T : ByteArray) (A : Nat) (lo hi : Int) (w : World) (L : Laid w)
    (hP : Calls Tryd.prog 16 #[.string S, .int .i64 (A : Int)] w fun e w' => e = .returned (.bool true) ∧ w = w')
    (i1 : (0 : Int) ≤ (A : Int)) (i2 : (A : Int) ≤ (S.size : Int)) (i3 : ¬ S.size < A) (hcut : S.extract A S.size = M)
    (hN : ∀ w, Calls Tryd.prog 18 #[.string M] w fun e w' => e = .returned (.tuple #[.string T, .int .i64 0]) ∧ Below w.heap.size w w') (v : Int)
    (hA : ∀ w, Laid w → Calls Tryd.prog 19 #[.string T] w fun e w' => e = .returned (.tuple #[.int .i64 v, .nilIface]) ∧ Below w.heap.size w w') (d1 : decide (v < lo) = true) :
    Calls Tryd.prog 10 #[.string S, .int .i64 (A : Int), .int .i64 lo, .int .i64 hi] w fun e w' => e = .returned (.tuple #[.int .i64 0, .int .i64 0, .int .i64 7]) ∧ Below w.heap.size w w' := by
  have LL := L.all
  go_enter Tryd.func10, Tryd.ntmps10
  go_wp2_with fail
  refine hP.mono ?_; rintro e w0 ⟨rfl, rfl⟩
  go_wp2_with fail
  refine (hN _).mono ?_; rintro e w1 ⟨rfl, hb1⟩
  go_wp2_with fail
  refine (hA _ (LL _ hb1)).mono ?_; rintro e w2 ⟨rfl, hb2⟩
  replace hb2 := hb1.trans (hb2.mono hb1.size); clear hb1
  go_wp2_with fail
  go_ret3
  exact ⟨rfl, hb2⟩

set_option maxHeartbeats 2000000 in
set_option maxRecDepth 100000 in
theorem mw_high (S M T : ByteArray) (A : Nat) (lo hi : Int) (w : World) (L : Laid w)
    (hP : Calls Tryd.prog 16 #[.string S, .int .i64 (A : Int)] w fun e w' => e = .returned (.bool true) ∧ w = w')
    (i1 : (0 : Int) ≤ (A : Int)) (i2 : (A : Int) ≤ (S.size : Int)) (i3 : ¬ S.size < A) (hcut : S.extract A S.size = M)
    (hN : ∀ w, Calls Tryd.prog 18 #[.string M] w fun e w' => e = .returned (.tuple #[.string T, .int .i64 0]) ∧ Below w.heap.size w w') (v : Int)
    (hA : ∀ w, Laid w → Calls Tryd.prog 19 #[.string T] w fun e w' => e = .returned (.tuple #[.int .i64 v, .nilIface]) ∧ Below w.heap.size w w') (d1 : decide (v < lo) = false) (d2 : decide (hi < v) = true) :
    Calls Tryd.prog 10 #[.string S, .int .i64 (A : Int), .int .i64 lo, .int .i64 hi] w fun e w' => e = .returned (.tuple #[.int .i64 0, .int .i64 0, .int .i64 7]) ∧ Below w.heap.size w w' := by
  have LL := L.all
  go_enter Tryd.func10, Tryd.ntmps10
  go_wp2_with fail
  refine hP.mono ?_; rintro e w0 ⟨rfl, rfl⟩
  go_wp2_with fail
  refine (hN _).mono ?_; rintro e w1 ⟨rfl, hb1⟩
  go_wp2_with fail
  refine (hA _ (LL _ hb1)).mono ?_; rintro e w2 ⟨rfl, hb2⟩
  replace hb2 := hb1.trans (hb2.mono hb1.size); clear hb1
  go_wp2_with fail
  go_ret3
  exact ⟨rfl, hb2⟩

set_option maxHeartbeats 2000000 in
set_option maxRecDepth 100000 in
theorem mw_in (S M T : ByteArray) (A : Nat) (lo hi : Int) (w : World) (L : Laid w)
    (hP : Calls Tryd.prog 16 #[.string S, .int .i64 (A : Int)] w fun e w' => e = .returned (.bool true) ∧ w = w')
    (i1 : (0 : Int) ≤ (A : Int)) (i2 : (A : Int) ≤ (S.size : Int)) (i3 : ¬ S.size < A) (hcut : S.extract A S.size = M)
    (hN : ∀ w, Calls Tryd.prog 18 #[.string M] w fun e w' => e = .returned (.tuple #[.string T, .int .i64 0]) ∧ Below w.heap.size w w') (v k : Int)
    (hA : ∀ w, Laid w → Calls Tryd.prog 19 #[.string T] w fun e w' => e = .returned (.tuple #[.int .i64 v, .nilIface]) ∧ Below w.heap.size w w') (d1 : decide (v < lo) = false) (d2 : decide (hi < v) = false) (hk : wrap64 ((A : Int) + (T.size : Int)) = k) :
    Calls Tryd.prog 10 #[.string S, .int .i64 (A : Int), .int .i64 lo, .int .i64 hi] w fun e w' => e = .returned (.tuple #[.int .i64 v, .int .i64 k, .int .i64 0]) ∧ Below w.heap.size w w' := by
  subst hk
  have LL := L.all
  go_enter Tryd.func10, Tryd.ntmps10
  go_wp2_with fail
  refine hP.mono ?_; rintro e w0 ⟨rfl, rfl⟩
  go_wp2_with fail
  refine (hN _).mono ?_; rintro e w1 ⟨rfl, hb1⟩
  go_wp2_with fail
  refine (hA _ (LL _ hb1)).mono ?_; rintro e w2 ⟨rfl, hb2⟩
  replace hb2 := hb1.trans (hb2.mono hb1.size); clear hb1
  go_wp2_with fail
  go_ret3
  exact ⟨rfl, hb2⟩

theorem okA_nat {l : List UInt8} {a : Int} (h : OkA l a) : ∃ A : Nat, a = (A : Int) ∧ A ≤ l.length := ⟨a.toNat, by unfold OkA at h; omega, by unfold OkA at h; omega⟩
theorem thr_cut (l : List UInt8) (A : Nat) : (bs l).extract A (bs l).size = bs (thr l (A : Int)) := by
  rw [bs_cut, bs_size, List.take_of_length_le (by rw [List.length_drop]; omega)]
  unfold thr
  rw [Int.toNat_natCast]
set_option maxHeartbeats 2000000 in
set_option maxRecDepth 100000 in
theorem hl7 : LitC := by
  intro l a t w hl ht L
  have hsl := bs_size l; have hst := bs_size t
  have hP := n_place l a
  by_cases h : OkA l a
  · rw [decide_eq_true h] at hP
    obtain ⟨A, rfl, hA⟩ := okA_nat h
    have hcut := thr_cut l A
    rw [hsl] at hcut
    have i1 : (0 : Int) ≤ (A : Int) := by omega
    have i2 : (A : Int) ≤ ((bs l).size : Int) := by omega
    have i3 : ¬ (bs l).size < A := by omega
    have i4 : ¬ l.length < A := by omega
    have h1 := fun w => y7_has (thr l (A : Int)) t w
    have h2 := fun w => y7_has t (thr l (A : Int)) w
    have hg : litgo (l.drop ((A : Int)).toNat) t = if t.isPrefixOf (thr l (A : Int)) = true then 0 else if (thr l (A : Int)).isPrefixOf t = true then 4 else 8 := litgo_is _ _
    have e1 : lite l (A : Int) t = _ := if_pos h
    have e2 : litv l (A : Int) t = if litgo (l.drop ((A : Int)).toNat) t = 0 then (A : Int) + t.length else 0 := by
      unfold litv
      by_cases q : litgo (l.drop ((A : Int)).toNat) t = 0
      · rw [if_pos ⟨h, q⟩, if_pos q]
      · rw [if_neg (fun r => q r.2), if_neg q]
    rw [e1, e2, hg]
    clear e1 e2 hg h
    generalize bs (thr l (A : Int)) = M at *
    cases q1 : t.isPrefixOf (thr l (A : Int))
    · rw [q1] at h1
      cases q2 : (thr l (A : Int)).isPrefixOf t
      · rw [q2] at h2
        simp only [Bool.false_eq_true, ↓reduceIte, show ((8 : Int) = 0) = False by decide]
        generalize bs l = S at *; generalize bs t = T at *
        clear q1 q2
        go_enter Tryd.func8, Tryd.ntmps8
        go_wp2_with fail
        refine (hP _).mono ?_; rintro e w0 ⟨rfl, rfl⟩
        go_wp2_with fail
        refine (h1 _).mono ?_; rintro e w0 ⟨rfl, rfl⟩
        go_wp2_with fail
        refine (h2 _).mono ?_; rintro e w0 ⟨rfl, rfl⟩
        go_wp2_with fail
        go_ret2
        exact ⟨rfl, Below.refl _ _⟩
      · rw [q2] at h2
        simp only [Bool.false_eq_true, ↓reduceIte, show ((4 : Int) = 0) = False by decide]
        generalize bs l = S at *; generalize bs t = T at *
        clear q1 q2
        go_enter Tryd.func8, Tryd.ntmps8
        go_wp2_with fail
        refine (hP _).mono ?_; rintro e w0 ⟨rfl, rfl⟩
        go_wp2_with fail
        refine (h1 _).mono ?_; rintro e w0 ⟨rfl, rfl⟩
        go_wp2_with fail
        refine (h2 _).mono ?_; rintro e w0 ⟨rfl, rfl⟩
        go_wp2_with fail
        go_ret2
        exact ⟨rfl, Below.refl _ _⟩
    · rw [q1] at h1
      simp only [↓reduceIte]
      generalize bs l = S at *; generalize bs t = T at *
      clear q1 h2
      go_enter Tryd.func8, Tryd.ntmps8
      go_wp2_with fail
      refine (hP _).mono ?_; rintro e w0 ⟨rfl, rfl⟩
      go_wp2_with fail
      refine (h1 _).mono ?_; rintro e w0 ⟨rfl, rfl⟩
      go_wp2_with fail
      go_ret2
      exact ⟨rfl, Below.refl _ _⟩
  · rw [decide_eq_false h] at hP
    have e1 : lite l a t = 2 := if_neg h
    have e2 : litv l a t = 0 := if_neg (fun q => h q.1)
    rw [e1, e2]
    generalize bs l = S at *; generalize bs t = T at *
    clear e1 e2 h
    go_enter Tryd.func8, Tryd.ntmps8
    go_wp2_with fail
    refine (hP _).mono ?_; rintro e w0 ⟨rfl, rfl⟩
    go_wp2_with fail
    go_ret2
    exact ⟨rfl, Below.refl _ _⟩


set_option maxHeartbeats 2000000 in
set_option maxRecDepth 100000 in
theorem hn7 : NumC := by
  intro l a lo hi w hl L
  have hsl := bs_size l
  have hP := n_place l a
  by_cases h : OkA l a
  · rw [decide_eq_true h] at hP
    obtain ⟨A, rfl, hA⟩ := okA_nat h
    have hcut := thr_cut l A
    have hml : (thr l (A : Int)).length ≤ l.length := by unfold thr; rw [List.length_drop]; omega
    have hN := fun w => n_numeral (thr l (A : Int)) (by omega) w
    have hcs : nume0 (thr l (A : Int)) = 4 ∨ nume0 (thr l (A : Int)) = 5 ∨ nume0 (thr l (A : Int)) = 0 := by
      unfold nume0
      split
      · exact Or.inl rfl
      · split
        · exact Or.inr (Or.inl rfl)
        · exact Or.inr (Or.inr rfl)
    rcases hcs with q | q | q
    · have e0 := num_short h q lo hi
      have e1 : numv l (A : Int) lo hi = 0 := if_neg (by rw [e0]; decide)
      have e2 : numk l (A : Int) lo hi = 0 := if_neg (by rw [e0]; decide)
      have e3 : numl0 (thr l (A : Int)) = [] := if_neg (by rw [q]; decide)
      rw [e3, q] at hN
      rw [e0, e1, e2]
      exact mw_short _ _ (bs []) A lo hi w L (hP w) (by omega) (by omega) (by omega) hcut hN
    · have e0 := num_form h q lo hi
      have e1 : numv l (A : Int) lo hi = 0 := if_neg (by rw [e0]; decide)
      have e2 : numk l (A : Int) lo hi = 0 := if_neg (by rw [e0]; decide)
      have e3 : numl0 (thr l (A : Int)) = [] := if_neg (by rw [q]; decide)
      rw [e3, q] at hN
      rw [e0, e1, e2]
      exact mw_form _ _ (bs []) A lo hi w L (hP w) (by omega) (by omega) (by omega) hcut hN
    · obtain ⟨v, hat, hne, hlen, hall⟩ := num_good h q
      obtain ⟨e0, e1, e2⟩ := hall lo hi
      rw [q] at hN
      rw [e0, e1, e2]
      by_cases hv : InR v
      · rw [if_pos hv] at hat
        have hA7 := fun w (L : Laid w) => y7_atoi _ (by omega) v hat w
        by_cases g1 : v < lo
        · rw [if_neg (by omega), if_neg (by omega), if_neg (by omega)]
          exact mw_low _ _ _ A lo hi w L (hP w) (by omega) (by omega) (by omega) hcut hN v hA7 (decide_eq_true g1)
        · by_cases g2 : hi < v
          · rw [if_neg (by omega), if_neg (by omega), if_neg (by omega)]
            exact mw_high _ _ _ A lo hi w L (hP w) (by omega) (by omega) (by omega) hcut hN v hA7 (decide_eq_false g1) (decide_eq_true g2)
          · have g : InR v ∧ lo ≤ v ∧ v ≤ hi := ⟨hv, by omega, by omega⟩
            rw [if_pos g, if_pos g, if_pos g]
            exact mw_in _ _ _ A lo hi w L (hP w) (by omega) (by omega) (by omega) hcut hN v _ hA7 (decide_eq_false g1) (decide_eq_false g2) (by rw [bs_size]; unfold wrap64; omega)
      · rw [if_neg hv] at hat
        rw [if_neg (fun g => hv g.1), if_neg (fun g => hv g.1), if_neg (fun g => hv g.1)]
        exact mw_range _ _ _ A lo hi w L (hP w) (by omega) (by omega) (by omega) hcut hN (fun w L => y7_range _ (by omega) hat w L)
  · rw [decide_eq_false h] at hP
    have e0 : nume l a lo hi = 2 := if_neg h
    have e1 : numv l a lo hi = 0 := if_neg (by rw [e0]; decide)
    have e2 : numk l a lo hi = 0 := if_neg (by rw [e0]; decide)
    rw [e0, e1, e2]
    generalize bs l = S at *
    clear e0 e1 e2 h
    go_enter Tryd.func10, Tryd.ntmps10
    go_wp2_with fail
    refine (hP _).mono ?_; rintro e w0 ⟨rfl, rfl⟩
    go_wp2_with fail
    go_ret3
    exact ⟨rfl, Below.refl _ _⟩

set_option maxHeartbeats 2000000 in
set_option maxRecDepth 100000 in
theorem hi7 : LineC := by
  intro l a w hl L
  have LL := L.all
  have hsl := bs_size l
  have hP := n_place l a
  by_cases h : OkA l a
  · rw [decide_eq_true h] at hP
    obtain ⟨A, rfl, hA⟩ := okA_nat h
    have hcut := thr_cut l A
    rw [hsl] at hcut
    have i1 : (0 : Int) ≤ (A : Int) := by omega
    have i2 : (A : Int) ≤ ((bs l).size : Int) := by omega
    have i3 : ¬ (bs l).size < A := by omega
    have i4 : ¬ l.length < A := by omega
    have hml : (thr l (A : Int)).length ≤ l.length := by unfold thr; rw [List.length_drop]; omega
    have hC := y7_cut (thr l (A : Int)) (by omega) w L
    by_cases hm : (10 : UInt8) ∈ thr l (A : Int)
    · have e0 : linee l (A : Int) = 0 := by unfold linee; rw [if_pos h]; exact if_pos hm
      have e1 : lineb l (A : Int) = (thr l (A : Int)).takeWhile (fun b => b != 10) := if_pos ⟨h, hm⟩
      have e2 : linen l (A : Int) = (A : Int) + ((thr l (A : Int)).takeWhile (fun b => b != 10)).length + 1 := if_pos ⟨h, hm⟩
      have hle : ((thr l (A : Int)).takeWhile (fun b => b != 10)).length ≤ (thr l (A : Int)).length := (List.takeWhile_prefix _).length_le
      have hcl := fun w => y7_clone ((thr l (A : Int)).takeWhile (fun b => b != 10)) (by omega) w
      rw [e0, e1, e2]
      have HM := Lib.hid hm
      clear e0 e1 e2 h hm
      have hsT := bs_size ((thr l (A : Int)).takeWhile (fun b => b != 10))
      have hn : ((thr l (A : Int)).takeWhile (fun b => b != 10)).length ≤ 1000000 := by omega
      have hA6 : A ≤ 1000000 := by omega
      have hC' : Calls Tryd.prog 21 #[.string (bs (thr l (A : Int))), .string ⟨#[10]⟩] w fun e w' => (∃ r : ByteArray, e = .returned (.tuple #[.string (bs ((thr l (A : Int)).takeWhile (fun b => b != 10))), .string r, .bool true])) ∧ Below w.heap.size w w' := hC.mono (by
        rintro e w' ⟨⟨r, ⟨_, q⟩ | ⟨q, _⟩⟩, hb⟩
        · exact ⟨⟨r, q⟩, hb⟩
        · exact absurd HM.out q)
      clear hC HM hle hml
      generalize bs (thr l (A : Int)) = M at *
      generalize bs ((thr l (A : Int)).takeWhile (fun b => b != 10)) = T at *
      generalize ((thr l (A : Int)).takeWhile (fun b => b != 10)).length = k at *
      generalize bs l = S at *
      go_enter Tryd.func12, Tryd.ntmps12
      go_wp2_with fail
      refine (hP _).mono ?_; rintro e w0 ⟨rfl, rfl⟩
      go_wp2_with fail
      refine hC'.mono ?_; rintro e w1 ⟨⟨r, rfl⟩, hb1⟩
      go_wp2_with fail
      refine (hcl _).mono ?_; rintro e w2 ⟨rfl, hb2⟩
      go_wp2_with fail
      go_ret3
      exact ⟨rfl, hb1.trans (hb2.mono hb1.size)⟩
    · have e0 : linee l (A : Int) = 4 := by unfold linee; rw [if_pos h]; exact if_neg hm
      have e1 : lineb l (A : Int) = [] := if_neg (fun q => hm q.2)
      have e2 : linen l (A : Int) = 0 := if_neg (fun q => hm q.2)
      rw [e0, e1, e2]
      have HM := Lib.hid hm
      clear e0 e1 e2 h hm
      have hC' : Calls Tryd.prog 21 #[.string (bs (thr l (A : Int))), .string ⟨#[10]⟩] w fun e w' => (∃ q r : ByteArray, e = .returned (.tuple #[.string q, .string r, .bool false])) ∧ Below w.heap.size w w' := hC.mono (by
        rintro e w' ⟨⟨r, ⟨q, _⟩ | ⟨_, p, q⟩⟩, hb⟩
        · exact absurd q HM.out
        · exact ⟨⟨p, r, q⟩, hb⟩)
      clear hC HM
      generalize bs (thr l (A : Int)) = M at *
      generalize bs l = S at *
      go_enter Tryd.func12, Tryd.ntmps12
      go_wp2_with fail
      refine (hP _).mono ?_; rintro e w0 ⟨rfl, rfl⟩
      go_wp2_with fail
      refine hC'.mono ?_; rintro e w1 ⟨⟨p, r, rfl⟩, hb1⟩
      go_wp2_with fail
      go_ret3
      exact ⟨rfl, hb1⟩
  · rw [decide_eq_false h] at hP
    have e0 : linee l a = 2 := if_neg h
    have e1 : lineb l a = [] := if_neg (fun q => h q.1)
    have e2 : linen l a = 0 := if_neg (fun q => h q.1)
    rw [e0, e1, e2]
    generalize bs l = S at *
    clear e0 e1 e2 h
    go_enter Tryd.func12, Tryd.ntmps12
    go_wp2_with fail
    refine (hP _).mono ?_; rintro e w0 ⟨rfl, rfl⟩
    go_wp2_with fail
    go_ret3
    exact ⟨rfl, Below.refl _ _⟩

set_option maxHeartbeats 1000000 in
theorem hd7 : DigitsC := by
  intro n w hn L
  have h := y7_itoa n hn w L
  generalize bs (dtext n 0) = r at *
  clear hn
  go_enter Tryd.func14, Tryd.ntmps14
  go_wp2_with fail
  refine h.mono ?_; rintro e w' ⟨rfl, hb⟩
  go_wp2_with fail
  go_ret
  exact ⟨rfl, hb⟩
end Go.Proofs.YtmmjkbjceocpmaaDoor
