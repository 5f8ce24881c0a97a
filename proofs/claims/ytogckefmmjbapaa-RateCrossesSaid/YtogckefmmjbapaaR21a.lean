/-
  What the document's own Money, may and One (gavelkindref17, gavelkindref21) answer. No conditions.
-/
import Derived.Test.YtogckefmmjbapaaRtC
import Derived.Test.YtogckefmmjbapaaRefT0
namespace Go.Proofs.Ytogckefmmjbapaa
open Go.RowKit
set_option linter.unusedSimpArgs false
set_option linter.unusedVariables false

set_option maxRecDepth 100000 in
theorem money_c (z : Int) (w : World) : Calls Try.prog 36 #[.int .i64 z] w fun e w' => e = .returned (.bool (decide (cur z))) ∧ Below w.heap.size w w' := by
  by_cases h1 : 1 ≤ z
  · have d1 : decide (1 ≤ z) = true := decide_eq_true h1
    have e1 : decide (cur z) = decide (z ≤ 8) := by unfold cur; simp [h1]
    rw [e1]
    go_enter Try.func36, Try.ntmps36
    go_wp2_with fail
    go_ret
    exact ⟨rfl, Below.refl _ _⟩
  · have d1 : decide (1 ≤ z) = false := decide_eq_false h1
    have e1 : decide (cur z) = false := by unfold cur; simp [h1]
    rw [e1]
    go_enter Try.func36, Try.ntmps36
    go_wp2_with fail
    go_ret
    exact ⟨rfl, Below.refl _ _⟩
set_option maxRecDepth 100000 in
set_option maxHeartbeats 1000000 in
theorem r21may (a b c d n m : Int) (w : World) :
    Calls Try.prog 21 #[.agg #[.int .i64 a, .int .i64 b, .int .i64 c, .int .i64 d, .int .i64 n, .int .i64 m]] w fun e w' => e = .returned (.int .i64 (wrR (a, b, c, d, n, m))) ∧ Below w.heap.size w w' := by
  have HO := Lib.hid (Ow6.new' w a b c d n m)
  have HB := Lib.hid (below1 w (objL a b c d n m))
  obtain ⟨c0, c1, c2, c3, c4, c5⟩ := HO.out.letters
  have q1 := money_c a
  by_cases h1 : cur a
  · rw [decide_eq_true h1] at q1
    have q2 := money_c b
    by_cases h2 : cur b
    · rw [decide_eq_true h2] at q2
      by_cases h3 : a = b
      · have d3 : (a == b) = true := by simpa using h3
        have hv : wrR (a, b, c, d, n, m) = 23 := if_neg (fun q => q.2.2 h3)
        clear h1 h2 h3
        rw [hv]
        clear hv
        go_enter Try.func21, Try.ntmps21
        go_wp2_with fail
        refine (q1 _).mono ?_; rintro e w1 ⟨rfl, hb1⟩
        have HO := Lib.hid (HO.out.below hb1)
        have HB := Lib.hid (HB.out.trans (hb1.mono HB.out.size))
        clear hb1 c0 c1 c2 c3 c4 c5
        obtain ⟨c0, c1, c2, c3, c4, c5⟩ := HO.out.letters
        go_wp2_with fail
        refine (q2 _).mono ?_; rintro e w2 ⟨rfl, hb2⟩
        have HO := Lib.hid (HO.out.below hb2)
        have HB := Lib.hid (HB.out.trans (hb2.mono HB.out.size))
        clear hb2 c0 c1 c2 c3 c4 c5
        obtain ⟨c0, c1, c2, c3, c4, c5⟩ := HO.out.letters
        go_wp2_with fail
        go_ret
        exact ⟨rfl, HB.out⟩
      · have d3 : (a == b) = false := by simpa using h3
        have hA : wrR (a, b, c, d, n, m) = if c < 1 ∨ 3 < c then 25 else if d < 0 ∨ 24 ≤ d then 22 else rc n m := if_pos ⟨h1, h2, h3⟩
        by_cases h4 : c < 1
        · have d4 : decide (c < 1) = true := decide_eq_true h4
          have hv : wrR (a, b, c, d, n, m) = 25 := hA.trans (if_pos (Or.inl h4))
          clear hA h1 h2 h3 h4
          rw [hv]
          clear hv
          go_enter Try.func21, Try.ntmps21
          go_wp2_with fail
          refine (q1 _).mono ?_; rintro e w1 ⟨rfl, hb1⟩
          have HO := Lib.hid (HO.out.below hb1)
          have HB := Lib.hid (HB.out.trans (hb1.mono HB.out.size))
          clear hb1 c0 c1 c2 c3 c4 c5
          obtain ⟨c0, c1, c2, c3, c4, c5⟩ := HO.out.letters
          go_wp2_with fail
          refine (q2 _).mono ?_; rintro e w2 ⟨rfl, hb2⟩
          have HO := Lib.hid (HO.out.below hb2)
          have HB := Lib.hid (HB.out.trans (hb2.mono HB.out.size))
          clear hb2 c0 c1 c2 c3 c4 c5
          obtain ⟨c0, c1, c2, c3, c4, c5⟩ := HO.out.letters
          go_wp2_with fail
          go_ret
          exact ⟨rfl, HB.out⟩
        · have d4 : decide (c < 1) = false := decide_eq_false h4
          by_cases h5 : 3 < c
          · have d5 : decide (3 < c) = true := decide_eq_true h5
            have hv : wrR (a, b, c, d, n, m) = 25 := hA.trans (if_pos (Or.inr h5))
            clear hA h1 h2 h3 h4 h5
            rw [hv]
            clear hv
            go_enter Try.func21, Try.ntmps21
            go_wp2_with fail
            refine (q1 _).mono ?_; rintro e w1 ⟨rfl, hb1⟩
            have HO := Lib.hid (HO.out.below hb1)
            have HB := Lib.hid (HB.out.trans (hb1.mono HB.out.size))
            clear hb1 c0 c1 c2 c3 c4 c5
            obtain ⟨c0, c1, c2, c3, c4, c5⟩ := HO.out.letters
            go_wp2_with fail
            refine (q2 _).mono ?_; rintro e w2 ⟨rfl, hb2⟩
            have HO := Lib.hid (HO.out.below hb2)
            have HB := Lib.hid (HB.out.trans (hb2.mono HB.out.size))
            clear hb2 c0 c1 c2 c3 c4 c5
            obtain ⟨c0, c1, c2, c3, c4, c5⟩ := HO.out.letters
            go_wp2_with fail
            go_ret
            exact ⟨rfl, HB.out⟩
          · have d5 : decide (3 < c) = false := decide_eq_false h5
            have hA := hA.trans (if_neg (fun q => q.elim h4 h5))
            by_cases h6 : d < 0
            · have d6 : decide (d < 0) = true := decide_eq_true h6
              have hv : wrR (a, b, c, d, n, m) = 22 := hA.trans (if_pos (Or.inl h6))
              clear hA h1 h2 h3 h4 h5 h6
              rw [hv]
              clear hv
              go_enter Try.func21, Try.ntmps21
              go_wp2_with fail
              refine (q1 _).mono ?_; rintro e w1 ⟨rfl, hb1⟩
              have HO := Lib.hid (HO.out.below hb1)
              have HB := Lib.hid (HB.out.trans (hb1.mono HB.out.size))
              clear hb1 c0 c1 c2 c3 c4 c5
              obtain ⟨c0, c1, c2, c3, c4, c5⟩ := HO.out.letters
              go_wp2_with fail
              refine (q2 _).mono ?_; rintro e w2 ⟨rfl, hb2⟩
              have HO := Lib.hid (HO.out.below hb2)
              have HB := Lib.hid (HB.out.trans (hb2.mono HB.out.size))
              clear hb2 c0 c1 c2 c3 c4 c5
              obtain ⟨c0, c1, c2, c3, c4, c5⟩ := HO.out.letters
              go_wp2_with fail
              go_ret
              exact ⟨rfl, HB.out⟩
            · have d6 : decide (d < 0) = false := decide_eq_false h6
              by_cases h7 : 24 ≤ d
              · have d7 : decide (23 < d) = true := decide_eq_true (by omega)
                have hv : wrR (a, b, c, d, n, m) = 22 := hA.trans (if_pos (Or.inr h7))
                clear hA h1 h2 h3 h4 h5 h6 h7
                rw [hv]
                clear hv
                go_enter Try.func21, Try.ntmps21
                go_wp2_with fail
                refine (q1 _).mono ?_; rintro e w1 ⟨rfl, hb1⟩
                have HO := Lib.hid (HO.out.below hb1)
                have HB := Lib.hid (HB.out.trans (hb1.mono HB.out.size))
                clear hb1 c0 c1 c2 c3 c4 c5
                obtain ⟨c0, c1, c2, c3, c4, c5⟩ := HO.out.letters
                go_wp2_with fail
                refine (q2 _).mono ?_; rintro e w2 ⟨rfl, hb2⟩
                have HO := Lib.hid (HO.out.below hb2)
                have HB := Lib.hid (HB.out.trans (hb2.mono HB.out.size))
                clear hb2 c0 c1 c2 c3 c4 c5
                obtain ⟨c0, c1, c2, c3, c4, c5⟩ := HO.out.letters
                go_wp2_with fail
                go_ret
                exact ⟨rfl, HB.out⟩
              · have d7 : decide (23 < d) = false := decide_eq_false (by omega)
                have q3 := rcheck_any n m
                have hv : wrR (a, b, c, d, n, m) = rc n m := hA.trans (if_neg (fun q => q.elim h6 h7))
                clear hA h1 h2 h3 h4 h5 h6 h7
                rw [hv]
                clear hv
                go_enter Try.func21, Try.ntmps21
                go_wp2_with fail
                refine (q1 _).mono ?_; rintro e w1 ⟨rfl, hb1⟩
                have HO := Lib.hid (HO.out.below hb1)
                have HB := Lib.hid (HB.out.trans (hb1.mono HB.out.size))
                clear hb1 c0 c1 c2 c3 c4 c5
                obtain ⟨c0, c1, c2, c3, c4, c5⟩ := HO.out.letters
                go_wp2_with fail
                refine (q2 _).mono ?_; rintro e w2 ⟨rfl, hb2⟩
                have HO := Lib.hid (HO.out.below hb2)
                have HB := Lib.hid (HB.out.trans (hb2.mono HB.out.size))
                clear hb2 c0 c1 c2 c3 c4 c5
                obtain ⟨c0, c1, c2, c3, c4, c5⟩ := HO.out.letters
                go_wp2_with fail
                refine (q3 _).mono ?_; rintro e w3 ⟨rfl, hb3⟩
                have HO := Lib.hid (HO.out.below hb3)
                have HB := Lib.hid (HB.out.trans (hb3.mono HB.out.size))
                clear hb3 c0 c1 c2 c3 c4 c5
                obtain ⟨c0, c1, c2, c3, c4, c5⟩ := HO.out.letters
                go_wp2_with fail
                go_ret
                exact ⟨rfl, HB.out⟩
    · rw [decide_eq_false h2] at q2
      have hv : wrR (a, b, c, d, n, m) = 23 := if_neg (fun q => h2 q.2.1)
      clear h1 h2
      rw [hv]
      clear hv
      go_enter Try.func21, Try.ntmps21
      go_wp2_with fail
      refine (q1 _).mono ?_; rintro e w1 ⟨rfl, hb1⟩
      have HO := Lib.hid (HO.out.below hb1)
      have HB := Lib.hid (HB.out.trans (hb1.mono HB.out.size))
      clear hb1 c0 c1 c2 c3 c4 c5
      obtain ⟨c0, c1, c2, c3, c4, c5⟩ := HO.out.letters
      go_wp2_with fail
      refine (q2 _).mono ?_; rintro e w2 ⟨rfl, hb2⟩
      have HO := Lib.hid (HO.out.below hb2)
      have HB := Lib.hid (HB.out.trans (hb2.mono HB.out.size))
      clear hb2 c0 c1 c2 c3 c4 c5
      obtain ⟨c0, c1, c2, c3, c4, c5⟩ := HO.out.letters
      go_wp2_with fail
      go_ret
      exact ⟨rfl, HB.out⟩
  · rw [decide_eq_false h1] at q1
    have hv : wrR (a, b, c, d, n, m) = 23 := if_neg (fun q => h1 q.1)
    clear h1
    rw [hv]
    clear hv
    go_enter Try.func21, Try.ntmps21
    go_wp2_with fail
    refine (q1 _).mono ?_; rintro e w1 ⟨rfl, hb1⟩
    have HO := Lib.hid (HO.out.below hb1)
    have HB := Lib.hid (HB.out.trans (hb1.mono HB.out.size))
    clear hb1 c0 c1 c2 c3 c4 c5
    obtain ⟨c0, c1, c2, c3, c4, c5⟩ := HO.out.letters
    go_wp2_with fail
    go_ret
    exact ⟨rfl, HB.out⟩
set_option maxRecDepth 100000 in
set_option maxHeartbeats 1000000 in
theorem r21one (a b c d n m a' b' c' d' n' m' : Int) (w : World) :
    Calls Try.prog 13 #[.agg #[.int .i64 a, .int .i64 b, .int .i64 c, .int .i64 d, .int .i64 n, .int .i64 m], .agg #[.int .i64 a', .int .i64 b', .int .i64 c', .int .i64 d', .int .i64 n', .int .i64 m']] w fun e w' => e = .returned (.bool (onK (a, b, c, d, n, m) (a', b', c', d', n', m'))) ∧ Below w.heap.size w w' := by
  have h1 := (Ow6.new' w a b c d n m).alloc (objL a' b' c' d' n' m')
  have h2 := Ow6.new' (w.alloc (objL a b c d n m)) a' b' c' d' n' m'
  rw [World.size_alloc] at h2
  have HB := Lib.hid (below2 w (objL a b c d n m) (objL a' b' c' d' n' m'))
  obtain ⟨c0, c1, c2, c3, c4, c5⟩ := h1.letters
  obtain ⟨d0, d1, d2, d3, d4, d5⟩ := h2.letters
  clear h1 h2
  by_cases h0 : a = a'
  · have t0 : (a == a') = true := by simpa using h0
    by_cases h1 : b = b'
    · have t1 : (b == b') = true := by simpa using h1
      by_cases h2 : c = c'
      · have t2 : (c == c') = true := by simpa using h2
        by_cases h3 : d = d'
        · have t3 : (d == d') = true := by simpa using h3
          have hv : onK (a, b, c, d, n, m) (a', b', c', d', n', m') = true := onK_iff.2 ⟨h0, h1, h2, h3⟩
          rw [hv]
          clear hv h0 h1 h2 h3
          go_enter Try.func13, Try.ntmps13
          go_wp2_with fail
          go_ret
          exact ⟨rfl, HB.out⟩
        · have t3 : (d == d') = false := by simpa using h3
          have hv : onK (a, b, c, d, n, m) (a', b', c', d', n', m') = false := by
            cases hq : onK (a, b, c, d, n, m) (a', b', c', d', n', m') with
            | false => rfl
            | true => exact absurd (onK_iff.1 hq).2.2.2 h3
          rw [hv]
          clear hv h0 h1 h2 h3
          go_enter Try.func13, Try.ntmps13
          go_wp2_with fail
          go_ret
          exact ⟨rfl, HB.out⟩
      · have t2 : (c == c') = false := by simpa using h2
        have hv : onK (a, b, c, d, n, m) (a', b', c', d', n', m') = false := by
          cases hq : onK (a, b, c, d, n, m) (a', b', c', d', n', m') with
          | false => rfl
          | true => exact absurd (onK_iff.1 hq).2.2.1 h2
        rw [hv]
        clear hv h0 h1 h2
        go_enter Try.func13, Try.ntmps13
        go_wp2_with fail
        go_ret
        exact ⟨rfl, HB.out⟩
    · have t1 : (b == b') = false := by simpa using h1
      have hv : onK (a, b, c, d, n, m) (a', b', c', d', n', m') = false := by
        cases hq : onK (a, b, c, d, n, m) (a', b', c', d', n', m') with
        | false => rfl
        | true => exact absurd (onK_iff.1 hq).2.1 h1
      rw [hv]
      clear hv h0 h1
      go_enter Try.func13, Try.ntmps13
      go_wp2_with fail
      go_ret
      exact ⟨rfl, HB.out⟩
  · have t0 : (a == a') = false := by simpa using h0
    have hv : onK (a, b, c, d, n, m) (a', b', c', d', n', m') = false := by
      cases hq : onK (a, b, c, d, n, m) (a', b', c', d', n', m') with
      | false => rfl
      | true => exact absurd (onK_iff.1 hq).1 h0
    rw [hv]
    clear hv h0
    go_enter Try.func13, Try.ntmps13
    go_wp2_with fail
    go_ret
    exact ⟨rfl, HB.out⟩
end Go.Proofs.Ytogckefmmjbapaa
