/-
  What the landed key, between, anyWay, anyTime, isCurrency, wrong and Check of rates answer. The condition: a row of at most 1000000.
-/
import Derived.Test.YtogckefmmjbapaaChecked
import Derived.Test.YtogckefmmjbapaaRtR
import Derived.Test.YtogckefmmjbapaaRatA
import Derived.Deep.QuietTactic
import Derived.BigQuiet
import Derived.WalkSmall
namespace Go.Proofs.Ytogckefmmjbapaa
open Go.RowKit
set_option linter.unusedSimpArgs false
set_option linter.unusedVariables false

set_option maxRecDepth 100000 in
set_option maxHeartbeats 1000000 in
theorem key_c (a b c d n m : Int) (w : World) :
    Calls Try.prog 39 #[.agg #[.int .i64 a, .int .i64 b, .int .i64 c, .int .i64 d, .int .i64 n, .int .i64 m]] w fun e w' => e = .returned (.agg #[.int .i64 a, .int .i64 b, .int .i64 c, .int .i64 d, .int .i64 0, .int .i64 0]) ∧ Below w.heap.size w w' := by
  have HB := Lib.hid (below2 w (objL a b c d 0 0) (objL a b c d 0 0))
  go_enter Try.func39, Try.ntmps39
  go_wp2_with fail
  refine bodyPost_ret (v := .agg #[.int .i64 a, .int .i64 b, .int .i64 c, .int .i64 d, .int .i64 0, .int .i64 0]) ?_ rfl ⟨rfl, ?_⟩
  · simp [results, Try.results39, go_sem]
  · exact HB.out
set_option maxRecDepth 100000 in
set_option maxHeartbeats 1000000 in
theorem between_c (a b c d n m x y : Int) (w : World) :
    Calls Try.prog 28 #[.agg #[.int .i64 a, .int .i64 b, .int .i64 c, .int .i64 d, .int .i64 n, .int .i64 m], .int .i64 x, .int .i64 y] w fun e w' => e = .returned (.agg #[.int .i64 x, .int .i64 y, .int .i64 c, .int .i64 d, .int .i64 0, .int .i64 0]) ∧ Below w.heap.size w w' := by
  have hk := key_c x y c d n m
  have h1 := Ow6.new' (w.alloc (objL x y c d n m)) 0 0 0 0 0 0
  rw [World.size_alloc] at h1
  have HB := Lib.hid (below2 w (objL x y c d n m) (objL 0 0 0 0 0 0))
  have H2 := Lib.hid h1
  clear h1
  go_enter Try.func28, Try.ntmps28
  go_wp2_with fail
  refine (hk _).mono ?_; clear hk; rintro e w1 ⟨rfl, hb1⟩
  have h3 := H2.out.below hb1
  have h4 := h3.put' x y c d 0 0
  obtain ⟨d0, d1, d2, d3, d4, d5⟩ := h4.letters
  obtain ⟨g0, g1, g2, g3, g4, g5⟩ := h3.free
  obtain ⟨k0, k1, k2, k3, k4, k5⟩ := h3.letters
  have HB2 := Lib.hid (below_set6 (HB.out.trans (hb1.mono HB.out.size)) (k := w.heap.size + 1) (by omega) (.int .i64 x) (.int .i64 y) (.int .i64 c) (.int .i64 d) (.int .i64 0) (.int .i64 0))
  clear h3 h4 hb1 HB H2
  go_wp2_with fail
  refine bodyPost_ret (v := .agg #[.int .i64 x, .int .i64 y, .int .i64 c, .int .i64 d, .int .i64 0, .int .i64 0]) ?_ rfl ⟨rfl, ?_⟩
  · simp [results, Try.results28, go_sem, d0, d1, d2, d3, d4, d5]
  · exact HB2.out
set_option maxRecDepth 100000 in
set_option maxHeartbeats 1000000 in
theorem anyWay_c (a b c d n m : Int) (w : World) :
    Calls Try.prog 26 #[.agg #[.int .i64 a, .int .i64 b, .int .i64 c, .int .i64 d, .int .i64 n, .int .i64 m]] w fun e w' => e = .returned (.agg #[.int .i64 0, .int .i64 0, .int .i64 c, .int .i64 d, .int .i64 0, .int .i64 0]) ∧ Below w.heap.size w w' := by
  have hk := between_c a b c d n m 0 0
  have h1 := Ow6.new' (w.alloc (objL a b c d n m)) 0 0 0 0 0 0
  rw [World.size_alloc] at h1
  have HB := Lib.hid (below2 w (objL a b c d n m) (objL 0 0 0 0 0 0))
  have H2 := Lib.hid h1
  clear h1
  go_enter Try.func26, Try.ntmps26
  go_wp2_with fail
  refine (hk _).mono ?_; clear hk; rintro e w1 ⟨rfl, hb1⟩
  have h3 := H2.out.below hb1
  have h4 := h3.put' 0 0 c d 0 0
  obtain ⟨d0, d1, d2, d3, d4, d5⟩ := h4.letters
  obtain ⟨g0, g1, g2, g3, g4, g5⟩ := h3.free
  obtain ⟨k0, k1, k2, k3, k4, k5⟩ := h3.letters
  have HB2 := Lib.hid (below_set6 (HB.out.trans (hb1.mono HB.out.size)) (k := w.heap.size + 1) (by omega) (.int .i64 0) (.int .i64 0) (.int .i64 c) (.int .i64 d) (.int .i64 0) (.int .i64 0))
  clear h3 h4 hb1 HB H2
  go_wp2_with fail
  refine bodyPost_ret (v := .agg #[.int .i64 0, .int .i64 0, .int .i64 c, .int .i64 d, .int .i64 0, .int .i64 0]) ?_ rfl ⟨rfl, ?_⟩
  · simp [results, Try.results26, go_sem, d0, d1, d2, d3, d4, d5]
  · exact HB2.out
set_option maxRecDepth 100000 in
set_option maxHeartbeats 1000000 in
theorem anyTime_c (a b c d n m : Int) (w : World) :
    Calls Try.prog 32 #[.agg #[.int .i64 a, .int .i64 b, .int .i64 c, .int .i64 d, .int .i64 n, .int .i64 m]] w fun e w' => e = .returned (.agg #[.int .i64 a, .int .i64 b, .int .i64 c, .int .i64 0, .int .i64 0, .int .i64 0]) ∧ Below w.heap.size w w' := by
  have hk := key_c a b c 0 n m
  have h1 := Ow6.new' (w.alloc (objL a b c 0 n m)) 0 0 0 0 0 0
  rw [World.size_alloc] at h1
  have HB := Lib.hid (below2 w (objL a b c 0 n m) (objL 0 0 0 0 0 0))
  have H2 := Lib.hid h1
  clear h1
  go_enter Try.func32, Try.ntmps32
  go_wp2_with fail
  refine (hk _).mono ?_; clear hk; rintro e w1 ⟨rfl, hb1⟩
  have h3 := H2.out.below hb1
  have h4 := h3.put' a b c 0 0 0
  obtain ⟨d0, d1, d2, d3, d4, d5⟩ := h4.letters
  obtain ⟨g0, g1, g2, g3, g4, g5⟩ := h3.free
  obtain ⟨k0, k1, k2, k3, k4, k5⟩ := h3.letters
  have HB2 := Lib.hid (below_set6 (HB.out.trans (hb1.mono HB.out.size)) (k := w.heap.size + 1) (by omega) (.int .i64 a) (.int .i64 b) (.int .i64 c) (.int .i64 0) (.int .i64 0) (.int .i64 0))
  clear h3 h4 hb1 HB H2
  go_wp2_with fail
  refine bodyPost_ret (v := .agg #[.int .i64 a, .int .i64 b, .int .i64 c, .int .i64 0, .int .i64 0, .int .i64 0]) ?_ rfl ⟨rfl, ?_⟩
  · simp [results, Try.results32, go_sem, d0, d1, d2, d3, d4, d5]
  · exact HB2.out
set_option maxRecDepth 100000 in
theorem iscur_c (z : Int) (w : World) : Calls Try.prog 35 #[.int .i64 z] w fun e w' => e = .returned (.bool (decide (cur z))) ∧ Below w.heap.size w w' := by
  by_cases h1 : 1 ≤ z
  · have d1 : decide (1 ≤ z) = true := decide_eq_true h1
    have e1 : decide (cur z) = decide (z ≤ 8) := by unfold cur; simp [h1]
    rw [e1]
    go_enter Try.func35, Try.ntmps35
    go_wp2_with fail
    go_ret
    exact ⟨rfl, Below.refl _ _⟩
  · have d1 : decide (1 ≤ z) = false := decide_eq_false h1
    have e1 : decide (cur z) = false := by unfold cur; simp [h1]
    rw [e1]
    go_enter Try.func35, Try.ntmps35
    go_wp2_with fail
    go_ret
    exact ⟨rfl, Below.refl _ _⟩
set_option maxRecDepth 100000 in
set_option maxHeartbeats 1000000 in
theorem wrong_r (a b c d n m : Int) (w : World) :
    Calls Try.prog 20 #[.agg #[.int .i64 a, .int .i64 b, .int .i64 c, .int .i64 d, .int .i64 n, .int .i64 m]] w fun e w' => e = .returned (.int .i64 (wrR (a, b, c, d, n, m))) ∧ Below w.heap.size w w' := by
  have HO := Lib.hid (Ow6.new' w a b c d n m)
  have HB := Lib.hid (below1 w (objL a b c d n m))
  obtain ⟨c0, c1, c2, c3, c4, c5⟩ := HO.out.letters
  have q1 := iscur_c a
  by_cases h1 : cur a
  · rw [decide_eq_true h1] at q1
    have q2 := iscur_c b
    by_cases h2 : cur b
    · rw [decide_eq_true h2] at q2
      by_cases h3 : a = b
      · have d3 : (a == b) = true := by simpa using h3
        have hv : wrR (a, b, c, d, n, m) = 23 := if_neg (fun q => q.2.2 h3)
        clear h1 h2 h3
        rw [hv]
        clear hv
        go_enter Try.func20, Try.ntmps20
        go_wp2_with fail
        refine (q1 _).mono ?_; rintro e w1 ⟨rfl, hb1⟩
        have HO := Lib.hid (HO.out.below hb1)
        have HB := Lib.hid (HB.out.trans (hb1.mono HB.out.size))
        clear hb1 c0 c1 c2 c3 c4 c5
        obtain ⟨c0, c1, c2, c3, c4, c5⟩ := HO.out.letters
        go_wp2_with fail
        refine (q2 _).mono ?_; rintro e w2 ⟨rfl, hb2⟩
        have HO := Lib.hid (HO.out.below hb2)
        have HB := Lib.hid (HB.out.trans (hb2.mono HB.out.size))
        clear hb2 c0 c1 c2 c3 c4 c5
        obtain ⟨c0, c1, c2, c3, c4, c5⟩ := HO.out.letters
        go_wp2_with fail
        go_ret
        exact ⟨rfl, HB.out⟩
      · have d3 : (a == b) = false := by simpa using h3
        have hA : wrR (a, b, c, d, n, m) = if c < 1 ∨ 3 < c then 25 else if d < 0 ∨ 24 ≤ d then 22 else rc n m := if_pos ⟨h1, h2, h3⟩
        by_cases h4 : c < 1
        · have d4 : decide (c < 1) = true := decide_eq_true h4
          have hv : wrR (a, b, c, d, n, m) = 25 := hA.trans (if_pos (Or.inl h4))
          clear hA h1 h2 h3 h4
          rw [hv]
          clear hv
          go_enter Try.func20, Try.ntmps20
          go_wp2_with fail
          refine (q1 _).mono ?_; rintro e w1 ⟨rfl, hb1⟩
          have HO := Lib.hid (HO.out.below hb1)
          have HB := Lib.hid (HB.out.trans (hb1.mono HB.out.size))
          clear hb1 c0 c1 c2 c3 c4 c5
          obtain ⟨c0, c1, c2, c3, c4, c5⟩ := HO.out.letters
          go_wp2_with fail
          refine (q2 _).mono ?_; rintro e w2 ⟨rfl, hb2⟩
          have HO := Lib.hid (HO.out.below hb2)
          have HB := Lib.hid (HB.out.trans (hb2.mono HB.out.size))
          clear hb2 c0 c1 c2 c3 c4 c5
          obtain ⟨c0, c1, c2, c3, c4, c5⟩ := HO.out.letters
          go_wp2_with fail
          go_ret
          exact ⟨rfl, HB.out⟩
        · have d4 : decide (c < 1) = false := decide_eq_false h4
          by_cases h5 : 3 < c
          · have d5 : decide (3 < c) = true := decide_eq_true h5
            have hv : wrR (a, b, c, d, n, m) = 25 := hA.trans (if_pos (Or.inr h5))
            clear hA h1 h2 h3 h4 h5
            rw [hv]
            clear hv
            go_enter Try.func20, Try.ntmps20
            go_wp2_with fail
            refine (q1 _).mono ?_; rintro e w1 ⟨rfl, hb1⟩
            have HO := Lib.hid (HO.out.below hb1)
            have HB := Lib.hid (HB.out.trans (hb1.mono HB.out.size))
            clear hb1 c0 c1 c2 c3 c4 c5
            obtain ⟨c0, c1, c2, c3, c4, c5⟩ := HO.out.letters
            go_wp2_with fail
            refine (q2 _).mono ?_; rintro e w2 ⟨rfl, hb2⟩
            have HO := Lib.hid (HO.out.below hb2)
            have HB := Lib.hid (HB.out.trans (hb2.mono HB.out.size))
            clear hb2 c0 c1 c2 c3 c4 c5
            obtain ⟨c0, c1, c2, c3, c4, c5⟩ := HO.out.letters
            go_wp2_with fail
            go_ret
            exact ⟨rfl, HB.out⟩
          · have d5 : decide (3 < c) = false := decide_eq_false h5
            have hA := hA.trans (if_neg (fun q => q.elim h4 h5))
            by_cases h6 : d < 0
            · have d6 : decide (d < 0) = true := decide_eq_true h6
              have hv : wrR (a, b, c, d, n, m) = 22 := hA.trans (if_pos (Or.inl h6))
              clear hA h1 h2 h3 h4 h5 h6
              rw [hv]
              clear hv
              go_enter Try.func20, Try.ntmps20
              go_wp2_with fail
              refine (q1 _).mono ?_; rintro e w1 ⟨rfl, hb1⟩
              have HO := Lib.hid (HO.out.below hb1)
              have HB := Lib.hid (HB.out.trans (hb1.mono HB.out.size))
              clear hb1 c0 c1 c2 c3 c4 c5
              obtain ⟨c0, c1, c2, c3, c4, c5⟩ := HO.out.letters
              go_wp2_with fail
              refine (q2 _).mono ?_; rintro e w2 ⟨rfl, hb2⟩
              have HO := Lib.hid (HO.out.below hb2)
              have HB := Lib.hid (HB.out.trans (hb2.mono HB.out.size))
              clear hb2 c0 c1 c2 c3 c4 c5
              obtain ⟨c0, c1, c2, c3, c4, c5⟩ := HO.out.letters
              go_wp2_with fail
              go_ret
              exact ⟨rfl, HB.out⟩
            · have d6 : decide (d < 0) = false := decide_eq_false h6
              by_cases h7 : 24 ≤ d
              · have d7 : decide (24 ≤ d) = true := decide_eq_true h7
                have hv : wrR (a, b, c, d, n, m) = 22 := hA.trans (if_pos (Or.inr h7))
                clear hA h1 h2 h3 h4 h5 h6 h7
                rw [hv]
                clear hv
                go_enter Try.func20, Try.ntmps20
                go_wp2_with fail
                refine (q1 _).mono ?_; rintro e w1 ⟨rfl, hb1⟩
                have HO := Lib.hid (HO.out.below hb1)
                have HB := Lib.hid (HB.out.trans (hb1.mono HB.out.size))
                clear hb1 c0 c1 c2 c3 c4 c5
                obtain ⟨c0, c1, c2, c3, c4, c5⟩ := HO.out.letters
                go_wp2_with fail
                refine (q2 _).mono ?_; rintro e w2 ⟨rfl, hb2⟩
                have HO := Lib.hid (HO.out.below hb2)
                have HB := Lib.hid (HB.out.trans (hb2.mono HB.out.size))
                clear hb2 c0 c1 c2 c3 c4 c5
                obtain ⟨c0, c1, c2, c3, c4, c5⟩ := HO.out.letters
                go_wp2_with fail
                go_ret
                exact ⟨rfl, HB.out⟩
              · have d7 : decide (24 ≤ d) = false := decide_eq_false h7
                have q3 := c_check n m
                have hv : wrR (a, b, c, d, n, m) = rc n m := hA.trans (if_neg (fun q => q.elim h6 h7))
                clear hA h1 h2 h3 h4 h5 h6 h7
                rw [hv]
                clear hv
                go_enter Try.func20, Try.ntmps20
                go_wp2_with fail
                refine (q1 _).mono ?_; rintro e w1 ⟨rfl, hb1⟩
                have HO := Lib.hid (HO.out.below hb1)
                have HB := Lib.hid (HB.out.trans (hb1.mono HB.out.size))
                clear hb1 c0 c1 c2 c3 c4 c5
                obtain ⟨c0, c1, c2, c3, c4, c5⟩ := HO.out.letters
                go_wp2_with fail
                refine (q2 _).mono ?_; rintro e w2 ⟨rfl, hb2⟩
                have HO := Lib.hid (HO.out.below hb2)
                have HB := Lib.hid (HB.out.trans (hb2.mono HB.out.size))
                clear hb2 c0 c1 c2 c3 c4 c5
                obtain ⟨c0, c1, c2, c3, c4, c5⟩ := HO.out.letters
                go_wp2_with fail
                refine (q3 _).mono ?_; rintro e w3 ⟨rfl, hb3⟩
                have HO := Lib.hid (HO.out.below hb3)
                have HB := Lib.hid (HB.out.trans (hb3.mono HB.out.size))
                clear hb3 c0 c1 c2 c3 c4 c5
                obtain ⟨c0, c1, c2, c3, c4, c5⟩ := HO.out.letters
                go_wp2_with fail
                go_ret
                exact ⟨rfl, HB.out⟩
    · rw [decide_eq_false h2] at q2
      have hv : wrR (a, b, c, d, n, m) = 23 := if_neg (fun q => h2 q.2.1)
      clear h1 h2
      rw [hv]
      clear hv
      go_enter Try.func20, Try.ntmps20
      go_wp2_with fail
      refine (q1 _).mono ?_; rintro e w1 ⟨rfl, hb1⟩
      have HO := Lib.hid (HO.out.below hb1)
      have HB := Lib.hid (HB.out.trans (hb1.mono HB.out.size))
      clear hb1 c0 c1 c2 c3 c4 c5
      obtain ⟨c0, c1, c2, c3, c4, c5⟩ := HO.out.letters
      go_wp2_with fail
      refine (q2 _).mono ?_; rintro e w2 ⟨rfl, hb2⟩
      have HO := Lib.hid (HO.out.below hb2)
      have HB := Lib.hid (HB.out.trans (hb2.mono HB.out.size))
      clear hb2 c0 c1 c2 c3 c4 c5
      obtain ⟨c0, c1, c2, c3, c4, c5⟩ := HO.out.letters
      go_wp2_with fail
      go_ret
      exact ⟨rfl, HB.out⟩
  · rw [decide_eq_false h1] at q1
    have hv : wrR (a, b, c, d, n, m) = 23 := if_neg (fun q => h1 q.1)
    clear h1
    rw [hv]
    clear hv
    go_enter Try.func20, Try.ntmps20
    go_wp2_with fail
    refine (q1 _).mono ?_; rintro e w1 ⟨rfl, hb1⟩
    have HO := Lib.hid (HO.out.below hb1)
    have HB := Lib.hid (HB.out.trans (hb1.mono HB.out.size))
    clear hb1 c0 c1 c2 c3 c4 c5
    obtain ⟨c0, c1, c2, c3, c4, c5⟩ := HO.out.letters
    go_wp2_with fail
    go_ret
    exact ⟨rfl, HB.out⟩
end Go.Proofs.Ytogckefmmjbapaa
