/-
  What is wrong with a stake by itself: what the landed code answers. No conditions.
-/
import Derived.Test.YtebjmnppeohdiaaStkA
import Derived.Deep.QuietTactic
import Derived.BigQuiet
import Derived.WalkSmall
import Derived.Deep.DeepCutAuto
import Derived.Deep.RegionHeld3
namespace Go.Proofs.Ytebjmnppeohdiaa
open Go.RowKit
set_option linter.unusedSimpArgs false
set_option linter.unusedVariables false

set_option maxRecDepth 100000 in
theorem wrong_s (s : K4) (n : Int) (w : World) :
    Calls Try.prog 60 #[.agg #[.int .i64 s.1, .int .i64 s.2.1, .int .i64 s.2.2.1, .int .i64 s.2.2.2], .int .i64 n] w fun e w' => e = .returned (.int .i64 (wrg s n)) ∧ Below w.heap.size w w' := by
  have hb := below1 w (.cells #[.int .i64 s.1, .int .i64 s.2.1, .int .i64 s.2.2.1, .int .i64 s.2.2.2] 75)
  obtain ⟨g0, g1, g2, g3⟩ := new4 (w := w) (s := s) (Below.refl _ _)
  have HB := Lib.hid hb
  clear hb
  by_cases h1 : s.1 < 1
  · have d1 : decide (s.1 < 1) = true := decide_eq_true h1
    have hv : wrg s n = 20 := by unfold wrg; rw [if_pos (by omega)]
    clear h1
    rw [hv]
    clear hv
    go_enter Try.func60, Try.ntmps60
    go_wp2_with fail
    go_ret
    exact ⟨rfl, HB.out⟩
  · have d1 : decide (s.1 < 1) = false := decide_eq_false h1
    by_cases h2 : n < s.1
    · have d2 : decide (n < s.1) = true := decide_eq_true h2
      have hv : wrg s n = 20 := by unfold wrg; rw [if_pos (by omega)]
      clear h1 h2
      rw [hv]
      clear hv
      go_enter Try.func60, Try.ntmps60
      go_wp2_with fail
      go_ret
      exact ⟨rfl, HB.out⟩
    · have d2 : decide (n < s.1) = false := decide_eq_false h2
      by_cases h3 : s.2.1 < 0
      · have d3 : decide (s.2.1 < 0) = true := decide_eq_true h3
        have hv : wrg s n = 20 := by unfold wrg; rw [if_pos (by omega)]
        clear h1 h2 h3
        rw [hv]
        clear hv
        go_enter Try.func60, Try.ntmps60
        go_wp2_with fail
        go_ret
        exact ⟨rfl, HB.out⟩
      · have d3 : decide (s.2.1 < 0) = false := decide_eq_false h3
        by_cases h4 : n < s.2.1
        · have d4 : decide (n < s.2.1) = true := decide_eq_true h4
          have hv : wrg s n = 20 := by unfold wrg; rw [if_pos (by omega)]
          clear h1 h2 h3 h4
          rw [hv]
          clear hv
          go_enter Try.func60, Try.ntmps60
          go_wp2_with fail
          go_ret
          exact ⟨rfl, HB.out⟩
        · have d4 : decide (n < s.2.1) = false := decide_eq_false h4
          by_cases h5 : s.2.2.1 < 0
          · have d5 : decide (s.2.2.1 < 0) = true := decide_eq_true h5
            have hv : wrg s n = 12 := by unfold wrg; rw [if_neg (by omega), if_pos (by omega)]
            clear h1 h2 h3 h4 h5
            rw [hv]
            clear hv
            go_enter Try.func60, Try.ntmps60
            go_wp2_with fail
            go_ret
            exact ⟨rfl, HB.out⟩
          · have d5 : decide (s.2.2.1 < 0) = false := decide_eq_false h5
            by_cases h6 : 10000 < s.2.2.1
            · have d6 : decide (10000 < s.2.2.1) = true := decide_eq_true h6
              have hv : wrg s n = 12 := by unfold wrg; rw [if_neg (by omega), if_pos (by omega)]
              clear h1 h2 h3 h4 h5 h6
              rw [hv]
              clear hv
              go_enter Try.func60, Try.ntmps60
              go_wp2_with fail
              go_ret
              exact ⟨rfl, HB.out⟩
            · have d6 : decide (10000 < s.2.2.1) = false := decide_eq_false h6
              by_cases h7 : s.2.1 = 0
              · have d7 : (s.2.1 == 0) = true := by simpa using h7
                by_cases hq : s.2.2.1 = 10000
                · have dq : (s.2.2.1 != 10000) = false := by simpa using hq
                  by_cases h8 : s.2.2.2 < 0
                  · have d8 : decide (s.2.2.2 < 0) = true := decide_eq_true h8
                    have hv : wrg s n = 22 := by unfold wrg; rw [if_neg (by omega), if_neg (by omega), if_pos (by omega)]
                    clear h1 h2 h3 h4 h5 h6 h7 hq h8
                    rw [hv]
                    clear hv
                    go_enter Try.func60, Try.ntmps60
                    go_wp2_with fail
                    go_ret
                    exact ⟨rfl, HB.out⟩
                  · have d8 : decide (s.2.2.2 < 0) = false := decide_eq_false h8
                    by_cases h9 : 24 ≤ s.2.2.2
                    · have d9 : decide (24 ≤ s.2.2.2) = true := decide_eq_true h9
                      have hv : wrg s n = 22 := by unfold wrg; rw [if_neg (by omega), if_neg (by omega), if_pos (by omega)]
                      clear h1 h2 h3 h4 h5 h6 h7 hq h8 h9
                      rw [hv]
                      clear hv
                      go_enter Try.func60, Try.ntmps60
                      go_wp2_with fail
                      go_ret
                      exact ⟨rfl, HB.out⟩
                    · have d9 : decide (24 ≤ s.2.2.2) = false := decide_eq_false h9
                      have hv : wrg s n = 0 := by unfold wrg; rw [if_neg (by omega), if_neg (by omega), if_neg (by omega)]
                      clear h1 h2 h3 h4 h5 h6 h7 hq h8 h9
                      rw [hv]
                      clear hv
                      go_enter Try.func60, Try.ntmps60
                      go_wp2_with fail
                      go_ret
                      exact ⟨rfl, HB.out⟩
                · have dq : (s.2.2.1 != 10000) = true := by simpa using hq
                  have hv : wrg s n = 12 := by unfold wrg; rw [if_neg (by omega), if_pos (by omega)]
                  clear h1 h2 h3 h4 h5 h6 h7 hq
                  rw [hv]
                  clear hv
                  go_enter Try.func60, Try.ntmps60
                  go_wp2_with fail
                  go_ret
                  exact ⟨rfl, HB.out⟩
              · have d7 : (s.2.1 == 0) = false := by simpa using h7
                by_cases h8 : s.2.2.2 < 0
                · have d8 : decide (s.2.2.2 < 0) = true := decide_eq_true h8
                  have hv : wrg s n = 22 := by unfold wrg; rw [if_neg (by omega), if_neg (by omega), if_pos (by omega)]
                  clear h1 h2 h3 h4 h5 h6 h7 h8
                  rw [hv]
                  clear hv
                  go_enter Try.func60, Try.ntmps60
                  go_wp2_with fail
                  go_ret
                  exact ⟨rfl, HB.out⟩
                · have d8 : decide (s.2.2.2 < 0) = false := decide_eq_false h8
                  by_cases h9 : 24 ≤ s.2.2.2
                  · have d9 : decide (24 ≤ s.2.2.2) = true := decide_eq_true h9
                    have hv : wrg s n = 22 := by unfold wrg; rw [if_neg (by omega), if_neg (by omega), if_pos (by omega)]
                    clear h1 h2 h3 h4 h5 h6 h7 h8 h9
                    rw [hv]
                    clear hv
                    go_enter Try.func60, Try.ntmps60
                    go_wp2_with fail
                    go_ret
                    exact ⟨rfl, HB.out⟩
                  · have d9 : decide (24 ≤ s.2.2.2) = false := decide_eq_false h9
                    have hv : wrg s n = 0 := by unfold wrg; rw [if_neg (by omega), if_neg (by omega), if_neg (by omega)]
                    clear h1 h2 h3 h4 h5 h6 h7 h8 h9
                    rw [hv]
                    clear hv
                    go_enter Try.func60, Try.ntmps60
                    go_wp2_with fail
                    go_ret
                    exact ⟨rfl, HB.out⟩
end Go.Proofs.Ytebjmnppeohdiaa
