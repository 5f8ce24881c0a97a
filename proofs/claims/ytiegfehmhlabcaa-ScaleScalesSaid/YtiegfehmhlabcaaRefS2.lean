/-
  What the document's own Floor (gavelkindref03) answers. No conditions besides.
-/
import Derived.Test.YtiegfehmhlabcaaRefS
namespace Go.Proofs.Ytiegfehmhlabcaa
open Go.RowKit
set_option linter.unusedSimpArgs false
set_option linter.unusedVariables false

set_option maxHeartbeats 1000000 in
theorem rfloor_any (x n d : Int) (w : World) (hx : InR x) (hn : InR n) (hd : InR d) :
    Calls Try.prog 18 #[.int .i64 x, .int .i64 n, .int .i64 d] w fun e w' => e = .returned (.tuple #[.int .i64 (sv (x * n / d) d), .int .i64 (se (x * n / d) d)]) ∧ Below w.heap.size w w' := by
  by_cases h : d < 1
  · rw [sv_no h, se_no h]
    clear hx hn hd
    go_enter Try.func18, Try.ntmps18
    go_wp2_with fail
    go_ret2
    exact ⟨rfl, Below.refl _ _⟩
  · have h1 : 1 ≤ d := by omega
    rw [sv_yes h1, se_yes h1]
    have lx := digs_19 hx; have ln := digs_19 hn; have ld := digs_19 hd
    have lp := digs_len_times lx ln
    have hTi := fun (w : World) (v v' : Value) (h : Big w v x) (h' : Big w v' n) => btimes v v' x n w h h' (by omega) (by omega)
    have hDv := fun (w : World) (v v' : Value) (h : Big w v (x * n)) (h' : Big w v' d) => bdiv_w w v v' h h' (by omega) (by omega) (by omega)
    have hT := fun (w : World) (v : Value) (h : Big w v (x * n / d)) => told_any v _ w h (Nat.le_trans (div_len lp) (by omega))
    have hO1 := of_any x hx; have hO2 := of_any n hn; have hO3 := of_any d hd
    generalize x * n = p at *
    generalize p / d = q at *; generalize p % d = r at *
    generalize decide (q < 0) = sq at *; generalize (digs q.natAbs).length = lq at *; generalize decide (r < 0) = sr at *; generalize (digs r.natAbs).length = lr at *
    generalize tv q = a at *; generalize te q = b at *
    clear lx ln lp ld hx hn hd h
    go_enter Try.func18, Try.ntmps18
    go_wp2_with fail
    refine (hO1 _).mono ?_; rintro e w1 ⟨r1, rfl, hr1, hb1⟩
    go_wp2_with fail
    refine (hO2 _).mono ?_; rintro e w2 ⟨r2, rfl, hr2, hb2⟩
    have j2 := hb1.trans (hb2.mono hb1.size)
    go_wp2_with fail
    refine (hTi _ _ _ (hr1.below hb2) hr2).mono ?_; rintro e w3 ⟨r3, rfl, hr3, hb3⟩
    have j3 := j2.trans (hb3.mono j2.size)
    go_wp2_with fail
    refine (hO3 _).mono ?_; rintro e w4 ⟨r4, rfl, hr4, hb4⟩
    have j4 := j3.trans (hb4.mono j3.size)
    go_wp2_with fail
    refine (hDv _ _ _ (hr3.below hb4) hr4).mono ?_; rintro e w5 ⟨a5, c5, b5, f5, rfl, h5, h6, hb5⟩
    have K := ((Keeps.start w).below (j4.trans (hb5.mono j4.size))).new2 (.bool sq) (.slice a5 lq c5) (.bool sr) (.slice b5 lr f5) 27 27
    have H5 := Lib.hid ((h5.alloc (.cells #[.bool sq, .slice a5 lq c5] 27)).alloc (.cells #[.bool sr, .slice b5 lr f5] 27))
    clear h5 h6 hr1 hr2 hr3 hr4
    go_wp2_with fail
    refine (hT _ _ H5.out).mono ?_; rintro e w6 ⟨rfl, hb6⟩
    replace K := K.below hb6
    go_wp2_with fail
    go_ret2
    exact ⟨rfl, K.1⟩
end Go.Proofs.Ytiegfehmhlabcaa
