/-
  What the document's own Even and Scale (gavelkindref03) answer. The condition of Even: a whole number of at most 300 digits.
-/
import Derived.Test.YtnomeglccihplaaDoorRefR
namespace Go.Proofs.YtnomeglccihplaaDoor
open Go.RowKit
set_option linter.unusedSimpArgs false
set_option linter.unusedVariables false

set_option maxHeartbeats 1000000 in
theorem reven_any (v : Value) (x d : Int) (w : World) (hv : Big w v x) (hd : InR d) (hl : (digs x.natAbs).length ≤ 300) :
    Calls Tryd.prog 42 #[v, .int .i64 d] w fun e w' => e = .returned (.tuple #[.int .i64 (sv (nearv x d) d), .int .i64 (se (nearv x d) d)]) ∧ Below w.heap.size w w' := by
  obtain ⟨a, c, rfl⟩ := hv.form
  by_cases h : d < 1
  · rw [sv_no h, se_no h]
    generalize decide (x < 0) = sx at *; generalize (digs x.natAbs).length = lx at *
    clear hv
    go_enter Tryd.func42, Tryd.ntmps42
    go_wp2_with fail
    go_ret2
    exact ⟨rfl, below1 _ _⟩
  · have h1 : 1 ≤ d := by omega
    rw [sv_yes h1, se_yes h1]
    have hN := nearest_any _ x d _ (hv.alloc (.cells #[.bool (decide (x < 0)), .slice a (digs x.natAbs).length c] 40)) hd (by omega) hl
    have hT := fun (w : World) (v : Value) (h : Big w v (nearv x d)) => told_any v _ w h (Nat.le_trans (near_len hl (by omega)) (by omega))
    generalize nearv x d = nv at *
    generalize decide (x < 0) = sx at *; generalize (digs x.natAbs).length = lx at *
    clear hv h hl hd
    go_enter Tryd.func42, Tryd.ntmps42
    go_wp2_with fail
    refine hN.mono ?_; rintro e w1 ⟨u, rfl, hu, hb1⟩
    go_wp2_with fail
    refine (hT _ _ hu).mono ?_; rintro e w2 ⟨rfl, hb2⟩
    go_wp2_with fail
    go_ret2
    have j := (below1 w _).trans (hb1.mono (by simp))
    exact ⟨rfl, j.trans (hb2.mono j.size)⟩

set_option maxHeartbeats 1000000 in
theorem rscale_any (x n d : Int) (w : World) (hx : InR x) (hn : InR n) (hd : InR d) :
    Calls Tryd.prog 26 #[.int .i64 x, .int .i64 n, .int .i64 d] w fun e w' => e = .returned (.tuple #[.int .i64 (sv (nearv (x * n) d) d), .int .i64 (se (nearv (x * n) d) d)]) ∧ Below w.heap.size w w' := by
  have lx := digs_19 hx; have ln := digs_19 hn
  have lp := digs_len_times lx ln
  have hT := fun (w : World) (v v' : Value) (h : Big w v x) (h' : Big w v' n) => btimes v v' x n w h h' (by omega) (by omega)
  have hE := fun (w : World) (v : Value) (h : Big w v (x * n)) => reven_any v (x * n) d w h hd (by omega)
  have hO1 := of_any x hx; have hO2 := of_any n hn
  generalize sv (nearv (x * n) d) d = a at *; generalize se (nearv (x * n) d) d = b at *
  clear lx ln lp hx hn hd
  go_enter Tryd.func26, Tryd.ntmps26
  go_wp2_with fail
  refine (hO1 _).mono ?_; rintro e w1 ⟨r1, rfl, hr1, hb1⟩
  go_wp2_with fail
  refine (hO2 _).mono ?_; rintro e w2 ⟨r2, rfl, hr2, hb2⟩
  have j2 := hb1.trans (hb2.mono hb1.size)
  go_wp2_with fail
  refine (hT _ _ _ (hr1.below hb2) hr2).mono ?_; rintro e w3 ⟨r3, rfl, hr3, hb3⟩
  have j3 := j2.trans (hb3.mono j2.size)
  go_wp2_with fail
  refine (hE _ _ hr3).mono ?_; rintro e w4 ⟨rfl, hb4⟩
  have j4 := j3.trans (hb4.mono j3.size)
  go_wp2_with fail
  go_ret2
  exact ⟨rfl, j4⟩

end Go.Proofs.YtnomeglccihplaaDoor
