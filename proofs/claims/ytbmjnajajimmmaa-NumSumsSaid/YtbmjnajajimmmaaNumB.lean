/-
  What num's numbers of two words do: widen, plus, opposite and narrow, over whole numbers. No conditions besides.
-/
import Derived.Test.YtbmjnajajimmmaaNumA
import Derived.StillTactics
import Derived.Laws.Pointers
import Derived.Deep.RegionHeld3
import Derived.Laws.Externs
import Derived.ChangeKeysEq
namespace Go.Proofs.Ytbmjnajajimmmaa
open Go.RowKit

theorem add64 (x y c : Int) (hx : 0 ≤ x) (hy : 0 ≤ y) (hc0 : 0 ≤ c) (hc : c ≤ 1) (w : World) : (callFunc 37 #[.int .u64 x, .int .u64 y, .int .u64 c]).run Try.prog w =
    .ok (.value (.tuple #[.int .u64 ((x + y + c) % 18446744073709551616), .int .u64 ((x + y + c) / 18446744073709551616)])) w := by
  rw [run_callFunc_extern Try.func37 (by kernel_rfl) (by kernel_rfl) (by kernel_rfl) (e := add64Entry) (by kernel_rfl), run_add64 x y c hx hy hc0 hc]
  rfl
theorem add64_0 (x y : Int) (hx : 0 ≤ x) (hy : 0 ≤ y) (w : World) : (callFunc 37 #[.int .u64 x, .int .u64 y, .int .u64 0]).run Try.prog w =
    .ok (.value (.tuple #[.int .u64 ((x + y) % 18446744073709551616), .int .u64 ((x + y) / 18446744073709551616)])) w := by
  simpa using add64 x y 0 hx hy (Int.le_refl 0) (by decide) w

/-- The lower and the upper word of a whole number. -/
def wlo (x : Int) : Int := x % 18446744073709551616
def whi (x : Int) : Int := x / 18446744073709551616 % 18446744073709551616
theorem wlo_bd (x : Int) : 0 ≤ wlo x ∧ wlo x < 18446744073709551616 := by unfold wlo; omega
theorem whi_bd (x : Int) : 0 ≤ whi x ∧ whi x < 18446744073709551616 := by unfold whi; omega
theorem wlo_add (x y : Int) : (wlo x + wlo y) % 18446744073709551616 = wlo (x + y) := by unfold wlo; omega
theorem whi_add (x y : Int) : (whi x + whi y + (wlo x + wlo y) / 18446744073709551616) % 18446744073709551616 = whi (x + y) := by unfold wlo whi; omega

theorem u64_lo (n : Int) : IntKind.u64.wrap n = wlo n := by rw [IntKind.wrap_u64]; rfl
theorem u64_hi (n : Int) (hn : -9223372036854775808 ≤ n ∧ n ≤ 9223372036854775807) : IntKind.u64.wrap (n / 9223372036854775808) = whi n := by
  rw [IntKind.wrap_u64]; unfold whi; omega

set_option maxHeartbeats 400000 in
theorem widen_any (n : Int) (hn : InR n) (w : World) :
    Calls Try.prog 29 #[.int .i64 n] w fun e w' => e = .returned (.agg #[.int .u64 (wlo n), .int .u64 (whi n)]) ∧ ∃ c, w' = w.alloc (.cells c 49) := by
  unfold InR at hn
  go_enter Try.func29, Try.ntmps29
  go_wp2
  simp only [bodyPost, results, Try.results29, go_sem]
  simp [u64_lo, u64_hi n hn, go_sem]
  exact ⟨_, rfl⟩

set_option maxHeartbeats 400000 in
theorem plus_any (x y : Int) (w : World) :
    Calls Try.prog 35 #[.agg #[.int .u64 (wlo x), .int .u64 (whi x)], .agg #[.int .u64 (wlo y), .int .u64 (whi y)]] w fun e w' =>
      e = .returned (.agg #[.int .u64 (wlo (x + y)), .int .u64 (whi (x + y))]) ∧ ∃ c1 c2 c3, w' = ((w.alloc (.cells c1 49)).alloc (.cells c2 49)).alloc (.cells c3 49) := by
  have e1 := wlo_add x y
  have e2 := whi_add x y
  have a1 := wlo_bd x; have a2 := wlo_bd y; have a3 := whi_bd x; have a4 := whi_bd y
  rw [← e1, ← e2]; clear e1 e2
  generalize wlo x = al at *; generalize wlo y = bl at *; generalize whi x = ah at *; generalize whi y = bh at *
  obtain ⟨a1, b1⟩ := a1; obtain ⟨a2, b2⟩ := a2; obtain ⟨a3, b3⟩ := a3; obtain ⟨a4, b4⟩ := a4
  have k0 : 0 ≤ (al + bl) / 18446744073709551616 := by omega
  have k1 : (al + bl) / 18446744073709551616 ≤ 1 := by omega
  go_enter Try.func35, Try.ntmps35
  go_wp2_with (first | simp only [add64_0 al bl a1 a2] | simp only [add64 ah bh _ a3 a4 k0 k1])
  simp [bodyPost, results, Try.results35, go_sem]
  exact ⟨_, _, _, rfl⟩

/-- In the range of two words. -/
def InW (x : Int) : Prop := -170141183460469231731687303715884105728 ≤ x ∧ x < 170141183460469231731687303715884105728

theorem eq_words (a b c d : Int) (w : World) : (Op.equalIn 10000 49 (.agg #[.int .u64 a, .int .u64 b]) (.agg #[.int .u64 c, .int .u64 d])).run Try.prog w = .ok (a == c && b == d) w := by
  obtain ⟨i, hi⟩ := info_of_underlying Try.underlying47
  rw [show (10000 : Nat) = 9999 + 1 from rfl, run_equalIn_array w 9999 _ _ Try.underlying49 hi]
  have c1 : Try.prog.cellsOf 47 = 1 := by kernel_rfl
  simp [Op.eqItems, List.range, List.range.loop, c1, go_sem, Try.underlying47]
  by_cases h1 : a = c <;> by_cases h2 : b = d <;> simp [h1, h2]

theorem wrap_lo (x : Int) : IntKind.i64.wrap (wlo x) = wrap64 x := by rw [IntKind.wrap_i64]; unfold wlo wrap64; omega
theorem wrap64_inR (x : Int) : InR (wrap64 x) := by unfold wrap64 InR; omega
theorem wlo_wrap (x : Int) : wlo (wrap64 x) = wlo x := by unfold wlo wrap64; omega
theorem whi_wrap (x : Int) (h : InW x) (h' : ¬ InR x) : ¬ whi (wrap64 x) = whi x := by unfold whi wrap64; unfold InW at h; unfold InR at h'; omega

set_option maxHeartbeats 400000 in
theorem narrow_in (x : Int) (h : InR x) (w : World) :
    Calls Try.prog 36 #[.agg #[.int .u64 (wlo x), .int .u64 (whi x)]] w fun e w' =>
      e = .returned (.tuple #[.int .i64 x, .int .i64 0]) ∧ Below w.heap.size w w' := by
  have hc : IntKind.i64.wrap (wlo x) = x := by rw [IntKind.wrap_i64]; unfold wlo; unfold InR at h; omega
  have he : ∀ w, (Op.equalIn 10000 49 (.agg #[.int .u64 (wlo x), .int .u64 (whi x)]) (.agg #[.int .u64 (wlo x), .int .u64 (whi x)])).run Try.prog w = .ok true w := fun w => by simpa using eq_words (wlo x) (whi x) (wlo x) (whi x) w
  go_enter Try.func36, Try.ntmps36
  go_wp2
  go_region_held3 (fun w' => w'.cell? ⟨w.heap.size, 0, none⟩ = some (.int .u64 (wlo x)) ∧ w'.cell? ⟨w.heap.size, 1, none⟩ = some (.int .u64 (whi x))) (simp [go_sem, World.cell?_alloc_past])
    (first
      | (go_at_call 29; refine (widen_any x h _).mono ?_; rintro e w' ⟨rfl, o1, rfl⟩))
  go_wp2
  go_ret2
  exact ⟨rfl, ((Below.refl _ _).alloc (Nat.le_refl _) _).alloc (by simp) _ |>.drew⟩

set_option maxHeartbeats 400000 in
theorem narrow_out (x : Int) (h : InW x) (h' : ¬ InR x) (w : World) :
    Calls Try.prog 36 #[.agg #[.int .u64 (wlo x), .int .u64 (whi x)]] w fun e w' =>
      e = .returned (.tuple #[.int .i64 0, .int .i64 10]) ∧ Below w.heap.size w w' := by
  have hc := wrap_lo x
  have he : ∀ w, (Op.equalIn 10000 49 (.agg #[.int .u64 (wlo x), .int .u64 (whi (wrap64 x))]) (.agg #[.int .u64 (wlo x), .int .u64 (whi x)])).run Try.prog w = .ok false w := fun w => by
    rw [eq_words]; simp [whi_wrap x h h']
  have hw := widen_any (wrap64 x) (wrap64_inR x)
  rw [wlo_wrap] at hw
  clear h h'
  go_enter Try.func36, Try.ntmps36
  go_wp2
  go_region_held3 (fun w' => w'.cell? ⟨w.heap.size, 0, none⟩ = some (.int .u64 (wlo x)) ∧ w'.cell? ⟨w.heap.size, 1, none⟩ = some (.int .u64 (whi x))) (simp [go_sem, World.cell?_alloc_past])
    (first
      | (go_at_call 29; refine (hw _).mono ?_; rintro e w' ⟨rfl, o1, rfl⟩))
  go_wp2
  go_ret2
  exact ⟨rfl, ((Below.refl _ _).alloc (Nat.le_refl _) _).alloc (by simp) _ |>.drew⟩

theorem narrow_any (x : Int) (h : InW x) (w : World) :
    Calls Try.prog 36 #[.agg #[.int .u64 (wlo x), .int .u64 (whi x)]] w fun e w' =>
      e = .returned (.tuple #[.int .i64 (tv x), .int .i64 (te x)]) ∧ Below w.heap.size w w' := by
  by_cases h' : InR x
  · rw [tv_in h', te_in h']; exact narrow_in x h' w
  · rw [tv_out h', te_out h']; exact narrow_out x h h' w

end Go.Proofs.Ytbmjnajajimmmaa
