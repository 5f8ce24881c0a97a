/-
  What num's opposite, and the closures of Sum and Net, answer. No conditions besides.
-/
import Derived.Test.YtbmjnajajimmmaaNumB
import Derived.Below
import Derived.Laws.Bits64
namespace Go.Proofs.Ytbmjnajajimmmaa
open Go.RowKit

theorem xor_max (b : Nat) (h : b < 18446744073709551616) : 18446744073709551615 ^^^ b = 18446744073709551615 - b := by
  have := congrArg BitVec.toNat (BitVec.allOnes_xor (x := BitVec.ofNat 64 b))
  simpa [BitVec.toNat_xor, BitVec.toNat_not, Nat.mod_eq_of_lt h] using this
theorem xor_word (a : Int) (h0 : 0 ≤ a) (h : a < 18446744073709551616) : bits BinOp.xor IntKind.u64 IntKind.u64.max a = 18446744073709551615 - a := by
  obtain ⟨n, rfl⟩ := Int.eq_ofNat_of_zero_le h0
  have := bits_xor_u64_nat 18446744073709551615 n (by omega) (by omega)
  rw [xor_max n (by omega)] at this
  refine Eq.trans ?_ (this.trans ?_)
  · rfl
  · omega
theorem xor_lo (x : Int) : bits BinOp.xor IntKind.u64 IntKind.u64.max (wlo x) = wlo (-x - 1) := by
  rw [xor_word _ (wlo_bd x).1 (wlo_bd x).2]; unfold wlo; omega
theorem xor_hi (x : Int) : bits BinOp.xor IntKind.u64 IntKind.u64.max (whi x) = whi (-x - 1) := by
  rw [xor_word _ (whi_bd x).1 (whi_bd x).2]; unfold whi; omega

theorem bcell {W w1 : World} (hb : Below W.heap.size W w1) : (∀ b o, b < W.heap.size → w1.cell? ⟨b, o, none⟩ = W.cell? ⟨b, o, none⟩) ∧ (∀ b o, b < W.heap.size → w1.frozen? ⟨b, o, none⟩ = W.frozen? ⟨b, o, none⟩) :=
  ⟨fun b o h => hb.cell (p := ⟨b, o, none⟩) h, fun b o h => hb.frozen (p := ⟨b, o, none⟩) h⟩

theorem below2 (w : World) (a b : Obj) : Below w.heap.size w ((w.alloc a).alloc b) :=
  ((Below.refl _ _).alloc (Nat.le_refl _) _).alloc (by simp) _
theorem below5 (w : World) (a b c d e : Obj) : Below w.heap.size w (((((w.alloc a).alloc b).alloc c).alloc d).alloc e) :=
  (((below2 w a b).alloc (by simp; omega) _).alloc (by simp; omega) _).alloc (by simp; omega) _

/-- plus, as opposite calls it. -/
theorem plus_opp (x : Int) (w : World) :
    Calls Try.prog 35 #[.agg #[.int .u64 (wlo (-x - 1)), .int .u64 (whi (-x - 1))], .agg #[.int .u64 1, .int .u64 0]] w fun e w' =>
      e = .returned (.agg #[.int .u64 (wlo (-x)), .int .u64 (whi (-x))]) ∧ ∃ c1 c2 c3, w' = ((w.alloc (.cells c1 49)).alloc (.cells c2 49)).alloc (.cells c3 49) := by
  have h := plus_any (-x - 1) 1 w
  have h1 : wlo 1 = 1 := by unfold wlo; omega
  have h2 : whi 1 = 0 := by unfold whi; omega
  rw [h1, h2, show -x - 1 + 1 = -x by omega] at h
  exact h

set_option maxHeartbeats 400000 in
theorem opposite_any (x : Int) (w : World) :
    Calls Try.prog 32 #[.agg #[.int .u64 (wlo x), .int .u64 (whi x)]] w fun e w' =>
      e = .returned (.agg #[.int .u64 (wlo (-x)), .int .u64 (whi (-x))]) ∧ Below w.heap.size w w' := by
  go_enter Try.func32, Try.ntmps32
  go_wp2_with fail
  rw [xor_lo, xor_hi]
  refine (plus_opp x _).mono ?_
  rintro e w' ⟨rfl, o1, o2, o3, rfl⟩
  go_wp2
  simp [bodyPost, results, Try.results32, go_sem]
  exact below5 _ _ _ _ _ _

set_option maxHeartbeats 400000 in
theorem sum1_any (B b off len cap i : Nat) (z : Int) (hz : InR z) (w : World) (hB : w.cell? ⟨B, 0, none⟩ = some (.slice (some ⟨b, off, none⟩) len cap))
    (hi : i < len) (hc : w.cell? ⟨b, off + i, none⟩ = some (.int .i64 z)) :
    Calls Try.prog 28 #[.int .i64 i, .pointer (some ⟨B, 0, none⟩)] w fun e w' =>
      e = .returned (.agg #[.int .u64 (wlo z), .int .u64 (whi z)]) ∧ Below w.heap.size w w' := by
  have lB : B < w.heap.size := World.block_lt_of_cell? w _ hB
  have lb : b < w.heap.size := World.block_lt_of_cell? w _ hc
  go_enter Try.func28, Try.ntmps28
  go_wp2_with (go_at_call 29; refine (widen_any z hz _).mono ?_; rintro e w' ⟨rfl, o1, rfl⟩)
  simp [bodyPost, results, Try.results28, go_sem]
  exact below2 _ _ _

set_option maxHeartbeats 400000 in
theorem net1_plus (B B' b off len cap i : Nat) (z : Int) (hz : InR z) (w : World) (hB : w.cell? ⟨B, 0, none⟩ = some (.slice (some ⟨b, off, none⟩) len cap))
    (hi : i < len) (hm : len ≤ maxLen) (hc : w.cell? ⟨b, off + i, none⟩ = some (.int .i64 z)) :
    Calls Try.prog 31 #[.int .i64 i, .pointer (some ⟨B, 0, none⟩), .pointer (some ⟨B', 0, none⟩)] w fun e w' =>
      e = .returned (.agg #[.int .u64 (wlo z), .int .u64 (whi z)]) ∧ Below w.heap.size w w' := by
  have lB : B < w.heap.size := World.block_lt_of_cell? w _ hB
  have lb : b < w.heap.size := World.block_lt_of_cell? w _ hc
  unfold maxLen at hm
  go_enter Try.func31, Try.ntmps31
  go_wp2_with (go_at_call 29; refine (widen_any z hz _).mono ?_; rintro e w' ⟨rfl, o1, rfl⟩)
  simp [bodyPost, results, Try.results31, go_sem]
  exact below2 _ _ _

set_option maxHeartbeats 400000 in
theorem net1_minus (B B' b off len cap i len0 cap0 : Nat) (a0 : Option Addr) (z : Int) (hz : InR z) (w : World) (hA : w.cell? ⟨B, 0, none⟩ = some (.slice a0 len0 cap0))
    (hB : w.cell? ⟨B', 0, none⟩ = some (.slice (some ⟨b, off, none⟩) len cap))
    (hi : i < len) (hm : len ≤ maxLen) (hm0 : len0 ≤ maxLen) (hc : w.cell? ⟨b, off + i, none⟩ = some (.int .i64 z)) :
    Calls Try.prog 31 #[.int .i64 ((len0 : Int) + (i : Int)), .pointer (some ⟨B, 0, none⟩), .pointer (some ⟨B', 0, none⟩)] w fun e w' =>
      e = .returned (.agg #[.int .u64 (wlo (-z)), .int .u64 (whi (-z))]) ∧ Below w.heap.size w w' := by
  have lA : B < w.heap.size := World.block_lt_of_cell? w _ hA
  have lB : B' < w.heap.size := World.block_lt_of_cell? w _ hB
  have lb : b < w.heap.size := World.block_lt_of_cell? w _ hc
  unfold maxLen at hm hm0
  have hge : ¬ (len0 : Int) + (i : Int) < (len0 : Int) := by omega
  have hs : (len0 : Int) + (i : Int) - (len0 : Int) = (i : Int) := by omega
  go_enter Try.func31, Try.ntmps31
  go_wp2_with (first
    | (go_at_call 29; refine (widen_any z hz _).mono ?_; rintro e w' ⟨rfl, o1, rfl⟩)
    | (go_at_call 32; refine (opposite_any z _).mono ?_; rintro e w' ⟨rfl, hb⟩; obtain ⟨bc, bf⟩ := bcell hb))
  have hsz := hb.size
  simp at hsz
  have c0 : w'.cell? ⟨w.heap.size, 0, none⟩ = some (.int .u64 0) := by rw [bc _ _ (by simp; omega)]; simp [go_sem]
  have c1 : w'.cell? ⟨w.heap.size, 1, none⟩ = some (.int .u64 0) := by rw [bc _ _ (by simp; omega)]; simp [go_sem]
  clear bc bf
  refine bodyPost_ret (v := .agg #[.int .u64 (wlo (-z)), .int .u64 (whi (-z))]) (by simp [results, Try.results31, go_sem, c0, c1]) rfl ⟨rfl, ?_⟩
  exact (((below2 _ _ _).trans (hb.mono (by simp; omega))).setCell (Nat.le_refl _) _).setCell (Nat.le_refl _) _

/-- The sum of the first ones. -/
def psum (f : Nat → Int) : Nat → Int
  | 0 => 0
  | k + 1 => psum f k + f k
/-- No farther from 0 than a number, or its opposite. -/
def InS (x : Int) : Prop := -9223372036854775808 ≤ x ∧ x ≤ 9223372036854775808
theorem inS_of {x : Int} (h : InR x) : InS x := by unfold InR at h; unfold InS; omega
theorem inS_neg {x : Int} (h : InR x) : InS (-x) := by unfold InR at h; unfold InS; omega
theorem psum_bd (f : Nat → Int) (n : Nat) (hf : ∀ i, i < n → InS (f i)) : ∀ k, k ≤ n → -9223372036854775808 * (k : Int) ≤ psum f k ∧ psum f k ≤ 9223372036854775808 * (k : Int)
  | 0, _ => by simp [psum]
  | k + 1, h => by
    have h1 := psum_bd f n hf k (by omega)
    have h2 := hf k (by omega)
    unfold InS at h2
    unfold psum
    omega
theorem psum_inW (f : Nat → Int) (n : Nat) (hf : ∀ i, i < n → InS (f i)) (hn : n ≤ 18446744073709551615) : InW (psum f n) := by
  have := psum_bd f n hf n (Nat.le_refl _)
  unfold InW; omega

end Go.Proofs.Ytbmjnajajimmmaa
