/-
  The landed graph's Has, Reads. The conditions: the graph's blocks.
-/
import Derived.Test.YtbaeanpdjdcheaaGreatGrA
namespace Go.Proofs.YtbaeanpdjdcheaaGreat
open Go.RowKit MapSets
set_option linter.unusedSimpArgs false
set_option linter.unusedVariables false

set_option maxHeartbeats 1000000 in
theorem has_g {w : World} {B A S n : Nat} {V : Nat → Value} {M : Nat → Option Nat} {R : List (List Int)} {q : Nat → Int → Bool} {E : Int} (h : GrP w B A S n V M R q E) (v x : Int) (hv : InR v) :
    Calls Tryz.prog 16 #[.pointer (some ⟨B, 0, none⟩), .int .i64 v, .int .i64 x] w fun e w' => e = .returned (.bool (decide (gnd n x) && q x.toNat v)) ∧ Below w.heap.size w w' := by
  have hi := isnode_g h.b0 x
  by_cases hx : gnd n x
  · rw [decide_eq_true hx] at hi ⊢
    obtain ⟨k, rfl⟩ := Int.eq_ofNat_of_zero_le hx.1
    have hk : k < n := by have := hx.2; omega
    rw [Bool.true_and, Int.toNat_natCast]
    have i0 : (0 : Int) ≤ (k : Int) := by omega
    have i1 : (k : Int) < (n : Int) := by omega
    have b1 := h.b1
    have s := h.hS.s k hk
    have hlk : (Instr.lookup 69 (.map (M k)) (.int .i64 v) true).run Tryz.prog w = .ok (.tuple #[.agg #[], .bool (q k v)]) w := by
      cases hM : M k with
      | none => rw [h.hS.no k hk hM v]; exact run_look_nil gkit hv
      | some b => exact run_look gkit (h.hS.yes k b hk hM) hv
    generalize q k v = r at *
    generalize M k = m at *
    clear h hx hk
    go_enter Tryz.func16, Tryz.ntmps16
    go_wp2_with fail
    refine hi.mono ?_; rintro e w1 ⟨rfl, rfl⟩
    go_wp2_with fail
    go_ret
    exact ⟨rfl, below1 _ _⟩
  · rw [decide_eq_false hx] at hi ⊢
    clear h hx
    go_enter Tryz.func16, Tryz.ntmps16
    go_wp2_with fail
    refine hi.mono ?_; rintro e w1 ⟨rfl, rfl⟩
    go_wp2_with fail
    go_ret
    exact ⟨rfl, Below.refl _ _⟩

theorem in_ints (d : Nat) (a : Option Addr) (n c : Nat) (w : World) : (Op.equalIn (d + 1) 23 (.slice a n c) (.slice none 0 0)).run Tryz.prog w = .ok (a.isNone) w := by
  cases a <;> simp [Op.equalIn, run_underlying Tryz.underlying23]
theorem eql_ints (a : Option Addr) (n c : Nat) (w : World) : (binOp .eql 23 (.slice a n c) (.slice none 0 0)).run Tryz.prog w = .ok (.bool a.isNone) w := by
  simp only [binOp]
  simp [Op.equal, Op.maxDepth, in_ints 9999 a n c]
set_option maxHeartbeats 1000000 in
theorem clone_i {w : World} {v : Value} {L : List Int} (h : Sl w v L) (hL : L.length ≤ 1000000) :
    Calls Tryz.prog 34 #[v] w fun e w' => ∃ u, e = .returned u ∧ Own w' w.heap.size u L ∧ Below w.heap.size w w' := by
  obtain ⟨a, c, rfl, hl, hc, hr⟩ := h
  have he := eql_ints
  cases a with
  | none =>
    have h0 : L = [] := by
      rcases L with _ | ⟨x, L⟩
      · rfl
      · obtain ⟨_, _, e, _⟩ := hr.2 0 (by simp)
        cases e
    subst h0
    clear hl hc hr
    go_enter Tryz.func34, Tryz.ntmps34
    go_wp2_with fail
    go_ret
    exact ⟨_, rfl, Own.nil _ _, Below.refl _ _⟩
  | some ad =>
    have HR := Lib.hid hr
    clear hr hl
    go_enter Tryz.func34, Tryz.ntmps34
    go_wp2_with
      (at_builtin
       refine wp_cat _ rfl (.tmp 5) (.tmp 6) rfl w.heap.size _ [] L (some ad) c rfl (Own.lit w) rfl (HR.out.below (below1 _ _)) hc (by simp; omega) (by simp) ?_
       intro v1 w1 o1 b1)
    go_ret
    exact ⟨_, rfl, by simpa using o1, (below1 w _).trans (b1.mono (Nat.le_refl _))⟩
theorem own_low {w : World} {a b : Nat} {v : Value} {L : List Int} (h : Own w a v L) (hb : b ≤ a) : Own w b v L := by
  refine ⟨h.1, ?_⟩
  rcases h.2 with q | ⟨g, cap, cur, h1, h2, h3⟩
  · exact Or.inl q
  · exact Or.inr ⟨g, cap, cur, h1, Nat.le_trans hb h2, h3⟩
set_option maxHeartbeats 1000000 in
theorem reads_g {w : World} {B : Nat} {R : List (List Int)} {F : Nat → Prop} (hG : GrR w B R F) (v : Int) :
    Calls Tryz.prog 47 #[.pointer (some ⟨B, 0, none⟩), .int .i64 v] w fun e w' => ∃ u, e = .returned u ∧ Own w' w.heap.size u (greads R v) ∧ Below w.heap.size w w' := by
  obtain ⟨hI, A, S, V, M, h, _⟩ := hG
  have hi := isnode_g h.b0 v
  unfold greads
  by_cases hx : gnd R.length v
  · rw [decide_eq_true hx] at hi
    rw [if_pos hx]
    obtain ⟨k, rfl⟩ := Int.eq_ofNat_of_zero_le hx.1
    have hk : k < R.length := by have := hx.2; omega
    rw [Int.toNat_natCast]
    have i0 : (0 : Int) ≤ (k : Int) := by omega
    have i1 : (k : Int) < (R.length : Int) := by omega
    have b0 := h.b0
    have s := h.hA.a k hk
    have hcl := clone_i (h.hA.r k hk) (by have := hI.len k; have := hI.hi; omega)
    generalize V k = m at *
    generalize gR R k = L at *
    generalize R.length = n at *
    clear h hx hk hI
    go_enter Tryz.func47, Tryz.ntmps47
    go_wp2_with fail
    refine hi.mono ?_; rintro e w1 ⟨rfl, rfl⟩
    go_wp2_with fail
    refine hcl.mono ?_; rintro e w2 ⟨u, rfl, ho, hb⟩
    go_wp2_with fail
    go_ret
    exact ⟨u, rfl, ho, hb⟩
  · rw [decide_eq_false hx] at hi
    rw [if_neg hx]
    clear h hx hI
    go_enter Tryz.func47, Tryz.ntmps47
    go_wp2_with fail
    refine hi.mono ?_; rintro e w1 ⟨rfl, rfl⟩
    go_wp2_with fail
    go_ret
    exact ⟨_, rfl, Own.nil _ _, Below.refl _ _⟩
end Go.Proofs.YtbaeanpdjdcheaaGreat
