/-
  Decimals in plain words, without any Go function: a number comes back of its text; a text that is read is that of its number; more decimals and back; fewer ones. No conditions.
-/
import Derived.Test.YtmmjkbjceocpmaaDoorDecM
import Derived.Test.YtmmjkbjceocpmaaDoorScaN
import Derived.Test.YtmmjkbjceocpmaaDoorRatM
namespace Go.Proofs.YtmmjkbjceocpmaaDoor
open Go.RowKit
set_option linter.unusedSimpArgs false
set_option linter.unusedVariables false

theorem dval_noughts (n : Nat) : dval (List.replicate n 0) = 0 := by
  induction n with
  | zero => rfl
  | succ n ih => simp [List.replicate_succ, dval, ih]
theorem dval_padd (l : List Int) (d : Nat) : dval (padd l d) = dval l := by
  unfold padd; rw [dval_append, dval_noughts]; simp
theorem pdig_point (v : Int) : pdig v 46 = v := by unfold pdig; rw [if_neg (by decide)]
theorem pdig_minus (v : Int) : pdig v 45 = v := by unfold pdig; rw [if_neg (by decide)]
theorem byte_dig {c : Int} (h : 0 ≤ c ∧ c ≤ 9) : (UInt8.ofNat (48 + c.toNat)).toNat = 48 + c.toNat := by
  rw [UInt8.toNat_ofNat']; omega
theorem pdig_dig (v : Int) {c : Int} (h : 0 ≤ c ∧ c ≤ 9) : pdig v (UInt8.ofNat (48 + c.toNat)) = v * 10 + c := by
  unfold pdig
  rw [byte_dig h, if_pos (by omega)]
  omega
theorem fold_dtxt (l : List Int) (hl : Digs l) (d : Nat) : ∀ (k : Nat) (v : Int), (dtxt l d k).foldl pdig v = v * 10 ^ k + dval (l.take k)
  | 0, v => by simp [dtxt, dval]
  | k + 1, v => by
    have hd := getD_in l hl k
    have e : ∀ u : Int, (if k = d ∧ 0 < d then 46 :: dtxt l d k else dtxt l d k).foldl pdig u = (dtxt l d k).foldl pdig u := by
      intro u; split
      · rw [List.foldl_cons, pdig_point]
      · rfl
    rw [dtxt_step, List.foldl_cons, e, pdig_dig v hd, fold_dtxt l hl d k, dval_take, Int.pow_succ, Int.add_mul, Int.mul_assoc, Int.mul_comm 10, Int.mul_comm (l.getD k 0)]
    omega
theorem padd_ok (x : Int) (d : Nat) : Digs (padd (digs x.natAbs) d) := padd_digs (digs_ok _) _
theorem padd_pos (l : List Int) (d : Nat) : 0 < (padd l d).length := by unfold padd; rw [List.length_append, List.length_replicate]; omega
theorem pval_dtxt (x : Int) (d : Nat) : pval (dtxt (padd (digs x.natAbs) d) d (padd (digs x.natAbs) d).length) = x.natAbs := by
  unfold pval
  rw [fold_dtxt _ (padd_ok x d), List.take_length, dval_padd, dval_digs]
  omega
theorem dtxt_head (l : List Int) (hl : Digs l) (d k : Nat) (hk : 0 < k) : (dtxt l d k).head? ≠ some 45 := by
  obtain ⟨j, rfl⟩ : ∃ j, k = j + 1 := ⟨k - 1, by omega⟩
  have hd := getD_in l hl j
  rw [dtxt_step]
  simp only [List.head?_cons, ne_eq, Option.some.injEq]
  intro h
  have := congrArg UInt8.toNat h
  rw [byte_dig hd] at this
  simp at this
  omega
/-- A number comes back of its text. -/
theorem sval_dtext (x : Int) (d : Nat) : sval (dtext x d) = x := by
  unfold sval dtext
  by_cases h : x < 0
  · rw [if_pos h]
    have e : pval (45 :: dtxt (padd (digs x.natAbs) d) d (padd (digs x.natAbs) d).length) = pval (dtxt (padd (digs x.natAbs) d) d (padd (digs x.natAbs) d).length) := by
      unfold pval; rw [List.foldl_cons, pdig_minus]
    rw [if_pos (by simp), e, pval_dtxt]
    omega
  · rw [if_neg h, if_neg (dtxt_head _ (padd_ok x d) _ _ (padd_pos _ _)), pval_dtxt]
    omega
theorem parse_back {x d : Int} (hx : InR x) (hd : OkD d) : parsev (dtext x d.toNat) d = x ∧ parsee (dtext x d.toNat) d = 0 := by
  unfold parsev parsee
  rw [if_pos hd, if_pos hd, sval_dtext, if_pos rfl, if_pos rfl]
  exact ⟨tv_in hx, te_in hx⟩
theorem parse_no {l : List UInt8} {d : Int} (h : parsee l d ≠ 0) : parsev l d = 0 := by
  unfold parsee at h
  unfold parsev
  by_cases hd : OkD d
  · rw [if_pos hd] at h ⊢
    by_cases e : dtext (sval l) d.toNat = l
    · rw [if_pos e] at h ⊢
      by_cases hx : InR (sval l)
      · exact absurd (te_in hx) h
      · exact tv_out hx
    · rw [if_neg e]
  · rw [if_neg hd]
theorem parse_ok {l : List UInt8} {d : Int} (h : parsee l d = 0) : OkD d ∧ InR (parsev l d) ∧ dtext (parsev l d) d.toNat = l := by
  unfold parsee at h
  unfold parsev
  by_cases hd : OkD d
  · rw [if_pos hd] at h ⊢
    by_cases e : dtext (sval l) d.toNat = l
    · rw [if_pos e] at h ⊢
      by_cases hx : InR (sval l)
      · rw [tv_in hx]; exact ⟨hd, hx, e⟩
      · rw [te_out hx] at h; cases h
    · rw [if_neg e] at h; cases h
  · rw [if_neg hd] at h; cases h

/-- A number of least units in more decimals, and back; in fewer ones. -/
theorem ten_split {a b : Int} (h0 : 0 ≤ a) (h : a ≤ b) : ten b = ten (b - a) * ten a := by
  unfold ten
  rw [← Int.pow_add]
  congr 1
  omega
theorem ten_pos (n : Int) : 1 ≤ ten n := by unfold ten; have := pow_pos10 n.toNat; omega
theorem near_exact (y d : Int) (hd : 1 ≤ d) : nearv (y * d) d = y := by
  unfold nearv
  rw [Int.mul_emod_left, if_neg (by omega), Int.mul_ediv_cancel _ (by omega)]
theorem fine_up {x a b : Int} (h0 : 0 ≤ a) (h : a ≤ b) : nearv (x * ten b) (ten a) = x * ten (b - a) := by
  rw [ten_split h0 h, ← Int.mul_assoc]; exact near_exact _ _ (ten_pos a)
theorem fine_back {x a b : Int} (h0 : 0 ≤ a) (h : a ≤ b) : nearv (x * ten (b - a) * ten a) (ten b) = x := by
  rw [Int.mul_assoc, ← ten_split h0 h]; exact near_exact _ _ (ten_pos b)
theorem fine_down {x a b : Int} (h0 : 0 ≤ a) (h : a ≤ b) : nearv (x * ten a) (ten b) = nearv x (ten (b - a)) := by
  rw [ten_split h0 h]; exact near_scale (by have := ten_pos a; omega)
/-- What is cut off is no more than a half. -/
theorem fine_off (x d : Int) (hd : 1 ≤ d) : cmpv (2 * ((x - nearv x d * d).natAbs : Int)) d ≤ 0 := by
  have h := near_is x d hd
  obtain ⟨h1, h2, _⟩ := h
  unfold cmpv
  split
  · omega
  · split
    · omega
    · omega
theorem down_in {x d : Int} (hx : InR x) (hd : 1 ≤ d) : InR (nearv x d) := by
  have h := near_is x d hd
  obtain ⟨h1, h2, _⟩ := h
  unfold InR at hx ⊢
  rcases Int.lt_or_le d 2 with q | q
  · have : d = 1 := by omega
    subst this; omega
  · generalize nearv x d = v at *
    constructor
    · rcases Int.lt_or_le v (-9223372036854775808) with p | p
      · exfalso
        have : v * d ≤ -9223372036854775809 * d := Int.mul_le_mul_of_nonneg_right (by omega) (by omega)
        omega
      · exact p
    · rcases Int.lt_or_le 9223372036854775807 v with p | p
      · exfalso
        have : 9223372036854775808 * d ≤ v * d := Int.mul_le_mul_of_nonneg_right (by omega) (by omega)
        omega
      · exact p
/-- What Rescale tells. -/
def rsv (x d g : Int) : Int := if OkD d ∧ OkD g then tv (nearv (x * ten g) (ten d)) else 0
def rse (x d g : Int) : Int := if OkD d ∧ OkD g then te (nearv (x * ten g) (ten d)) else 2
theorem rs_ok {x d g : Int} (hd : OkD d) (hg : OkD g) : rsv x d g = tv (nearv (x * ten g) (ten d)) ∧ rse x d g = te (nearv (x * ten g) (ten d)) := ⟨if_pos ⟨hd, hg⟩, if_pos ⟨hd, hg⟩⟩
end Go.Proofs.YtmmjkbjceocpmaaDoor
