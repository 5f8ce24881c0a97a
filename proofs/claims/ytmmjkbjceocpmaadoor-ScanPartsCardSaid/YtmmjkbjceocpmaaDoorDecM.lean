/-
  Decimals in plain words, without any Go function: the text of a whole number with so many decimals; powers of 10. No conditions.
-/
import Derived.Test.YtmmjkbjceocpmaaDoorDig
import Derived.Test.YtmmjkbjceocpmaaDoorMath
namespace Go.Proofs.YtmmjkbjceocpmaaDoor
open Go.RowKit
set_option linter.unusedSimpArgs false
set_option linter.unusedVariables false

/-- How many decimals may be. -/
def OkD (d : Int) : Prop := 0 ≤ d ∧ d ≤ 6
instance instDecOkD (d : Int) : Decidable (OkD d) := by unfold OkD; infer_instance
/-- Noughts ahead, so that there is one digit more than decimals. -/
def padd (l : List Int) (d : Nat) : List Int := l ++ List.replicate (d + 1 - l.length) 0
/-- The text of the lowest digits, a point behind so many. -/
def dtxt (l : List Int) (d : Nat) : Nat → List UInt8
  | 0 => []
  | k + 1 => UInt8.ofNat (48 + (l.getD k 0).toNat) :: (if k = d ∧ 0 < d then 46 :: dtxt l d k else dtxt l d k)
/-- A string of bytes. -/
def bs (l : List UInt8) : ByteArray := ⟨l.toArray⟩
/-- The text of a whole number. -/
def dtext (x : Int) (d : Nat) : List UInt8 :=
  let l := padd (digs x.natAbs) d
  if x < 0 then 45 :: dtxt l d l.length else dtxt l d l.length
theorem bs_app (a b : List UInt8) : bs a ++ bs b = bs (a ++ b) := by
  apply ByteArray.ext
  simp [bs, ByteArray.data_append]
/-- 10 to the n. -/
def ten (n : Int) : Int := (10 : Int) ^ n.toNat
theorem ten_cases {n : Int} (h : OkD n) : (n = 0 ∧ ten n = 1) ∨ (n = 1 ∧ ten n = 10) ∨ (n = 2 ∧ ten n = 100) ∨ (n = 3 ∧ ten n = 1000) ∨ (n = 4 ∧ ten n = 10000) ∨ (n = 5 ∧ ten n = 100000) ∨ (n = 6 ∧ ten n = 1000000) := by
  unfold OkD at h
  have : n = 0 ∨ n = 1 ∨ n = 2 ∨ n = 3 ∨ n = 4 ∨ n = 5 ∨ n = 6 := by omega
  rcases this with rfl | rfl | rfl | rfl | rfl | rfl | rfl <;> simp [ten]
theorem ten_inR {n : Int} (h : OkD n) : InR (ten n) ∧ 1 ≤ ten n := by
  rcases ten_cases h with ⟨rfl, e⟩ | ⟨rfl, e⟩ | ⟨rfl, e⟩ | ⟨rfl, e⟩ | ⟨rfl, e⟩ | ⟨rfl, e⟩ | ⟨rfl, e⟩ <;> rw [e] <;> unfold InR <;> omega
/-- The error of a number of decimals. -/
def dc (d : Int) : Int := if OkD d then 0 else 2
theorem dc_ok {d : Int} (h : OkD d) : dc d = 0 := if_pos h
theorem dc_no {d : Int} (h : ¬ OkD d) : dc d = 2 := if_neg h
/-- What Print tells. -/
def printv (x d : Int) : ByteArray := if OkD d then bs (dtext x d.toNat) else bs []
theorem padd_app (l : List Int) (j d : Nat) (h : l.length + j = d + 1 ∨ (j = 0 ∧ d < l.length)) : l ++ List.replicate j 0 = padd l d := by
  unfold padd
  rcases h with h | ⟨rfl, h⟩
  · rw [show d + 1 - l.length = j by omega]
  · rw [show d + 1 - l.length = 0 by omega]
theorem padd_digs {l : List Int} (h : Digs l) (j : Nat) : Digs (l ++ List.replicate j 0) := by
  intro z hz
  rcases List.mem_append.mp hz with hz | hz
  · exact h z hz
  · rw [(List.mem_replicate.mp hz).2]; omega
theorem digs_in {l : List Int} (h : Digs l) : ∀ z ∈ l, InR z := fun z hz => by have := h z hz; unfold InR; omega
theorem dtxt_step (l : List Int) (d k : Nat) : dtxt l d (k + 1) = UInt8.ofNat (48 + (l.getD k 0).toNat) :: (if k = d ∧ 0 < d then 46 :: dtxt l d k else dtxt l d k) := rfl
theorem dtxt_len (l : List Int) (d : Nat) : ∀ k, (dtxt l d k).length ≤ 2 * k
  | 0 => by simp [dtxt]
  | k + 1 => by
    have := dtxt_len l d k
    rw [dtxt_step]
    split <;> simp <;> omega
theorem bs_size (l : List UInt8) : (bs l).size = l.length := by simp [bs, ByteArray.size]
theorem bs_cons (b : UInt8) (l : List UInt8) : ByteArray.mk #[b] ++ bs l = bs (b :: l) := bs_app [b] l
/-- One byte more of a text's digits. -/
def pdig (v : Int) (b : UInt8) : Int := if 48 ≤ b.toNat ∧ b.toNat ≤ 57 then v * 10 + ((b.toNat : Int) - 48) else v
/-- The digits of a text, as one number. -/
def pval (l : List UInt8) : Int := l.foldl pdig 0
theorem pval_take {l : List UInt8} {k : Nat} (h : k < l.length) : pval (l.take (k + 1)) = pdig (pval (l.take k)) (l.getD k 0) := by
  unfold pval
  rw [List.take_succ_eq_append_getElem h, List.foldl_append]
  simp [List.getD, h]
theorem pdig_bd {v : Int} {b : UInt8} {k : Nat} (h0 : 0 ≤ v) (h : v < 10 ^ k) : 0 ≤ pdig v b ∧ pdig v b < 10 ^ (k + 1) := by
  unfold pdig
  have := b.toNat_lt
  rw [Int.pow_succ]
  split <;> omega
theorem pval_bd (l : List UInt8) : ∀ k, k ≤ l.length → 0 ≤ pval (l.take k) ∧ pval (l.take k) < 10 ^ k
  | 0, _ => by simp [pval]
  | k + 1, h => by
    rw [pval_take (by omega)]
    have := pval_bd l k (by omega)
    exact pdig_bd this.1 this.2
theorem pval_len (l : List UInt8) (k : Nat) (h : k ≤ l.length) : (digs (pval (l.take k)).natAbs).length ≤ k := by
  have := pval_bd l k h
  refine digs_len _ _ ?_
  have e : (((10 : Nat) ^ k : Nat) : Int) = (10 : Int) ^ k := by rw [Int.natCast_pow]; rfl
  omega
/-- The whole number that a text may be of. -/
def sval (l : List UInt8) : Int := if l.head? = some 45 then - pval l else pval l
/-- What Parse tells. -/
def parsev (l : List UInt8) (d : Int) : Int := if OkD d then (if dtext (sval l) d.toNat = l then tv (sval l) else 0) else 0
def parsee (l : List UInt8) (d : Int) : Int := if OkD d then (if dtext (sval l) d.toNat = l then te (sval l) else 5) else 2
theorem bs_data (s : ByteArray) : bs s.data.toList = s := by cases s; rfl
theorem data_len (s : ByteArray) : s.data.toList.length = s.size := by cases s; rfl
end Go.Proofs.YtmmjkbjceocpmaaDoor
