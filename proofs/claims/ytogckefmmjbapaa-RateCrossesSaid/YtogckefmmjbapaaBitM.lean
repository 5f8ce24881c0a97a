/-
  Rising rows of numbers in plain words, without any Go function: one number more, what was put in, what both have. No conditions.
-/
import Derived.Test.YtogckefmmjbapaaRow
namespace Go.Proofs.Ytogckefmmjbapaa
open Go.RowKit
set_option linter.unusedSimpArgs false
set_option linter.unusedVariables false

/-- A row with one number more, unless it is there. -/
def wth : List Int → Int → List Int
  | [], n => [n]
  | x :: l, n => if x < n then x :: wth l n else if x = n then x :: l else n :: x :: l
theorem wth_at (n : Int) : ∀ (L : List Int) (k : Nat), k ≤ L.length → (∀ s ∈ L.take k, s < n) → (k < L.length → ¬ L.getD k 0 < n) →
    wth L n = if k < L.length ∧ L.getD k 0 = n then L else L.take k ++ n :: L.drop k
  | [], k, hk, _, _ => by
    have : k = 0 := by simp at hk; exact hk
    subst this; rfl
  | x :: l, 0, _, _, h => by
    have h0 := h (by simp)
    simp at h0
    unfold wth
    rw [if_neg (by omega)]
    by_cases e : x = n
    · rw [if_pos e, if_pos ⟨by simp, by simpa using e⟩]
    · rw [if_neg e, if_neg (fun q => e (by simpa using q.2))]; rfl
  | x :: l, k + 1, hk, ht, h => by
    have hx : x < n := ht x (by simp)
    unfold wth
    rw [if_pos hx, wth_at n l k (by simpa using hk) (fun s hs => ht s (by simp [hs])) (fun q => by simpa using h (by simp; exact q))]
    have e : (k < l.length ∧ l.getD k 0 = n) ↔ (k + 1 < (x :: l).length ∧ (x :: l).getD (k + 1) 0 = n) := by simp
    by_cases q : k < l.length ∧ l.getD k 0 = n
    · rw [if_pos q, if_pos (e.mp q)]
    · rw [if_neg q, if_neg (fun r => q (e.mpr r))]; rfl
theorem wth_in (n : Int) (hn : InR n) : ∀ L : List Int, (∀ z ∈ L, InR z) → ∀ z ∈ wth L n, InR z
  | [], _, z, hz => by simp [wth] at hz; rw [hz]; exact hn
  | x :: l, h, z, hz => by
    unfold wth at hz
    split at hz
    · rcases List.mem_cons.mp hz with rfl | q
      · exact h _ (by simp)
      · exact wth_in n hn l (fun y hy => h y (by simp [hy])) z q
    · split at hz
      · exact h z hz
      · rcases List.mem_cons.mp hz with rfl | q
        · exact hn
        · exact h z q
theorem wth_len (n : Int) : ∀ L : List Int, (wth L n).length ≤ L.length + 1
  | [] => by simp [wth]
  | x :: l => by
    have := wth_len n l
    unfold wth
    split
    · simp; omega
    · split <;> simp
/-- Numbers as a rising row. -/
def rise (L : List Int) : List Int := L.foldl wth []
/-- A number of a set. -/
def OkB (n : Int) : Prop := 0 ≤ n ∧ n ≤ 65535
instance instDecOkB (n : Int) : Decidable (OkB n) := by unfold OkB; infer_instance
def bputK (L : List Int) (n : Int) : List Int := if OkB n then (if n ∈ L then L else wth L n) else L
def bputE (L : List Int) (n : Int) : Int := if OkB n then (if n ∈ L then 35 else 0) else 2
def bdropK (L : List Int) (n : Int) : List Int := if OkB n then L.filter (· ≠ n) else L
def bdropE (L : List Int) (n : Int) : Int := if OkB n then (if n ∈ L then 0 else 35) else 2
/-- What both have. -/
def both (L M : List Int) : List Int := L.filter (· ∈ M)
end Go.Proofs.Ytogckefmmjbapaa
