/-
  Plain words without any Go function: what it means that a whole number is in range, what is told of one, sums of lists, a slice that reads as a list, worlds that only grow. No conditions.
-/
import Derived.WalkKit
import Derived.OpenShut
import Derived.WalkSpells
import Derived.RowKit3
import Derived.Below
import Derived.Lib.Hide
namespace Go.Proofs.Ytadbelkckeokjaa
open Go.RowKit

/-- In the range of int. -/
def InR (x : Int) : Prop := -9223372036854775808 ≤ x ∧ x ≤ 9223372036854775807
instance instDecInR (x : Int) : Decidable (InR x) := by unfold InR; infer_instance

/-- The number that is told, and the error's number. -/
def tv (x : Int) : Int := if InR x then x else 0
def te (x : Int) : Int := if InR x then 0 else 10

theorem tv_in {x : Int} (h : InR x) : tv x = x := if_pos h
theorem te_in {x : Int} (h : InR x) : te x = 0 := if_pos h
theorem tv_out {x : Int} (h : ¬ InR x) : tv x = 0 := if_neg h
theorem te_out {x : Int} (h : ¬ InR x) : te x = 10 := if_neg h
theorem inR_of {x : Int} (h : (Lit.int .i64 x).wf = true) : InR x := by
  have := bounds_i64 h
  unfold InR; omega
theorem tv_inR (x : Int) : InR (tv x) := by
  unfold tv; split
  · assumption
  · unfold InR; omega

theorem zero_in : InR 0 := by unfold InR; omega

/-- -1, 0 or 1. -/
def cmpv (a b : Int) : Int := if a < b then -1 else if b < a then 1 else 0

theorem bcell {W w1 : World} (hb : Below W.heap.size W w1) : (∀ b o, b < W.heap.size → w1.cell? ⟨b, o, none⟩ = W.cell? ⟨b, o, none⟩) ∧ (∀ b o, b < W.heap.size → w1.frozen? ⟨b, o, none⟩ = W.frozen? ⟨b, o, none⟩) :=
  ⟨fun b o h => hb.cell (p := ⟨b, o, none⟩) h, fun b o h => hb.frozen (p := ⟨b, o, none⟩) h⟩

theorem below2 (w : World) (a b : Obj) : Below w.heap.size w ((w.alloc a).alloc b) :=
  ((Below.refl _ _).alloc (Nat.le_refl _) _).alloc (by simp) _
theorem below5 (w : World) (a b c d e : Obj) : Below w.heap.size w (((((w.alloc a).alloc b).alloc c).alloc d).alloc e) :=
  (((below2 w a b).alloc (by simp; omega) _).alloc (by simp; omega) _).alloc (by simp; omega) _

theorem below3 (w : World) (a b c : Obj) : Below w.heap.size w (((w.alloc a).alloc b).alloc c) := (below2 w a b).alloc (by simp; omega) _

/-- The sum of the first ones. -/
def psum (f : Nat → Int) : Nat → Int
  | 0 => 0
  | k + 1 => psum f k + f k
/-- No farther from 0 than a number, or its opposite. -/
def InS (x : Int) : Prop := -9223372036854775808 ≤ x ∧ x ≤ 9223372036854775808
theorem inS_of {x : Int} (h : InR x) : InS x := by unfold InR at h; unfold InS; omega
theorem inS_neg {x : Int} (h : InR x) : InS (-x) := by unfold InR at h; unfold InS; omega
theorem psum_bd (f : Nat → Int) (n : Nat) (hf : ∀ i, i < n → InS (f i)) : ∀ k, k ≤ n → -9223372036854775808 * (k : Int) ≤ psum f k ∧ psum f k ≤ 9223372036854775808 * (k : Int)
  | 0, _ => by simp [psum]
  | k + 1, h => by
    have h1 := psum_bd f n hf k (by omega)
    have h2 := hf k (by omega)
    unfold InS at h2
    unfold psum
    omega
/-- A slice that starts at a reads as the list L of numbers in range. -/
def Reads (w : World) (a : Option Addr) (L : List Int) : Prop :=
  (∀ z ∈ L, InR z) ∧ ∀ i, i < L.length → ∃ b off, a = some ⟨b, off, none⟩ ∧ w.cell? ⟨b, off + i, none⟩ = some (.int .i64 (L.getD i 0))

theorem Reads.below {w w' : World} {a : Option Addr} {L : List Int} (h : Reads w a L) (hb : Below w.heap.size w w') : Reads w' a L := by
  refine ⟨h.1, fun i hi => ?_⟩
  obtain ⟨b, off, ha, hc⟩ := h.2 i hi
  exact ⟨b, off, ha, (hb.cell (World.block_lt_of_cell? w _ hc)).trans hc⟩

theorem Reads.alloc {w : World} {a : Option Addr} {L : List Int} (h : Reads w a L) (o : Obj) : Reads (w.alloc o) a L :=
  h.below ((Below.refl _ _).alloc (Nat.le_refl _) _)

theorem getD_lt (L : List Int) (i : Nat) (hi : i < L.length) : L.getD i 0 = L[i] := by simp [List.getD, hi]

theorem Reads.at {w : World} {a : Option Addr} {L : List Int} (h : Reads w a L) (i : Nat) (hi : i < L.length) : InR (L.getD i 0) := by
  rw [getD_lt _ _ hi]; exact h.1 _ (List.getElem_mem hi)

theorem psum_congr (f g : Nat → Int) : ∀ n, (∀ i, i < n → f i = g i) → psum f n = psum g n
  | 0, _ => rfl
  | n + 1, h => by rw [psum, psum, psum_congr f g n (fun i hi => h i (by omega)), h n (by omega)]

theorem psum_take (L : List Int) : ∀ n, n ≤ L.length → psum (fun i => L.getD i 0) n = (L.take n).sum
  | 0, _ => by simp [psum]
  | n + 1, h => by
    rw [psum, psum_take L n (by omega), List.take_succ_eq_append_getElem (by omega), List.sum_append, getD_lt _ _ (by omega)]; simp

theorem psum_list (L : List Int) : psum (fun i => L.getD i 0) L.length = L.sum := by rw [psum_take L _ (Nat.le_refl _), List.take_length]

theorem psum_app (f g : Nat → Int) (n : Nat) : ∀ m, psum (fun i => if i < n then f i else g (i - n)) (n + m) = psum f n + psum g m
  | 0 => by
    have h : psum (fun i => if i < n then f i else g (i - n)) n = psum f n := psum_congr _ _ _ (fun i hi => by simp [hi])
    rw [Nat.add_zero, h]; simp [psum]
  | m + 1 => by
    have e : n + (m + 1) = (n + m) + 1 := by omega
    rw [e, psum, psum_app f g n m, psum]; simp; omega

theorem psum_neg (f : Nat → Int) : ∀ m, psum (fun i => - f i) m = - psum f m
  | 0 => by simp [psum]
  | m + 1 => by rw [psum, psum, psum_neg f m]; omega

end Go.Proofs.Ytadbelkckeokjaa
