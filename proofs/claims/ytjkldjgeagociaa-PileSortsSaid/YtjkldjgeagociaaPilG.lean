/-
  What a pile's calls must answer, as one bundle of contracts; what its sorting must answer; layer 9's own less. No conditions.
-/
import Derived.Test.YtjkldjgeagociaaTurnM
import Derived.Test.YtjkldjgeagociaaPilU
namespace Go.Proofs.Ytjkldjgeagociaa
open Go.RowKit
set_option linter.unusedSimpArgs false
set_option linter.unusedVariables false

/-- Layer 9's own less, as a value. -/
abbrev LessV : Value := .func (.func 7) #[] #[]
def InP (p : Int × Int) : Prop := InR p.1 ∧ InR p.2
/-- What the calls of a pile of pairs must answer: Rep w B n L F: in w, at block B, lies a pile with the things of L, in the order in which they were pushed, in the blocks of F; at most n were ever pushed. -/
structure PilCon where
  Rep : World → Nat → Nat → List (Int × Int) → (Nat → Prop) → Prop
  foot : ∀ {w B n L F}, Rep w B n L F → ∀ j, F j → j < w.heap.size
  more : ∀ {w B n m L F}, Rep w B n L F → n ≤ m → Rep w B m L F
  keep : ∀ {w w' B n L F}, Rep w B n L F → w.heap.size ≤ w'.heap.size → (∀ j, F j → w'.heap[j]? = w.heap[j]?) → Rep w' B n L F
  new_ok : ∀ (w : World), Calls Try.prog 6 #[LessV] w fun e w' => ∃ B F, e = .returned (.pointer (some ⟨B, 0, none⟩)) ∧ Rep w' B 0 [] F ∧ Below w.heap.size w w' ∧ ∀ j, F j → w.heap.size ≤ j
  push : ∀ {w B n L F} (x y : Int), Rep w B n L F → InR x → InR y → n < 20000 → Calls Try.prog 15 #[.pointer (some ⟨B, 0, none⟩), .agg #[.int .i64 x, .int .i64 y]] w fun e w' => e = .returned (.int .i64 0) ∧ ∃ F', Rep w' B (n + 1) (L ++ [(x, y)]) F' ∧ Turn F w w' ∧ ∀ j, F' j → F j ∨ w.heap.size ≤ j
  pop : ∀ {w B n L F}, Rep w B n L F → Calls Try.prog 16 #[.pointer (some ⟨B, 0, none⟩)] w fun e w' => e = .returned (.tuple #[.agg #[.int .i64 (peekv L).1, .int .i64 (peekv L).2], .bool (decide (0 < L.length))]) ∧ ∃ F', Rep w' B n (popv L) F' ∧ Turn F w w' ∧ ∀ j, F' j → F j ∨ w.heap.size ≤ j
  peek : ∀ {w B n L F}, Rep w B n L F → Calls Try.prog 18 #[.pointer (some ⟨B, 0, none⟩)] w fun e w' => e = .returned (.tuple #[.agg #[.int .i64 (peekv L).1, .int .i64 (peekv L).2], .bool (decide (0 < L.length))]) ∧ Below w.heap.size w w'
  len : ∀ {w B n L F}, Rep w B n L F → Calls Try.prog 11 #[.pointer (some ⟨B, 0, none⟩)] w fun e w' => e = .returned (.int .i64 (L.length : Int)) ∧ Below w.heap.size w w'
theorem PilCon.below (T : PilCon) {w w' : World} {B n : Nat} {L : List (Int × Int)} {F : Nat → Prop} (h : T.Rep w B n L F) (hb : Below w.heap.size w w') : T.Rep w' B n L F :=
  T.keep h hb.size (fun j hj => hb.block j (T.foot h j hj))
theorem PilCon.turn (T : PilCon) {w w' : World} {B n : Nat} {L : List (Int × Int)} {F G : Nat → Prop} (h : T.Rep w B n L F) (t : Turn G w w') (hd : ∀ j, F j → ¬ G j) : T.Rep w' B n L F :=
  T.keep h t.size (fun j hj => t.block j (T.foot h j hj) (hd j hj))
/-- What sorting must answer. -/
def SortC : Prop := ∀ (v : Value) (L : List (Int × Int)) (w : World), SlP w v L → (∀ p ∈ L, InP p) → L.length ≤ 20000 →
  Calls Try.prog 13 #[v, LessV] w fun e w' => ∃ u, e = .returned u ∧ SlP w' u (sortv L) ∧ Below w.heap.size w w'
/-- What a pile that is none answers, of numbers. -/
def NilPop : Prop := ∀ (w : World), Calls Try.prog 19 #[.pointer none] w fun e w' => e = .returned (.tuple #[.int .i64 0, .bool false]) ∧ Below w.heap.size w w'
def NilPush : Prop := ∀ (z : Int) (w : World), Calls Try.prog 20 #[.pointer none, .int .i64 z] w fun e w' => e = .returned (.int .i64 1) ∧ Below w.heap.size w w'

set_option maxHeartbeats 1000000 in
theorem l9_less (a b c d : Int) (w : World) :
    Calls Try.prog 7 #[.agg #[.int .i64 a, .int .i64 b], .agg #[.int .i64 c, .int .i64 d]] w fun e w' => e = .returned (.bool (decide (a < c))) ∧ Below w.heap.size w w' := by
  have K := ((Keeps.start w).new (.int .i64 a) (.int .i64 b) 25).new (.int .i64 c) (.int .i64 d) 25
  obtain ⟨x0, x1, x2⟩ := K.at0
  obtain ⟨y0, y1, y2⟩ := K.at1
  go_enter Try.func7, Try.ntmps7
  go_wp2_with fail
  go_ret
  exact ⟨rfl, K.1⟩
end Go.Proofs.Ytjkldjgeagociaa
