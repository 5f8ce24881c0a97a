/-
  Tables in plain words, whatever their keys: what is found, what gets a number, what is cut off; what a table's calls must answer, as one bundle of contracts. No Go function is walked here.
-/
import Derived.Test.YtadbelkckeokjaaTurnM
namespace Go.Proofs.Ytadbelkckeokjaa
open Go.RowKit
set_option linter.unusedSimpArgs false
set_option linter.unusedVariables false

section
variable {κ : Type} [DecidableEq κ]
def gfnd (K : List κ) (k : κ) : Int := if k ∈ K then (K.idxOf k : Int) else 0
def gidK (K : List κ) (m : Int) (k : κ) : List κ := if k ∈ K then K else if m ≤ (K.length : Int) then K else K ++ [k]
def gidN (K : List κ) (m : Int) (k : κ) : Int := if k ∈ K then (K.idxOf k : Int) else if m ≤ (K.length : Int) then 0 else (K.length : Int)
def gidE (K : List κ) (m : Int) (k : κ) : Int := if k ∈ K then 0 else if m ≤ (K.length : Int) then 3 else 0
def gkey (z : κ) (K : List κ) (i : Int) : κ := if 0 ≤ i ∧ i < (K.length : Int) then K.getD i.toNat z else z
def gin (K : List κ) (i : Int) : Bool := decide (0 ≤ i) && decide (i < (K.length : Int))
def gcut (K : List κ) (n : Int) : List κ := K.take n.toNat
end

/-- What the calls of a table must answer (pf, pk, pc: whether Find, Key and Cut are asked for): Rep w B m K F: in w, at block B, lies a table of at most m keys, whose keys are K, in the blocks of F. -/
structure TabCon (P : Program) (κ : Type) [DecidableEq κ] (enc : κ → Value) (ok : κ → Prop) (zero : κ) (nw ci cf ck cl cc : FuncId) (pf pk pc : Prop) where
  Rep : World → Nat → Int → List κ → (Nat → Prop) → Prop
  foot : ∀ {w B m K F}, Rep w B m K F → ∀ j, F j → j < w.heap.size
  keep : ∀ {w w' B m K F}, Rep w B m K F → w.heap.size ≤ w'.heap.size → (∀ j, F j → w'.heap[j]? = w.heap[j]?) → Rep w' B m K F
  inv : ∀ {w B m K F}, Rep w B m K F → K.Nodup ∧ (K.length : Int) ≤ m ∧ 1 ≤ m ∧ m ≤ 20000 ∧ ∀ k ∈ K, ok k
  new_ok : ∀ (m : Int) (w : World), 1 ≤ m → m ≤ 20000 → Calls P nw #[.int .i64 m] w fun e w' => ∃ B F, e = .returned (.tuple #[.pointer (some ⟨B, 0, none⟩), .int .i64 0]) ∧ Rep w' B m [] F ∧ Below w.heap.size w w' ∧ ∀ j, F j → w.heap.size ≤ j
  new_no : ∀ (m : Int) (w : World), ¬ (1 ≤ m ∧ m ≤ 20000) → Calls P nw #[.int .i64 m] w fun e w' => e = .returned (.tuple #[.pointer none, .int .i64 2]) ∧ Below w.heap.size w w'
  id : ∀ {w B m K F} (k : κ), Rep w B m K F → ok k → Calls P ci #[.pointer (some ⟨B, 0, none⟩), enc k] w fun e w' => e = .returned (.tuple #[.int .i64 (gidN K m k), .int .i64 (gidE K m k)]) ∧ ∃ F', Rep w' B m (gidK K m k) F' ∧ Turn F w w' ∧ ∀ j, F' j → F j ∨ w.heap.size ≤ j
  find : pf → ∀ {w B m K F} (k : κ), Rep w B m K F → ok k → Calls P cf #[.pointer (some ⟨B, 0, none⟩), enc k] w fun e w' => e = .returned (.tuple #[.int .i64 (gfnd K k), .bool (decide (k ∈ K))]) ∧ Below w.heap.size w w'
  key : pk → ∀ {w B m K F} (i : Int), Rep w B m K F → InR i → Calls P ck #[.pointer (some ⟨B, 0, none⟩), .int .i64 i] w fun e w' => e = .returned (.tuple #[enc (gkey zero K i), .bool (gin K i)]) ∧ Below w.heap.size w w'
  len : ∀ {w B m K F}, Rep w B m K F → Calls P cl #[.pointer (some ⟨B, 0, none⟩)] w fun e w' => e = .returned (.int .i64 (K.length : Int)) ∧ Below w.heap.size w w'
  cut : pc → ∀ {w B m K F} (n : Int), Rep w B m K F → InR n → Calls P cc #[.pointer (some ⟨B, 0, none⟩), .int .i64 n] w fun e w' => e = .returned (.tuple #[]) ∧ ∃ F', Rep w' B m (gcut K n) F' ∧ Turn F w w' ∧ ∀ j, F' j → F j ∨ w.heap.size ≤ j

section
variable {P : Program} {κ : Type} [DecidableEq κ] {enc : κ → Value} {ok : κ → Prop} {zero : κ} {nw ci cf ck cl cc : FuncId} {pf pk pc : Prop}
theorem TabCon.below (T : TabCon P κ enc ok zero nw ci cf ck cl cc pf pk pc) {w w' : World} {B : Nat} {m : Int} {K : List κ} {F : Nat → Prop} (h : T.Rep w B m K F) (hb : Below w.heap.size w w') : T.Rep w' B m K F :=
  T.keep h hb.size (fun j hj => hb.block j (T.foot h j hj))
theorem TabCon.turn (T : TabCon P κ enc ok zero nw ci cf ck cl cc pf pk pc) {w w' : World} {B : Nat} {m : Int} {K : List κ} {F G : Nat → Prop} (h : T.Rep w B m K F) (t : Turn G w w') (hd : ∀ j, F j → ¬ G j) : T.Rep w' B m K F :=
  T.keep h t.size (fun j hj => t.block j (T.foot h j hj) (hd j hj))
end
end Go.Proofs.Ytadbelkckeokjaa
