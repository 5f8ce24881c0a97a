/-
  What a queue's calls must answer, as one bundle of contracts, whatever the things are. No Go function is walked here.
-/
import Derived.Test.YtjljjbfeefcnkaaTurnM
namespace Go.Proofs.Ytjljjbfeefcnkaa
open Go.RowKit
set_option linter.unusedSimpArgs false
set_option linter.unusedVariables false

section
variable {κ : Type}
def qput (L : List κ) (m : Int) (x : κ) : List κ := if m ≤ (L.length : Int) then L else L ++ [x]
def qpe (L : List κ) (m : Int) : Int := if m ≤ (L.length : Int) then 3 else 0
end
/-- What the calls of a queue must answer: Rep w B m L F: in w, at block B, lies a queue with room for m things, in which are those of L, the first one first, in the blocks of F. -/
structure QueCon (P : Program) (κ : Type) (enc : κ → Value) (ok : κ → Prop) (zero : κ) (nw cp ct cl cr : FuncId) where
  Rep : World → Nat → Int → List κ → (Nat → Prop) → Prop
  foot : ∀ {w B m L F}, Rep w B m L F → ∀ j, F j → j < w.heap.size
  keep : ∀ {w w' B m L F}, Rep w B m L F → w.heap.size ≤ w'.heap.size → (∀ j, F j → w'.heap[j]? = w.heap[j]?) → Rep w' B m L F
  inv : ∀ {w B m L F}, Rep w B m L F → 1 ≤ m ∧ m ≤ 1000 ∧ (L.length : Int) ≤ m ∧ ∀ x ∈ L, ok x
  new_ok : ∀ (m : Int) (w : World), 1 ≤ m → m ≤ 1000 → Calls P nw #[.int .i64 m] w fun e w' => ∃ B F, e = .returned (.tuple #[.pointer (some ⟨B, 0, none⟩), .int .i64 0]) ∧ Rep w' B m [] F ∧ Below w.heap.size w w' ∧ ∀ j, F j → w.heap.size ≤ j
  new_no : ∀ (m : Int) (w : World), ¬ (1 ≤ m ∧ m ≤ 1000) → Calls P nw #[.int .i64 m] w fun e w' => e = .returned (.tuple #[.pointer none, .int .i64 2]) ∧ Below w.heap.size w w'
  put : ∀ {w B m L F} (x : κ), Rep w B m L F → ok x → Calls P cp #[.pointer (some ⟨B, 0, none⟩), enc x] w fun e w' => e = .returned (.int .i64 (qpe L m)) ∧ ∃ F', Rep w' B m (qput L m x) F' ∧ Turn F w w' ∧ ∀ j, F' j → F j ∨ w.heap.size ≤ j
  take : ∀ {w B m L F}, Rep w B m L F → Calls P ct #[.pointer (some ⟨B, 0, none⟩)] w fun e w' => e = .returned (.tuple #[enc (L.headD zero), .bool (decide (0 < L.length))]) ∧ ∃ F', Rep w' B m L.tail F' ∧ Turn F w w' ∧ ∀ j, F' j → F j ∨ w.heap.size ≤ j
  len : ∀ {w B m L F}, Rep w B m L F → Calls P cl #[.pointer (some ⟨B, 0, none⟩)] w fun e w' => e = .returned (.int .i64 (L.length : Int)) ∧ Below w.heap.size w w'
  room : ∀ {w B m L F}, Rep w B m L F → Calls P cr #[.pointer (some ⟨B, 0, none⟩)] w fun e w' => e = .returned (.int .i64 m) ∧ Below w.heap.size w w'

section
variable {P : Program} {κ : Type} {enc : κ → Value} {ok : κ → Prop} {zero : κ} {nw cp ct cl cr : FuncId}
theorem QueCon.below (T : QueCon P κ enc ok zero nw cp ct cl cr) {w w' : World} {B : Nat} {m : Int} {L : List κ} {F : Nat → Prop} (h : T.Rep w B m L F) (hb : Below w.heap.size w w') : T.Rep w' B m L F :=
  T.keep h hb.size (fun j hj => hb.block j (T.foot h j hj))
theorem QueCon.turn (T : QueCon P κ enc ok zero nw cp ct cl cr) {w w' : World} {B : Nat} {m : Int} {L : List κ} {F G : Nat → Prop} (h : T.Rep w B m L F) (t : Turn G w w') (hd : ∀ j, F j → ¬ G j) : T.Rep w' B m L F :=
  T.keep h t.size (fun j hj => t.block j (T.foot h j hj) (hd j hj))
end
/-- The contracts of a queue of numbers, of a queue of texts. -/
abbrev QueI := QueCon Try.prog Int (fun k => .int .i64 k) InR 0 7 18 21 11 12
abbrev QueS := QueCon Try.prog ByteArray (fun k => .string k) (fun k => k.size ≤ maxLen) ⟨#[]⟩ 13 14 17 15 16
/-- What Either tells of two queues of numbers, and leaves. -/
def eiv (L M : List Int) : Int := if 0 < L.length then L.headD 0 else M.headD 0
def eib (L M : List Int) : Bool := decide (0 < L.length) || decide (0 < M.length)
def eiL (L : List Int) : List Int := L.tail
def eiM (L M : List Int) : List Int := if 0 < L.length then M else M.tail
def EithC (T : QueI) : Prop := ∀ {w : World} {B C : Nat} {m n : Int} {L M : List Int} {F G : Nat → Prop}, T.Rep w B m L F → T.Rep w C n M G → (∀ j, F j → ¬ G j) →
  Calls Try.prog 19 #[.pointer (some ⟨B, 0, none⟩), .pointer (some ⟨C, 0, none⟩)] w fun e w' => e = .returned (.tuple #[.int .i64 (eiv L M), .bool (eib L M)]) ∧
    ∃ F' G', T.Rep w' B m (eiL L) F' ∧ T.Rep w' C n (eiM L M) G' ∧ (∀ j, F' j → ¬ G' j) ∧ Turn (fun j => F j ∨ G j) w w' ∧ (∀ j, F' j → F j ∨ w.heap.size ≤ j) ∧ ∀ j, G' j → G j ∨ w.heap.size ≤ j
/-- What a queue that is none answers, of numbers. -/
def NilTake : Prop := ∀ (w : World), Calls Try.prog 21 #[.pointer none] w fun e w' => e = .returned (.tuple #[.int .i64 0, .bool false]) ∧ Below w.heap.size w w'
def NilPut : Prop := ∀ (z : Int) (w : World), Calls Try.prog 18 #[.pointer none, .int .i64 z] w fun e w' => e = .returned (.int .i64 1) ∧ Below w.heap.size w w'
end Go.Proofs.Ytjljjbfeefcnkaa
