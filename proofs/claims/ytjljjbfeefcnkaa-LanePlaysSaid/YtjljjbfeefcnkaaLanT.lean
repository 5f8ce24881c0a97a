/-
  One queue, and two queues apart, among what a call has made: what each call turns, out of a queue's contracts. No Go function is walked here.
-/
import Derived.Test.YtjljjbfeefcnkaaLanG
namespace Go.Proofs.Ytjljjbfeefcnkaa
open Go.RowKit
set_option linter.unusedSimpArgs false
set_option linter.unusedVariables false

section
variable {P : Program} {κ : Type} {enc : κ → Value} {ok : κ → Prop} {zero : κ} {nw cp ct cl cr : FuncId}
/-- Behind w0, in w, at block B, lies a queue with room for m things, with those of L. -/
def One (T : QueCon P κ enc ok zero nw cp ct cl cr) (w0 w : World) (B : Nat) (m : Int) (L : List κ) : Prop := ∃ F, T.Rep w B m L F ∧ Below w0.heap.size w0 w ∧ ∀ j, F j → w0.heap.size ≤ j
theorem One.hb {T : QueCon P κ enc ok zero nw cp ct cl cr} {w0 w : World} {B : Nat} {m : Int} {L : List κ} (h : One T w0 w B m L) : Below w0.heap.size w0 w := by obtain ⟨_, _, h, _⟩ := h; exact h
theorem One.inv {T : QueCon P κ enc ok zero nw cp ct cl cr} {w0 w : World} {B : Nat} {m : Int} {L : List κ} (h : One T w0 w B m L) : 1 ≤ m ∧ m ≤ 1000 ∧ (L.length : Int) ≤ m ∧ ∀ x ∈ L, ok x := by obtain ⟨_, h, _⟩ := h; exact T.inv h
theorem One.below {T : QueCon P κ enc ok zero nw cp ct cl cr} {w0 w w' : World} {B : Nat} {m : Int} {L : List κ} (h : One T w0 w B m L) (hb : Below w.heap.size w w') : One T w0 w' B m L := by
  obtain ⟨F, h1, h2, h3⟩ := h
  exact ⟨F, T.below h1 hb, h2.trans (hb.mono h2.size), h3⟩
/-- A queue stands in what others turn, if they are none of its blocks. -/
theorem One.turned {T : QueCon P κ enc ok zero nw cp ct cl cr} {w0 w w' : World} {B : Nat} {m : Int} {L : List κ} {F F' : Nat → Prop} (h2 : Below w0.heap.size w0 w) (h3 : ∀ j, F j → w0.heap.size ≤ j) (r : T.Rep w' B m L F') (t : Turn F w w') (f : ∀ j, F' j → F j ∨ w.heap.size ≤ j) : One T w0 w' B m L :=
  ⟨F', r, h2.trans (t.below h3 h2.size), fun j q => (f j q).elim (h3 j) (fun q => Nat.le_trans h2.size q)⟩
theorem One.put {T : QueCon P κ enc ok zero nw cp ct cl cr} {w0 w : World} {B : Nat} {m : Int} {L : List κ} (h : One T w0 w B m L) (x : κ) (hx : ok x) :
    Calls P cp #[.pointer (some ⟨B, 0, none⟩), enc x] w fun e w' => e = .returned (.int .i64 (qpe L m)) ∧ One T w0 w' B m (qput L m x) := by
  obtain ⟨F, h1, h2, h3⟩ := h
  exact (T.put x h1 hx).mono fun e w' ⟨he, F', r, t, f⟩ => ⟨he, One.turned h2 h3 r t f⟩
theorem One.take {T : QueCon P κ enc ok zero nw cp ct cl cr} {w0 w : World} {B : Nat} {m : Int} {L : List κ} (h : One T w0 w B m L) :
    Calls P ct #[.pointer (some ⟨B, 0, none⟩)] w fun e w' => e = .returned (.tuple #[enc (L.headD zero), .bool (decide (0 < L.length))]) ∧ One T w0 w' B m L.tail := by
  obtain ⟨F, h1, h2, h3⟩ := h
  exact (T.take h1).mono fun e w' ⟨he, F', r, t, f⟩ => ⟨he, One.turned h2 h3 r t f⟩
theorem One.len {T : QueCon P κ enc ok zero nw cp ct cl cr} {w0 w : World} {B : Nat} {m : Int} {L : List κ} (h : One T w0 w B m L) :
    Calls P cl #[.pointer (some ⟨B, 0, none⟩)] w fun e w' => e = .returned (.int .i64 (L.length : Int)) ∧ One T w0 w' B m L := by
  have h0 := h
  obtain ⟨F, h1, h2, h3⟩ := h
  exact (T.len h1).mono fun e w' ⟨he, hb⟩ => ⟨he, h0.below hb⟩
theorem One.room {T : QueCon P κ enc ok zero nw cp ct cl cr} {w0 w : World} {B : Nat} {m : Int} {L : List κ} (h : One T w0 w B m L) :
    Calls P cr #[.pointer (some ⟨B, 0, none⟩)] w fun e w' => e = .returned (.int .i64 m) ∧ One T w0 w' B m L := by
  have h0 := h
  obtain ⟨F, h1, h2, h3⟩ := h
  exact (T.room h1).mono fun e w' ⟨he, hb⟩ => ⟨he, h0.below hb⟩
theorem One.new {T : QueCon P κ enc ok zero nw cp ct cl cr} (m : Int) (w : World) (h1 : 1 ≤ m) (h2 : m ≤ 1000) :
    Calls P nw #[.int .i64 m] w fun e w' => ∃ B, e = .returned (.tuple #[.pointer (some ⟨B, 0, none⟩), .int .i64 0]) ∧ One T w w' B m [] :=
  (T.new_ok m w h1 h2).mono fun e w' ⟨B, F, he, r, hb, f⟩ => ⟨B, he, F, r, hb, f⟩

/-- .. two queues apart: at B with L, at C with M. -/
def Two (T : QueCon P κ enc ok zero nw cp ct cl cr) (w0 w : World) (B C : Nat) (m n : Int) (L M : List κ) : Prop :=
  ∃ F G, T.Rep w B m L F ∧ T.Rep w C n M G ∧ (∀ j, F j → ¬ G j) ∧ Below w0.heap.size w0 w ∧ (∀ j, F j → w0.heap.size ≤ j) ∧ ∀ j, G j → w0.heap.size ≤ j
variable {T : QueCon P κ enc ok zero nw cp ct cl cr} {w0 w w' : World} {B C : Nat} {m n : Int} {L M : List κ}
theorem Two.hb (h : Two T w0 w B C m n L M) : Below w0.heap.size w0 w := by obtain ⟨_, _, _, _, _, h, _⟩ := h; exact h
theorem Two.inv (h : Two T w0 w B C m n L M) : (1 ≤ m ∧ m ≤ 1000 ∧ (L.length : Int) ≤ m ∧ ∀ x ∈ L, ok x) ∧ 1 ≤ n ∧ n ≤ 1000 ∧ (M.length : Int) ≤ n ∧ ∀ x ∈ M, ok x := by obtain ⟨_, _, h, k, _⟩ := h; exact ⟨T.inv h, T.inv k⟩
theorem Two.below (h : Two T w0 w B C m n L M) (hb : Below w.heap.size w w') : Two T w0 w' B C m n L M := by
  obtain ⟨F, G, h1, h2, h3, h4, h5, h6⟩ := h
  exact ⟨F, G, T.below h1 hb, T.below h2 hb, h3, h4.trans (hb.mono h4.size), h5, h6⟩
theorem Two.turnA {F F' G : Nat → Prop} {L' : List κ} (h2 : T.Rep w C n M G) (h3 : ∀ j, F j → ¬ G j) (h4 : Below w0.heap.size w0 w) (h5 : ∀ j, F j → w0.heap.size ≤ j) (h6 : ∀ j, G j → w0.heap.size ≤ j)
    (r : T.Rep w' B m L' F') (t : Turn F w w') (f : ∀ j, F' j → F j ∨ w.heap.size ≤ j) : Two T w0 w' B C m n L' M :=
  ⟨F', G, r, T.turn h2 t (fun j q r => h3 j r q), fun j q s => (f j q).elim (fun q => h3 j q s) (fun q => by have := T.foot h2 j s; omega), h4.trans (t.below h5 h4.size), fun j q => (f j q).elim (h5 j) (fun q => Nat.le_trans h4.size q), h6⟩
theorem Two.turnB {F G G' : Nat → Prop} {M' : List κ} (h1 : T.Rep w B m L F) (h3 : ∀ j, F j → ¬ G j) (h4 : Below w0.heap.size w0 w) (h5 : ∀ j, F j → w0.heap.size ≤ j) (h6 : ∀ j, G j → w0.heap.size ≤ j)
    (r : T.Rep w' C n M' G') (t : Turn G w w') (f : ∀ j, G' j → G j ∨ w.heap.size ≤ j) : Two T w0 w' B C m n L M' :=
  ⟨F, G', T.turn h1 t h3, r, fun j q s => (f j s).elim (h3 j q) (fun s => by have := T.foot h1 j q; omega), h4.trans (t.below h6 h4.size), h5, fun j q => (f j q).elim (h6 j) (fun q => Nat.le_trans h4.size q)⟩
theorem Two.putA (h : Two T w0 w B C m n L M) (x : κ) (hx : ok x) : Calls P cp #[.pointer (some ⟨B, 0, none⟩), enc x] w fun e w' => e = .returned (.int .i64 (qpe L m)) ∧ Two T w0 w' B C m n (qput L m x) M := by
  obtain ⟨F, G, h1, h2, h3, h4, h5, h6⟩ := h
  exact (T.put x h1 hx).mono fun e w' ⟨he, F', r, t, f⟩ => ⟨he, Two.turnA h2 h3 h4 h5 h6 r t f⟩
theorem Two.putB (h : Two T w0 w B C m n L M) (x : κ) (hx : ok x) : Calls P cp #[.pointer (some ⟨C, 0, none⟩), enc x] w fun e w' => e = .returned (.int .i64 (qpe M n)) ∧ Two T w0 w' B C m n L (qput M n x) := by
  obtain ⟨F, G, h1, h2, h3, h4, h5, h6⟩ := h
  exact (T.put x h2 hx).mono fun e w' ⟨he, F', r, t, f⟩ => ⟨he, Two.turnB h1 h3 h4 h5 h6 r t f⟩
theorem Two.takeA (h : Two T w0 w B C m n L M) : Calls P ct #[.pointer (some ⟨B, 0, none⟩)] w fun e w' => e = .returned (.tuple #[enc (L.headD zero), .bool (decide (0 < L.length))]) ∧ Two T w0 w' B C m n L.tail M := by
  obtain ⟨F, G, h1, h2, h3, h4, h5, h6⟩ := h
  exact (T.take h1).mono fun e w' ⟨he, F', r, t, f⟩ => ⟨he, Two.turnA h2 h3 h4 h5 h6 r t f⟩
theorem Two.takeB (h : Two T w0 w B C m n L M) : Calls P ct #[.pointer (some ⟨C, 0, none⟩)] w fun e w' => e = .returned (.tuple #[enc (M.headD zero), .bool (decide (0 < M.length))]) ∧ Two T w0 w' B C m n L M.tail := by
  obtain ⟨F, G, h1, h2, h3, h4, h5, h6⟩ := h
  exact (T.take h2).mono fun e w' ⟨he, F', r, t, f⟩ => ⟨he, Two.turnB h1 h3 h4 h5 h6 r t f⟩
theorem Two.lenA (h : Two T w0 w B C m n L M) : Calls P cl #[.pointer (some ⟨B, 0, none⟩)] w fun e w' => e = .returned (.int .i64 (L.length : Int)) ∧ Below w.heap.size w w' := by
  obtain ⟨F, G, h1, h2, h3, h4, h5, h6⟩ := h; exact T.len h1
theorem Two.lenB (h : Two T w0 w B C m n L M) : Calls P cl #[.pointer (some ⟨C, 0, none⟩)] w fun e w' => e = .returned (.int .i64 (M.length : Int)) ∧ Below w.heap.size w w' := by
  obtain ⟨F, G, h1, h2, h3, h4, h5, h6⟩ := h; exact T.len h2
theorem Two.roomA (h : Two T w0 w B C m n L M) : Calls P cr #[.pointer (some ⟨B, 0, none⟩)] w fun e w' => e = .returned (.int .i64 m) ∧ Below w.heap.size w w' := by
  obtain ⟨F, G, h1, h2, h3, h4, h5, h6⟩ := h; exact T.room h1
theorem Two.roomB (h : Two T w0 w B C m n L M) : Calls P cr #[.pointer (some ⟨C, 0, none⟩)] w fun e w' => e = .returned (.int .i64 n) ∧ Below w.heap.size w w' := by
  obtain ⟨F, G, h1, h2, h3, h4, h5, h6⟩ := h; exact T.room h2
/-- A second queue is made beside one. -/
theorem One.new2 (h : One T w0 w B m L) (n : Int) (h1 : 1 ≤ n) (h2 : n ≤ 1000) : Calls P nw #[.int .i64 n] w fun e w' => ∃ C, e = .returned (.tuple #[.pointer (some ⟨C, 0, none⟩), .int .i64 0]) ∧ Two T w0 w' B C m n L [] := by
  obtain ⟨F, r, hb, f⟩ := h
  exact (T.new_ok n w h1 h2).mono fun e w' ⟨C, G, he, s, hb', g⟩ => ⟨C, he, F, G, T.below r hb', s, fun j q q' => by have := T.foot r j q; have := g j q'; omega, hb.trans (hb'.mono hb.size), f, fun j q => Nat.le_trans hb.size (g j q)⟩
end
theorem Two.either {T : QueI} (hE : EithC T) {w0 w : World} {B C : Nat} {m n : Int} {L M : List Int} (h : Two T w0 w B C m n L M) :
    Calls Try.prog 19 #[.pointer (some ⟨B, 0, none⟩), .pointer (some ⟨C, 0, none⟩)] w fun e w' => e = .returned (.tuple #[.int .i64 (eiv L M), .bool (eib L M)]) ∧ Two T w0 w' B C m n (eiL L) (eiM L M) := by
  obtain ⟨F, G, h1, h2, h3, h4, h5, h6⟩ := h
  exact (hE h1 h2 h3).mono fun e w' ⟨he, F', G', r, s, d, t, f, g⟩ => ⟨he, F', G', r, s, d, h4.trans (t.below (fun j q => q.elim (h5 j) (h6 j)) h4.size), fun j q => (f j q).elim (h5 j) (fun q => Nat.le_trans h4.size q), fun j q => (g j q).elim (h6 j) (fun q => Nat.le_trans h4.size q)⟩
end Go.Proofs.Ytjljjbfeefcnkaa
