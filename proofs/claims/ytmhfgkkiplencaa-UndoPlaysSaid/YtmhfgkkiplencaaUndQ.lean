/-
  What UndoPlays carries: a book, the document's book in a block of its own. No conditions.
-/
import Derived.Test.YtmhfgkkiplencaaUndT
import Derived.Test.YtmhfgkkiplencaaR16f
namespace Go.Proofs.Ytmhfgkkiplencaa
open Go.RowKit
set_option linter.unusedSimpArgs false
set_option linter.unusedVariables false

theorem URep.lens {w : World} {B : Nat} {U : List Int} {s : USt} {F : Nat → Prop} (h : URep w B U s F) : s.1.length ≤ 1000000 ∧ s.2.length ≤ 64 := by
  obtain ⟨_, _, _, _, _, h3, h4, _⟩ := h
  exact ⟨Nat.le_trans h3.1.len h4, h3.2.2⟩
/-- The book at B has the state t; the document's, whose value lies in the block X, has s; what is told by refDo, and not yet laid there, is S. -/
structure PlK (w wr : World) (B X : Nat) (U : List Int) (t : USt) (p q : Value) (x : Value) (S : USt) : Prop where
  out : ∃ F, OneU w wr B U t F ∧ BkX (fun j => F j ∨ j = X) wr x S ∧ ¬ F X ∧ w.heap.size ≤ X ∧ Ow2 wr X p q
abbrev bka (a : Option Addr) (c : Nat) (s : USt) : Value := .slice a s.1.length c
abbrev bkb (b : Option Addr) (d : Nat) (s : USt) : Value := .slice b s.2.length d
abbrev PlJ (w wr : World) (B X : Nat) (U : List Int) (t s : USt) (a : Option Addr) (c : Nat) (b : Option Addr) (d : Nat) : Prop := PlK w wr B X U t (bka a c s) (bkb b d s) (.agg #[bka a c s, bkb b d s]) s
section
variable {w wr w' : World} {B X : Nat} {U : List Int} {t s S : USt} {p q x : Value} {a b : Option Addr} {c d : Nat}
theorem PlK.bel (h : PlK w wr B X U t p q x S) : Below w.heap.size w wr := by obtain ⟨F, h1, _⟩ := h.out; exact h1.b
theorem PlK.below (h : PlK w wr B X U t p q x S) (hb : Below wr.heap.size wr w') : PlK w w' B X U t p q x S := by
  obtain ⟨F, h1, h2, h3, h4, h5⟩ := h.out
  exact ⟨F, h1.below hb, h2.below hb, h3, h4, h5.below hb⟩
theorem PlK.ow (h : PlK w wr B X U t p q x S) : Ow2 wr X p q := by obtain ⟨F, h1, h2, h3, h4, h5⟩ := h.out; exact h5
/-- What was told is laid into X. -/
theorem PlK.store (h : PlK w wr B X U t p q (.agg #[bka a c S, bkb b d S]) S) : PlJ w ((wr.setCell ⟨X, 0, none⟩ (bka a c S)).setCell ⟨X, 1, none⟩ (bkb b d S)) B X U t S a c b d := by
  obtain ⟨F, h1, h2, h3, h4, h5⟩ := h.out
  have t2 := turn_set2 (F := fun j => j = X) (Turn.refl _ wr) (Or.inl rfl) (bka a c S) (bkb b d S)
  exact ⟨F, ⟨h1.r.turn t2 (fun j q e => h3 (e ▸ q)), h1.b.trans (t2.below (fun k e => by omega) h1.b.size), h1.f⟩, h2.turn t2 (fun j q => Or.inr q) (fun j q => Or.inl q), h3, h4, h5.put⟩
theorem pl_do (h : PlK w wr B X U t p q x S) (d k v : Int) (hkU : k ∈ U) (hk : InR k) (hv : InR v) :
    Calls Try.prog 8 #[.pointer (some ⟨B, 0, none⟩), .agg #[.int .i64 d, .int .i64 k, .int .i64 v]] wr fun e w' => e = .returned (.int .i64 (udoE t d k)) ∧ PlK w w' B X U (udo t d k v) p q x S := by
  obtain ⟨F, h1, h2, h3, h4, h5⟩ := h.out
  refine (do16 h1.r d k v hkU hk hv).mono ?_
  rintro e w' ⟨rfl, F', q1, q2, q3⟩
  have hX : X < wr.heap.size := h5.1.2.2
  refine ⟨rfl, F', ⟨q1, h1.b.trans (q2.below h1.f h1.b.size), fun j q => (q3 j q).elim (h1.f j) fun q => Nat.le_trans h1.b.size q⟩, h2.turn q2 (fun j q => Or.inl q) (fun j q => ?_), fun q => ?_, h4, h5.turn q2 h3⟩
  · rcases q with q | q
    · exact (q3 j q).imp Or.inl id
    · exact Or.inl (Or.inr q)
  · rcases q3 X q with q | q
    · exact h3 q
    · omega
theorem pl_ref (h : PlJ w wr B X U t s a c b d) (hn : s.1.length ≤ 1000000) (h64 : s.2.length ≤ 64) (e k v : Int) :
    Calls Try.prog 9 #[.agg #[bka a c s, bkb b d s], .agg #[.int .i64 e, .int .i64 k, .int .i64 v]] wr fun r w' => ∃ a' c' b' d', r = .returned (.tuple #[.agg #[bka a' c' (udo s e k v), bkb b' d' (udo s e k v)], .int .i64 (udoE s e k)]) ∧
      PlK w w' B X U t (bka a c s) (bkb b d s) (.agg #[bka a' c' (udo s e k v), bkb b' d' (udo s e k v)]) (udo s e k v) ∧ Below wr.heap.size wr w' := by
  obtain ⟨F, h1, h2, h3, h4, h5⟩ := h.out
  refine (r16do (fun j => F j ∨ j = X) (fun j q => q.elim (h1.r.foot j) fun q => q ▸ h5.1.2.2) h2 hn h64 e k v).mono ?_
  rintro r w' ⟨x', rfl, hB, hb⟩
  obtain ⟨a', c', b', d', rfl⟩ := hB.form
  exact ⟨a', c', b', d', rfl, ⟨F, h1.below hb, hB, h3, h4, h5.below hb⟩, hb⟩
/-- A store into a block that is new since. -/
theorem PlK.fresh {P : World} (h : PlK w wr B X U t p q x S) (hb : Below wr.heap.size wr P) {Y : Nat} (hY : wr.heap.size ≤ Y) (p' q' : Value) : PlK w ((P.setCell ⟨Y, 0, none⟩ p').setCell ⟨Y, 1, none⟩ q') B X U t p q x S :=
  h.below (hb.trans ((turn_set2 (F := fun j => j = Y) (Turn.refl _ P) (Or.inl rfl) p' q').below (fun k e => by omega) hb.size))
/-- refDo, with a block laid ahead of it into which what it tells will be laid. -/
theorem pl_ref2 {P : World} (h : PlJ w wr B X U t s a c b d) (hn : s.1.length ≤ 1000000) (h64 : s.2.length ≤ 64) (hb : Below wr.heap.size wr P) {Y : Nat} (hY : wr.heap.size ≤ Y) (hYl : Y < P.heap.size) (e k v : Int) :
    Calls Try.prog 9 #[.agg #[bka a c s, bkb b d s], .agg #[.int .i64 e, .int .i64 k, .int .i64 v]] P fun r w' => ∃ a' c' b' d', r = .returned (.tuple #[.agg #[bka a' c' (udo s e k v), bkb b' d' (udo s e k v)], .int .i64 (udoE s e k)]) ∧
      PlK w w' B X U t (bka a c s) (bkb b d s) (.agg #[bka a' c' (udo s e k v), bkb b' d' (udo s e k v)]) (udo s e k v) ∧
      (∀ p' q', PlK w ((w'.setCell ⟨Y, 0, none⟩ p').setCell ⟨Y, 1, none⟩ q') B X U t (bka a c s) (bkb b d s) (.agg #[bka a' c' (udo s e k v), bkb b' d' (udo s e k v)]) (udo s e k v)) ∧ Below P.heap.size P w' := by
  obtain ⟨F, h1, h2, h3, h4, h5⟩ := h.out
  have hX := h5.1.2.2
  have hfo := h1.r.foot
  have h2' : BkX (fun j => (F j ∨ j = X) ∨ j = Y) P (.agg #[bka a c s, bkb b d s]) s := h2.turn (F := fun _ => False) (Turn.of_below hb) (fun _ q => q.elim) fun j q => q.imp id fun q => by omega
  have hs := hb.size
  refine (r16do (fun j => (F j ∨ j = X) ∨ j = Y) (fun j q => ?_) h2' hn h64 e k v).mono ?_
  · rcases q with (q | q) | q
    · have := hfo j q; omega
    · omega
    · omega
  rintro r w' ⟨x', rfl, hB, hb1⟩
  obtain ⟨a', c', b', d', rfl⟩ := hB.form
  have hb2 := hb.trans (hb1.mono hb.size)
  have O := h1.below hb2
  refine ⟨a', c', b', d', rfl, ⟨F, O, hB.turn (F := fun _ => False) (Turn.refl _ _) (fun _ q => q.elim) (fun j q => Or.inl (Or.inl q)), h3, h4, h5.below hb2⟩, fun p' q' => ?_, hb1⟩
  have t2 := turn_set2 (F := fun j => j = Y) (Turn.refl _ w') (Or.inl rfl) p' q'
  have hbe := hb2.trans (t2.below (fun k e => by omega) hb2.size)
  exact ⟨F, h1.below hbe, hB.turn t2 (fun j q => Or.inr q) (fun j q => Or.inl (Or.inl q)), h3, h4, h5.below hbe⟩
theorem pl_get (h : PlJ w wr B X U s s a c b d) (k : Int) (hk : InR k) : Calls Try.prog 10 #[.pointer (some ⟨B, 0, none⟩), .int .i64 k] wr fun e w' => e = .returned (.tuple #[.int .i64 ((ulk s.1 k).getD 0), .bool (ulk s.1 k).isSome]) ∧ Below wr.heap.size wr w' := by
  obtain ⟨F, h1, h2, h3, h4, h5⟩ := h.out
  exact get_u h1.r k hk
theorem pl_rget (h : PlJ w wr B X U s s a c b d) (k : Int) : Calls Try.prog 11 #[.agg #[bka a c s, bkb b d s], .int .i64 k] wr fun e w' => e = .returned (.tuple #[.int .i64 ((ulk s.1 k).getD 0), .bool (ulk s.1 k).isSome]) ∧ Below wr.heap.size wr w' := by
  obtain ⟨F, h1, ⟨v, u, e, hv, hu⟩, h3, h4, h5⟩ := h.out
  cases e
  exact r16get _ _ s.1 k wr hv.1 ⟨_, _, _, rfl⟩ h1.r.lens.1
theorem pl_len (h : PlK w wr B X U s p q x S) : Calls Try.prog 12 #[.pointer (some ⟨B, 0, none⟩)] wr fun e w' => e = .returned (.int .i64 (s.1.length : Int)) ∧ Below wr.heap.size wr w' := by
  obtain ⟨F, h1, h2, h3, h4, h5⟩ := h.out
  exact len_r h1.r
theorem pl_depth (h : PlK w wr B X U s p q x S) : Calls Try.prog 13 #[.pointer (some ⟨B, 0, none⟩)] wr fun e w' => e = .returned (.int .i64 (s.2.length : Int)) ∧ w' = wr := by
  obtain ⟨F, h1, h2, h3, h4, h5⟩ := h.out
  exact depth_r h1.r
theorem PlK.lens (h : PlK w wr B X U s p q x S) : s.1.length ≤ 1000000 ∧ s.2.length ≤ 64 := by
  obtain ⟨F, h1, h2, h3, h4, h5⟩ := h.out
  exact h1.r.lens
end
end Go.Proofs.Ytmhfgkkiplencaa
