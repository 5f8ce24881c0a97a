/-
  What layer 8's own 'do' answers over a table's contracts. The conditions: the contracts.
-/
import Derived.Test.YteeonglebimnlaaIntG
import Derived.Test.YteeonglebimnlaaIntM
namespace Go.Proofs.Yteeonglebimnlaa
open Go.RowKit
set_option linter.unusedSimpArgs false
set_option linter.unusedVariables false

/-- The contracts of a table of numbers. -/
abbrev TabI := TabCon Try.prog Int (fun k => .int .i64 k) InR 0 7 21 23 22 11 24 True True True
/-- What a call leaves, and what it tells. -/
def doK (K : List Int) (m d n : Int) : List Int := if d = 0 then gidK K m n else if d = 1 then K else if d = 2 then K else gcut K n
def do1 (K : List Int) (m d n : Int) : Int := if d = 0 then gidN K m n else if d = 1 then gfnd K n else if d = 2 then gkey 0 K n else ((gcut K n).length : Int)
def do2 (K : List Int) (m d n : Int) : Int := if d = 0 then gidE K m n else 0
def do3 (K : List Int) (d n : Int) : Bool := if d = 0 then false else if d = 1 then decide (n ∈ K) else if d = 2 then gin K n else false

set_option maxHeartbeats 1000000 in
theorem do8 (T : TabI) (d n m : Int) {w : World} {B : Nat} {K : List Int} {F : Nat → Prop} (h : T.Rep w B m K F) (hn : InR n) :
    Calls Try.prog 9 #[.pointer (some ⟨B, 0, none⟩), .agg #[.int .i64 d, .int .i64 n]] w fun e w' => e = .returned (.tuple #[.int .i64 (do1 K m d n), .int .i64 (do2 K m d n), .bool (do3 K d n)]) ∧ ∃ F', T.Rep w' B m (doK K m d n) F' ∧ Turn F w w' ∧ ∀ j, F' j → F j ∨ w.heap.size ≤ j := by
  have h1 := T.below h (below1 w (.cells #[.int .i64 d, .int .i64 n] 36))
  have hb := below1 w (.cells #[.int .i64 d, .int .i64 n] 36)
  obtain ⟨x0, x1, x2⟩ := At2.new w (.int .i64 d) (.int .i64 n) 36
  unfold do1 do2 do3 doK
  by_cases h0 : d = 0
  · subst h0
    rw [if_pos rfl, if_pos rfl, if_pos rfl, if_pos rfl]
    have hc := T.id n h1 hn
    clear h h1 hn
    go_enter Try.func9, Try.ntmps9
    go_wp2_with fail
    refine hc.mono ?_; rintro e w1 ⟨rfl, F', hR, ht, hF⟩
    clear x0 x1 x2
    go_wp2_with fail
    go_ret3
    exact ⟨rfl, F', hR, (Turn.of_below hb).trans ht (fun j q => Or.inl q), fun j q => (hF j q).imp id (fun q => by have := hb.size; omega)⟩
  · rw [if_neg h0, if_neg h0, if_neg h0, if_neg h0]
    by_cases h1' : d = 1
    · subst h1'
      rw [if_pos rfl, if_pos rfl, if_pos rfl]
      have hc := T.find trivial n h1 hn
      have HR := Lib.hid h1
      clear h h1 hn h0
      go_enter Try.func9, Try.ntmps9
      go_wp2_with fail
      refine hc.mono ?_; rintro e w1 ⟨rfl, hb1⟩
      clear x0 x1 x2
      go_wp2_with fail
      go_ret3
      exact ⟨rfl, F, T.below HR.out hb1, Turn.of_below (hb.trans (hb1.mono hb.size)), fun j q => Or.inl q⟩
    · rw [if_neg h1', if_neg h1', if_neg h1']
      by_cases h2 : d = 2
      · subst h2
        rw [if_pos rfl, if_pos rfl, if_pos rfl]
        have hc := T.key trivial n h1 hn
        have HR := Lib.hid h1
        clear h h1 hn h0 h1'
        go_enter Try.func9, Try.ntmps9
        go_wp2_with fail
        refine hc.mono ?_; rintro e w1 ⟨rfl, hb1⟩
        clear x0 x1 x2
        go_wp2_with fail
        go_ret3
        exact ⟨rfl, F, T.below HR.out hb1, Turn.of_below (hb.trans (hb1.mono hb.size)), fun j q => Or.inl q⟩
      · rw [if_neg h2, if_neg h2, if_neg h2]
        have e0 : (d == 0) = false := by simpa using h0
        have e1 : (d == 1) = false := by simpa using h1'
        have e2 : (d == 2) = false := by simpa using h2
        have hc := T.cut trivial n h1 hn
        clear h h1 hn h0 h1' h2
        go_enter Try.func9, Try.ntmps9
        go_wp2_with fail
        refine hc.mono ?_; rintro e w1 ⟨rfl, F', hR, ht, hF⟩
        clear x0 x1 x2
        have hl := T.len hR
        go_wp2_with fail
        refine hl.mono ?_; rintro e w2 ⟨rfl, hb2⟩
        go_wp2_with fail
        go_ret3
        exact ⟨rfl, F', T.below hR hb2, ((Turn.of_below hb).trans ht (fun j q => Or.inl q)).trans (Turn.of_below (F := F) hb2) (fun j q => Or.inl q), fun j q => (hF j q).imp id (fun q => by have := hb.size; omega)⟩

theorem TabG.turn {G F : Nat → Prop} {w w' : World} {v : Value} {K : List Int} {m : Int} (h : TabG G w v K m) (t : Turn F w w') (hd : ∀ b, G b → ¬ F b) : TabG G w' v K m := by
  obtain ⟨u, h1, ⟨a, cap, rfl, h2, h3, h4, h5⟩, ho⟩ := h
  refine ⟨_, h1, ⟨a, cap, rfl, h2, h3, h4, fun i hi => ?_⟩, fun b hb => ⟨Nat.lt_of_lt_of_le (ho b hb).1 t.size, (ho b hb).2⟩⟩
  obtain ⟨b, off, rfl, hc⟩ := h5 i hi
  exact ⟨b, off, rfl, (t.cell (a := ⟨b, off + i, none⟩) (ho b rfl).1 (hd b (ho b rfl).2)).trans hc⟩
theorem TabG.tight {G : Nat → Prop} {w : World} {v : Value} {K : List Int} {m : Int} (h : TabG G w v K m) : TabG (fun b => G b ∧ b < w.heap.size) w v K m := by
  obtain ⟨u, h1, h2, h3⟩ := h; exact ⟨u, h1, h2, fun b q => ⟨(h3 b q).1, (h3 b q).2, (h3 b q).1⟩⟩
theorem gid_is (K : List Int) (m k : Int) : tidK K m k = gidK K m k ∧ tidN K m k = gidN K m k ∧ tidE K m k = gidE K m k ∧ fndi K k = gfnd K k := ⟨rfl, rfl, rfl, rfl⟩
theorem gkey_is (K : List Int) (i : Int) : tkey K i = gkey 0 K i ∧ decide (OkI K i) = gin K i := by
  unfold tkey gkey gin
  by_cases h : OkI K i
  · have h' : 0 ≤ i ∧ i < (K.length : Int) := h
    rw [if_pos h, if_pos h', decide_eq_true h, decide_eq_true h'.1, decide_eq_true h'.2]; exact ⟨rfl, rfl⟩
  · have h' : ¬ (0 ≤ i ∧ i < (K.length : Int)) := h
    rw [if_neg h, if_neg h', decide_eq_false h]
    refine ⟨rfl, ?_⟩
    by_cases q : 0 ≤ i
    · rw [decide_eq_true q, decide_eq_false (fun r => h' ⟨q, r⟩)]; rfl
    · rw [decide_eq_false q]; rfl
end Go.Proofs.Yteeonglebimnlaa
