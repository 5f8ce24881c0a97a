/-
  What layer 9's own 'do' and 'refDo' answer over a pile's contracts. The conditions: the contracts.
-/
import Derived.Test.YtjkldjgeagociaaPilA
import Derived.Test.YtjkldjgeagociaaRefIe
import Derived.Deep.DeepCutAuto
import Derived.Deep.RegionHeld3
namespace Go.Proofs.Ytjkldjgeagociaa
open Go.RowKit
set_option linter.unusedSimpArgs false
set_option linter.unusedVariables false

/-- What a call leaves, and what it tells. -/
def paL (L : List (Int × Int)) (d x y : Int) : List (Int × Int) := if d = 0 then L ++ [(x, y)] else if d = 1 then popv L else L
def pa1 (L : List (Int × Int)) (d : Int) : Int × Int := if d = 0 then (0, 0) else peekv L
def pa2 (L : List (Int × Int)) (d : Int) : Bool := if d = 0 then true else decide (0 < L.length)

theorem d9_end (T : PilCon) {w W w1 : World} {B N n : Nat} {L : List (Int × Int)} {F F' : Nat → Prop} (hb : Below w.heap.size w W) (hN : w.heap.size ≤ N) (hN' : N < W.heap.size) (ht : Turn F W w1) (hF : ∀ j, F' j → F j ∨ W.heap.size ≤ j) (hR : T.Rep w1 B n L F') (hf : ∀ j, F j → j < w.heap.size) (a b : Value) :
    ∃ F'', T.Rep ((w1.setCell ⟨N, 0, none⟩ a).setCell ⟨N, 1, none⟩ b) B n L F'' ∧ Turn F w ((w1.setCell ⟨N, 0, none⟩ a).setCell ⟨N, 1, none⟩ b) ∧ ∀ j, F'' j → F j ∨ w.heap.size ≤ j := by
  refine ⟨F', T.turn hR (turn_one2 w1 N a b) (fun j q r => ?_), turn_set2 ((Turn.of_below hb).trans ht (fun j q => Or.inl q)) (Or.inr hN) a b, fun j q => (hF j q).imp id (fun q => Nat.le_trans hb.size q)⟩
  subst r
  rcases hF j q with q | q
  · have := hf j q; omega
  · omega
set_option maxHeartbeats 2000000 in
theorem do9 (T : PilCon) (d x y : Int) {w : World} {B n : Nat} {L : List (Int × Int)} {F : Nat → Prop} (h : T.Rep w B n L F) (hx : InR x) (hy : InR y) (hl : n < 20000) :
    Calls Try.prog 9 #[.pointer (some ⟨B, 0, none⟩), .agg #[.int .i64 d, .int .i64 x, .int .i64 y]] w fun e w' => e = .returned (.tuple #[.agg #[.int .i64 (pa1 L d).1, .int .i64 (pa1 L d).2], .bool (pa2 L d)]) ∧ ∃ F', T.Rep w' B (n + 1) (paL L d x y) F' ∧ Turn F w w' ∧ ∀ j, F' j → F j ∨ w.heap.size ≤ j := by
  have hf := T.foot h
  have hb2 := below2 w (.cells #[.int .i64 d, .int .i64 x, .int .i64 y] 32) (.cells #[.int .i64 0, .int .i64 0] 25)
  have h1 := T.below h hb2
  have N0 := Ow2.new2 w (.cells #[.int .i64 d, .int .i64 x, .int .i64 y] 32) (.int .i64 0) (.int .i64 0) 25
  have hN2 : w.heap.size + 1 < ((w.alloc (.cells #[.int .i64 d, .int .i64 x, .int .i64 y] 32)).alloc (.cells #[.int .i64 0, .int .i64 0] 25)).heap.size := by simp
  obtain ⟨x0, x1, x2⟩ : ((w.alloc (.cells #[.int .i64 d, .int .i64 x, .int .i64 y] 32)).alloc (.cells #[.int .i64 0, .int .i64 0] 25)).cell? ⟨w.heap.size, 0, none⟩ = some (.int .i64 d) ∧ ((w.alloc (.cells #[.int .i64 d, .int .i64 x, .int .i64 y] 32)).alloc (.cells #[.int .i64 0, .int .i64 0] 25)).cell? ⟨w.heap.size, 1, none⟩ = some (.int .i64 x) ∧ ((w.alloc (.cells #[.int .i64 d, .int .i64 x, .int .i64 y] 32)).alloc (.cells #[.int .i64 0, .int .i64 0] 25)).cell? ⟨w.heap.size, 2, none⟩ = some (.int .i64 y) := by refine ⟨?_, ?_, ?_⟩ <;> simp [go_sem]
  unfold pa1 pa2 paL
  by_cases h0 : d = 0
  · subst h0
    rw [if_pos rfl, if_pos rfl, if_pos rfl]
    have hc := T.push x y h1 hx hy hl
    skip
    clear h hx hy h1
    go_enter Try.func9, Try.ntmps9
    go_wp2_with fail
    refine hc.mono ?_; rintro e w1 ⟨rfl, F', hR, ht, hF⟩
    have hE := d9_end T hb2 (Nat.le_succ _) hN2 ht hF hR hf (.int .i64 0) (.int .i64 0)
    obtain ⟨⟨y0, y1, y2⟩, y3, y4⟩ := N0.turn ht (fun r => by have := hf _ r; omega)
    have o0 : ((w1.setCell ⟨w.heap.size + 1, 0, none⟩ (.int .i64 0)).setCell ⟨w.heap.size + 1, 1, none⟩ (.int .i64 0)).cell? ⟨w.heap.size + 1, 0, none⟩ = some (.int .i64 0) := (At2.put (w := w1) ⟨y0, y1, y2⟩).1
    have o1 : ((w1.setCell ⟨w.heap.size + 1, 0, none⟩ (.int .i64 0)).setCell ⟨w.heap.size + 1, 1, none⟩ (.int .i64 0)).cell? ⟨w.heap.size + 1, 1, none⟩ = some (.int .i64 0) := (At2.put (w := w1) ⟨y0, y1, y2⟩).2.1
    clear hc x0 x1 x2
    go_wp2_with fail
    exact bodyPost_ret (by simp [results, Try.results9, go_sem, o0, o1]) rfl ⟨rfl, hE⟩
  · rw [if_neg h0, if_neg h0, if_neg h0]
    by_cases h1' : d = 1
    · subst h1'
      rw [if_pos rfl]
      have hc := T.pop h1
      skip
      clear h hx hy h1
      go_enter Try.func9, Try.ntmps9
      go_wp2_with fail
      refine hc.mono ?_; rintro e w1 ⟨rfl, F', hR, ht, hF⟩
      have hE := d9_end T hb2 (Nat.le_succ _) hN2 ht hF (T.more hR (Nat.le_succ _)) hf (.int .i64 (peekv L).1) (.int .i64 (peekv L).2)
      obtain ⟨⟨y0, y1, y2⟩, y3, y4⟩ := N0.turn ht (fun r => by have := hf _ r; omega)
      have o0 : ((w1.setCell ⟨w.heap.size + 1, 0, none⟩ (.int .i64 (peekv L).1)).setCell ⟨w.heap.size + 1, 1, none⟩ (.int .i64 (peekv L).2)).cell? ⟨w.heap.size + 1, 0, none⟩ = some (.int .i64 (peekv L).1) := (At2.put (w := w1) ⟨y0, y1, y2⟩).1
      have o1 : ((w1.setCell ⟨w.heap.size + 1, 0, none⟩ (.int .i64 (peekv L).1)).setCell ⟨w.heap.size + 1, 1, none⟩ (.int .i64 (peekv L).2)).cell? ⟨w.heap.size + 1, 1, none⟩ = some (.int .i64 (peekv L).2) := (At2.put (w := w1) ⟨y0, y1, y2⟩).2.1
      clear hc x0 x1 x2
      go_wp2_with fail
      exact bodyPost_ret (by simp [results, Try.results9, go_sem, o0, o1]) rfl ⟨rfl, hE⟩
    · rw [if_neg h1']
      have hc := T.peek h1
      have HR := Lib.hid h1
      have e0 : (d == 0) = false := by simpa using h0
      have e1 : (d == 1) = false := by simpa using h1'
      clear h hx hy h1
      go_enter Try.func9, Try.ntmps9
      go_wp2_with fail
      refine hc.mono ?_; rintro e w1 ⟨rfl, hq⟩
      have hR := T.below HR.out hq; have ht := Turn.of_below (F := F) hq; have hF : ∀ j, F j → F j ∨ ((w.alloc (.cells #[.int .i64 d, .int .i64 x, .int .i64 y] 32)).alloc (.cells #[.int .i64 0, .int .i64 0] 25)).heap.size ≤ j := fun j q => Or.inl q
      have hE := d9_end T hb2 (Nat.le_succ _) hN2 ht hF (T.more hR (Nat.le_succ _)) hf (.int .i64 (peekv L).1) (.int .i64 (peekv L).2)
      obtain ⟨⟨y0, y1, y2⟩, y3, y4⟩ := N0.turn ht (fun r => by have := hf _ r; omega)
      have o0 : ((w1.setCell ⟨w.heap.size + 1, 0, none⟩ (.int .i64 (peekv L).1)).setCell ⟨w.heap.size + 1, 1, none⟩ (.int .i64 (peekv L).2)).cell? ⟨w.heap.size + 1, 0, none⟩ = some (.int .i64 (peekv L).1) := (At2.put (w := w1) ⟨y0, y1, y2⟩).1
      have o1 : ((w1.setCell ⟨w.heap.size + 1, 0, none⟩ (.int .i64 (peekv L).1)).setCell ⟨w.heap.size + 1, 1, none⟩ (.int .i64 (peekv L).2)).cell? ⟨w.heap.size + 1, 1, none⟩ = some (.int .i64 (peekv L).2) := (At2.put (w := w1) ⟨y0, y1, y2⟩).2.1
      clear hc x0 x1 x2
      go_wp2_with fail
      exact bodyPost_ret (by simp [results, Try.results9, go_sem, o0, o1]) rfl ⟨rfl, hE⟩
end Go.Proofs.Ytjkldjgeagociaa
