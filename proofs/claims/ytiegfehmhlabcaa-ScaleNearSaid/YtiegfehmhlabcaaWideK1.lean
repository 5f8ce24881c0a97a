/-
  Plain words: nought as a whole number of the document, gavelkindref02's Of, blocks that are stored to. No conditions.
-/
import Derived.Test.YtiegfehmhlabcaaWideJ0
import Derived.Test.YtiegfehmhlabcaaWideF2
namespace Go.Proofs.Ytiegfehmhlabcaa
open Go.RowKit
set_option linter.unusedSimpArgs false
set_option linter.unusedVariables false

theorem big_nul (w : World) : Big w (.agg #[.bool false, .slice none 0 0]) 0 := by
  refine ⟨.slice none 0 0, rfl, none, 0, ?_, ?_, ?_, ?_⟩
  · simp [digs_zero]
  · simp [digs_zero]
  · simp
  · simp [Reads, digs_zero]
theorem wof_w {x : Int} (hx : InV x) (w : World) :
    Calls Try.prog 7 #[.agg #[.int .i64 (vhi x), .int .u64 (vlo x)]] w fun e w' => ∃ a c, e = .returned (.agg #[.bool (decide (x < 0)), .slice a (digs x.natAbs).length c]) ∧
      Big w' (.agg #[.bool (decide (x < 0)), .slice a (digs x.natAbs).length c]) x ∧ Below w.heap.size w w' := by
  refine (wof_v hx w).mono ?_
  rintro e w' ⟨u, rfl, hu, hb⟩
  obtain ⟨a, c, rfl⟩ := hu.form
  exact ⟨a, c, rfl, hu, hb⟩

theorem Big.set {w : World} {v p q : Value} {x : Int} {B : Nat} {s : Bool} {a : Option Addr} {l c : Nat} (h : Big w v x) (h0 : At2 w B (.bool s) (.slice a l c)) :
    Big ((w.setCell ⟨B, 0, none⟩ p).setCell ⟨B, 1, none⟩ q) v x := h.set2 h0.1 h0.2.1
theorem Keeps.of4 {w0 w : World} {a b c d : Nat × Value × Value} (h : Below w0.heap.size w0 w) (ha : At2 w a.1 a.2.1 a.2.2) (hb : At2 w b.1 b.2.1 b.2.2) (hc : At2 w c.1 c.2.1 c.2.2) (hd : At2 w d.1 d.2.1 d.2.2) : Keeps w0 w [a, b, c, d] := by
  refine ⟨h, fun x hx => ?_⟩
  simp at hx
  rcases hx with rfl | rfl | rfl | rfl <;> assumption
theorem Keeps.seven {w0 w : World} {a b c d e f g : Nat × Value × Value} (h : Keeps w0 w [a, b, c, d, e, f, g]) :
    w.cell? ⟨a.1, 0, none⟩ = some a.2.1 ∧ w.cell? ⟨a.1, 1, none⟩ = some a.2.2 ∧ w.cell? ⟨b.1, 0, none⟩ = some b.2.1 ∧ w.cell? ⟨b.1, 1, none⟩ = some b.2.2 ∧
    w.cell? ⟨c.1, 0, none⟩ = some c.2.1 ∧ w.cell? ⟨c.1, 1, none⟩ = some c.2.2 ∧ w.cell? ⟨d.1, 0, none⟩ = some d.2.1 ∧ w.cell? ⟨d.1, 1, none⟩ = some d.2.2 ∧
    w.cell? ⟨e.1, 0, none⟩ = some e.2.1 ∧ w.cell? ⟨e.1, 1, none⟩ = some e.2.2 ∧ w.cell? ⟨f.1, 0, none⟩ = some f.2.1 ∧ w.cell? ⟨f.1, 1, none⟩ = some f.2.2 ∧
    w.cell? ⟨g.1, 0, none⟩ = some g.2.1 ∧ w.cell? ⟨g.1, 1, none⟩ = some g.2.2 := by
  have ha := h.2 a (by simp); have hb := h.2 b (by simp); have hc := h.2 c (by simp); have hd := h.2 d (by simp); have he := h.2 e (by simp); have hf := h.2 f (by simp); have hg := h.2 g (by simp)
  exact ⟨ha.1, ha.2.1, hb.1, hb.2.1, hc.1, hc.2.1, hd.1, hd.2.1, he.1, he.2.1, hf.1, hf.2.1, hg.1, hg.2.1⟩
end Go.Proofs.Ytiegfehmhlabcaa
