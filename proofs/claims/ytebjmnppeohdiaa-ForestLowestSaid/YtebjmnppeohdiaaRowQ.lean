/-
  Slices of structs of four numbers with their room, and a struct of four numbers, as arguments: what the walk is told of them. No Go function is walked here.
-/
import Derived.Test.YtebjmnppeohdiaaRowA
import Derived.Lib.SmallJoins
namespace Go.RowsIn
open Go.ChangeShapes Go.WideShapes Go.ChangeAt Go.RowKit Go.Joins Go.Deep Go.WideMaps
set_option linter.unusedSimpArgs false
set_option linter.unusedVariables false

/-- A slice of structs of four numbers reads so. -/
def QuadS (w : World) (a : Option Addr) (c : Nat) (l : List (Int × Int × Int × Int)) : Prop := l.length ≤ c ∧ (a = none → c = 0) ∧ ∀ i, i < l.length → ∃ b off, a = some ⟨b, off, none⟩ ∧ w.cell? ⟨b, off + i * 4, none⟩ = some (.int .i64 (l.getD i (0, 0, 0, 0)).1) ∧ w.cell? ⟨b, off + i * 4 + 1, none⟩ = some (.int .i64 (l.getD i (0, 0, 0, 0)).2.1) ∧ w.cell? ⟨b, off + i * 4 + 2, none⟩ = some (.int .i64 (l.getD i (0, 0, 0, 0)).2.2.1) ∧ w.cell? ⟨b, off + i * 4 + 3, none⟩ = some (.int .i64 (l.getD i (0, 0, 0, 0)).2.2.2) ∧ InZ (l.getD i (0, 0, 0, 0)).1 ∧ InZ (l.getD i (0, 0, 0, 0)).2.1 ∧ InZ (l.getD i (0, 0, 0, 0)).2.2.1 ∧ InZ (l.getD i (0, 0, 0, 0)).2.2.2
section
variable {H : Type} {enc : TypeId × Value → H} {P : Program} {w : World}
theorem quadc_in {t e : TypeId} {f0 f1 f2 f3 : Field} {n len cap : Nat} {a : Option Addr} {x : DataW H × List MemPlace} (ht : P.underlying t = some (.slice e)) (he : P.underlying e = some (.struct #[f0, f1, f2, f3]))
    (ce : P.cellsOf e = 4) (o0 : f0.offset = 0) (o1 : f1.offset = 1) (o2 : f2.offset = 2) (o3 : f3.offset = 3) (c0 : P.cellsOf f0.type = 1) (c1 : P.cellsOf f1.type = 1) (c2 : P.cellsOf f2.type = 1) (c3 : P.cellsOf f3.type = 1)
    (u0 : P.underlying f0.type = some (.int .i64)) (u1 : P.underlying f1.type = some (.int .i64)) (u2 : P.underlying f2.type = some (.int .i64)) (u3 : P.underlying f3.type = some (.int .i64))
    (h : DataW.trod enc P w 0 (fun _ => true) true n t [.slice a len cap] = some x) : ∃ l : List (Int × Int × Int × Int), l.length = len ∧ len ≤ maxLen ∧ QuadS w a cap l := by
  have hc : len ≤ cap ∧ (a = none → cap = 0) := by
    rcases open_slice ht h with ⟨hcs, _⟩ | ⟨x, l, c, m, n, D, Pl, hcs, _, hl, hm, hmm, _, hx⟩
    · simp at hcs
      obtain ⟨rfl, rfl, rfl⟩ := hcs
      exact ⟨Nat.le_refl _, fun _ => rfl⟩
    · simp at hcs hmm
      obtain ⟨rfl, rfl, rfl⟩ := hcs
      exact ⟨by omega, fun q => (by cases q)⟩
  obtain ⟨l, h1, h2, h3⟩ := quads_in ht he ce o0 o1 o2 o3 c0 c1 c2 c3 u0 u1 u2 u3 h
  refine ⟨l, h1, h2, by rw [h1]; exact hc.1, hc.2, fun i hi => ?_⟩
  obtain ⟨b, off, k1, k2, k3, k4, k5, r1, r2, r3, r4⟩ := h3 i hi
  exact ⟨b, off, k1, k2, k3, k4, k5, r1, r2, r3, r4⟩
end
section
variable {H : Type} {enc : TypeId × Value → H} {P : Program} {W : World} {base : Nat} {sp : Nat → Bool} {held : Bool} {q : IntKind}
theorem open_quad {t : TypeId} {f0 f1 f2 f3 : Field} (hs : P.underlying t = some (.struct #[f0, f1, f2, f3])) (hone : oneCellFields P #[f0, f1, f2, f3] = true) (hC : P.cellsOf t = 4)
    (u0 : P.underlying f0.type = some (.int q)) (u1 : P.underlying f1.type = some (.int q)) (u2 : P.underlying f2.type = some (.int q)) (u3 : P.underlying f3.type = some (.int q)) {r : Reach} {b0 : Nat} {v : Value} {d : DataW H} {ps : List MemPlace}
    (hval : Value.okWide P W r b0 t v) (hd : DataW.Trod enc P W base sp held t v d ps) :
    ∃ a b c e : Int, v = .agg #[.int q a, .int q b, .int q c, .int q e] ∧ d = .agg [.lit (.int q a), .lit (.int q b), .lit (.int q c), .lit (.int q e)] ∧ ps = [] ∧ (Lit.int q a).wf = true ∧ (Lit.int q b).wf = true ∧ (Lit.int q c).wf = true ∧ (Lit.int q e).wf = true := by
  obtain ⟨v0, v1, v2, v3, y0, y1, y2, y3, n, rfl, rfl, rfl, h0, h1, h2, h3⟩ := open_agg4 hs hone hC hval hd
  obtain ⟨a, ea, rfl, wa⟩ := DataW.trod_int u0 h0
  obtain ⟨b, eb, rfl, wb⟩ := DataW.trod_int u1 h1
  obtain ⟨c, ec, rfl, wc⟩ := DataW.trod_int u2 h2
  obtain ⟨e, ee, rfl, we⟩ := DataW.trod_int u3 h3
  simp at ea eb ec ee
  subst ea; subst eb; subst ec; subst ee
  exact ⟨a, b, c, e, rfl, rfl, rfl, wa, wb, wc, we⟩
theorem shut_quad {t : TypeId} {f0 f1 f2 f3 : Field} (hs : P.underlying t = some (.struct #[f0, f1, f2, f3])) (hone : oneCellFields P #[f0, f1, f2, f3] = true) (hC : P.cellsOf t = 4)
    (u0 : P.underlying f0.type = some (.int q)) (u1 : P.underlying f1.type = some (.int q)) (u2 : P.underlying f2.type = some (.int q)) (u3 : P.underlying f3.type = some (.int q)) {a b c e : Int}
    (wa : (Lit.int q a).wf = true) (wb : (Lit.int q b).wf = true) (wc : (Lit.int q c).wf = true) (we : (Lit.int q e).wf = true) :
    DataW.Trod enc P W base sp held t (.agg #[.int q a, .int q b, .int q c, .int q e]) (.agg [.lit (.int q a), .lit (.int q b), .lit (.int q c), .lit (.int q e)]) [] :=
  shut_agg4 (y0 := (.lit (.int q a), [])) (y1 := (.lit (.int q b), [])) (y2 := (.lit (.int q c), [])) (y3 := (.lit (.int q e), [])) hs hone hC
    ⟨1, by simp [DataW.trod, u0, wa]⟩ ⟨1, by simp [DataW.trod, u1, wb]⟩ ⟨1, by simp [DataW.trod, u2, wc]⟩ ⟨1, by simp [DataW.trod, u3, we]⟩
end
end Go.RowsIn
