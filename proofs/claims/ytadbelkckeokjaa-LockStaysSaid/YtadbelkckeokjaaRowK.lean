/-
  Slices of structs of two numbers with their room, and a struct of two numbers, as arguments: what the walk is told of them. No Go function is walked here.
-/
import Derived.Test.YtadbelkckeokjaaRowA
import Derived.Lib.SmallJoins
namespace Go.RowsIn
open Go.ChangeShapes Go.WideShapes Go.ChangeAt Go.RowKit Go.Joins Go.Deep Go.WideMaps
set_option linter.unusedSimpArgs false
set_option linter.unusedVariables false

/-- A slice of structs of two numbers reads so. -/
def PairS (w : World) (a : Option Addr) (c : Nat) (l : List (Int × Int)) : Prop := l.length ≤ c ∧ (a = none → c = 0) ∧ ∀ i, i < l.length → ∃ b off, a = some ⟨b, off, none⟩ ∧ w.cell? ⟨b, off + i * 2, none⟩ = some (.int .i64 (l.getD i (0, 0)).1) ∧ w.cell? ⟨b, off + i * 2 + 1, none⟩ = some (.int .i64 (l.getD i (0, 0)).2) ∧ InZ (l.getD i (0, 0)).1 ∧ InZ (l.getD i (0, 0)).2
section
variable {H : Type} {enc : TypeId × Value → H} {P : Program} {w : World}
theorem pairc_in {t e : TypeId} {f0 f1 : Field} {n len cap : Nat} {a : Option Addr} {x : DataW H × List MemPlace} (ht : P.underlying t = some (.slice e)) (he : P.underlying e = some (.struct #[f0, f1]))
    (ce : P.cellsOf e = 2) (o0 : f0.offset = 0) (o1 : f1.offset = 1) (c0 : P.cellsOf f0.type = 1) (c1 : P.cellsOf f1.type = 1) (u0 : P.underlying f0.type = some (.int .i64)) (u1 : P.underlying f1.type = some (.int .i64))
    (h : DataW.trod enc P w 0 (fun _ => true) true n t [.slice a len cap] = some x) : ∃ l : List (Int × Int), l.length = len ∧ len ≤ maxLen ∧ PairS w a cap l := by
  have hc : len ≤ cap ∧ (a = none → cap = 0) := by
    rcases open_slice ht h with ⟨hcs, _⟩ | ⟨x, l, c, m, n, D, Pl, hcs, _, hl, hm, hmm, _, hx⟩
    · simp at hcs
      obtain ⟨rfl, rfl, rfl⟩ := hcs
      exact ⟨Nat.le_refl _, fun _ => rfl⟩
    · simp at hcs hmm
      obtain ⟨rfl, rfl, rfl⟩ := hcs
      exact ⟨by omega, fun q => (by cases q)⟩
  obtain ⟨l, h1, h2, h3⟩ := pairs_in ht he ce o0 o1 c0 c1 u0 u1 h
  refine ⟨l, h1, h2, by rw [h1]; exact hc.1, hc.2, fun i hi => ?_⟩
  obtain ⟨b, off, k1, k2, k3, r1, r2⟩ := h3 i hi
  exact ⟨b, off, k1, k2, k3, r1, r2⟩
end
section
variable {H : Type} {enc : TypeId × Value → H} {P : Program} {W : World} {base : Nat} {sp : Nat → Bool} {held : Bool} {q : IntKind}
theorem open_two {t : TypeId} {f0 f1 : Field} (hs : P.underlying t = some (.struct #[f0, f1])) (hone : oneCellFields P #[f0, f1] = true) (hC : P.cellsOf t = 2)
    (u0 : P.underlying f0.type = some (.int q)) (u1 : P.underlying f1.type = some (.int q)) {r : Reach} {b0 : Nat} {v : Value} {d : DataW H} {ps : List MemPlace}
    (hval : Value.okWide P W r b0 t v) (hd : DataW.Trod enc P W base sp held t v d ps) :
    ∃ a b : Int, v = .agg #[.int q a, .int q b] ∧ d = .agg [.lit (.int q a), .lit (.int q b)] ∧ ps = [] ∧ (Lit.int q a).wf = true ∧ (Lit.int q b).wf = true := by
  obtain ⟨v0, v1, y0, y1, n, rfl, rfl, rfl, h0, h1⟩ := open_agg2 hs hone hC hval hd
  obtain ⟨a, ea, rfl, wa⟩ := DataW.trod_int u0 h0
  obtain ⟨b, eb, rfl, wb⟩ := DataW.trod_int u1 h1
  simp at ea eb
  subst ea; subst eb
  exact ⟨a, b, rfl, rfl, rfl, wa, wb⟩
theorem shut_two {t : TypeId} {f0 f1 : Field} (hs : P.underlying t = some (.struct #[f0, f1])) (hone : oneCellFields P #[f0, f1] = true) (hC : P.cellsOf t = 2)
    (u0 : P.underlying f0.type = some (.int q)) (u1 : P.underlying f1.type = some (.int q)) {a b : Int} (wa : (Lit.int q a).wf = true) (wb : (Lit.int q b).wf = true) :
    DataW.Trod enc P W base sp held t (.agg #[.int q a, .int q b]) (.agg [.lit (.int q a), .lit (.int q b)]) [] :=
  shut_agg2 (y0 := (.lit (.int q a), [])) (y1 := (.lit (.int q b), [])) hs hone hC ⟨1, by simp [DataW.trod, u0, wa]⟩ ⟨1, by simp [DataW.trod, u1, wb]⟩
end
end Go.RowsIn
