/-
  A struct of a slice of numbers and a slice of truths, as an argument: what the walk is told of it. No Go function is walked here.
-/
import Derived.Test.YtbaeanpdjdcheaaGreatRowA
import Derived.Lib.SmallJoins
namespace Go.RowsIn
open Go.ChangeShapes Go.WideShapes Go.ChangeAt Go.RowKit Go.Joins Go.Deep Go.WideMaps
set_option linter.unusedSimpArgs false
set_option linter.unusedVariables false

/-- A slice of truths reads so. -/
def BoolS (w : World) (a : Option Addr) (l : List Bool) : Prop := ∀ i, i < l.length → ∃ b off, a = some ⟨b, off, none⟩ ∧ w.cell? ⟨b, off + i, none⟩ = some (.bool (l.getD i false))
section
variable {H : Type} {enc : TypeId × Value → H} {P : Program} {w : World}
theorem bools_in {t e : TypeId} {n len cap : Nat} {a : Option Addr} {x : DataW H × List MemPlace} (ht : P.underlying t = some (.slice e)) (he : P.underlying e = some .bool) (hc : P.cellsOf e = 1)
    (h : DataW.trod enc P w 0 (fun _ => true) true n t [.slice a len cap] = some x) :
    ∃ l : List Bool, l.length = len ∧ len ≤ maxLen ∧ BoolS w a l := by
  rcases open_slice ht h with ⟨hcs, _⟩ | ⟨x, l, c, m, n, D, Pl, hcs, _, hl, hm, hmm, _, hx⟩
  · simp at hcs
    obtain ⟨rfl, rfl, rfl⟩ := hcs
    exact ⟨[], rfl, Nat.zero_le _, fun i hi => by cases hi⟩
  · simp at hcs hmm
    obtain ⟨rfl, rfl, rfl⟩ := hcs
    have each : ∀ i, i < len → ∃ z : Bool, w.cell? (x.add i) = some (.bool z) := fun i hi => by
      obtain ⟨cs', h1, h2⟩ := hx i (by omega)
      rw [hc] at h1
      obtain ⟨_, hlen, hcell⟩ := World.cells?_some h1
      match cs', hlen with
      | [v0], _ =>
        obtain ⟨z, e1, _⟩ := DataW.trod_bool he h2
        simp at e1
        subst e1
        have e0 := hcell 0 (by omega)
        rw [add_add] at e0
        exact ⟨z, by simpa using e0⟩
    obtain ⟨f, hf⟩ := choose_lt each
    refine ⟨(List.range len).map f, by simp, by omega, fun i hi => ?_⟩
    have hi' : i < len := by simpa using hi
    obtain ⟨b, off, spot⟩ := x
    have h0 := hf 0 (by omega)
    have hspot : spot = none := by simpa [Addr.add] using World.cell?_spot h0
    subst hspot
    have k0 := hf i hi'
    rw [add_plain] at k0
    rw [getD_range _ _ hi']
    exact ⟨b, off, rfl, k0⟩
theorem slice_form {t e : TypeId} {n : Nat} {v : Value} {x : DataW H × List MemPlace} (ht : P.underlying t = some (.slice e)) (h : DataW.trod enc P w 0 (fun _ => true) true n t [v] = some x) : ∃ a l c, v = .slice a l c := by
  rcases open_slice ht h with ⟨e1, _⟩ | ⟨_, _, _, _, _, _, _, e1, _⟩
  · simp at e1; exact ⟨_, _, _, e1⟩
  · simp at e1; exact ⟨_, _, _, e1⟩
theorem case_in {r : Reach} {b0 : Nat} {t i j : TypeId} {f0 f1 : Field} {v : Value} {d : DataW H} {p : List MemPlace} (hs : P.underlying t = some (.struct #[f0, f1])) (hone : oneCellFields P #[f0, f1] = true) (hC : P.cellsOf t = 2)
    (u0 : P.underlying f0.type = some (.slice i)) (hi : P.underlying i = some (.int .i64)) (ci : P.cellsOf i = 1) (u1 : P.underlying f1.type = some (.slice j)) (hj : P.underlying j = some .bool) (cj : P.cellsOf j = 1)
    (hv : Value.okWide P w r b0 t v) (h : DataW.Trod enc P w 0 (fun _ => true) true t v d p) :
    ∃ (a : Option Addr) (D : List Int) (c : Nat) (b : Option Addr) (T : List Bool) (g : Nat), v = .agg #[.slice a D.length c, .slice b T.length g] ∧ IntS w a c D ∧ BoolS w b T ∧ D.length ≤ maxLen ∧ T.length ≤ maxLen := by
  obtain ⟨v0, v1, y0, y1, n, rfl, _, _, h0, h1⟩ := open_agg2 hs hone hC hv h
  obtain ⟨a, l, c, rfl⟩ := slice_form u0 h0
  obtain ⟨b, m, g, rfl⟩ := slice_form u1 h1
  obtain ⟨D, rfl, q0, r0⟩ := ints_in u0 hi ci h0
  obtain ⟨T, rfl, q1, r1⟩ := bools_in u1 hj cj h1
  exact ⟨a, D, c, b, T, g, rfl, r0, r1, q0, q1⟩
end
end Go.RowsIn
