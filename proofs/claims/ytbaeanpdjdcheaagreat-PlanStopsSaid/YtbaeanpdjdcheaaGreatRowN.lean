/-
  Slices of structs of a number and a slice of numbers, as arguments: what the walk is told of them. No Go function is walked here.
-/
import Derived.Test.YtbaeanpdjdcheaaGreatRowA
namespace Go.RowsIn
open Go.ChangeShapes Go.WideShapes Go.ChangeAt Go.RowKit Go.Joins Go.Deep Go.WideMaps
set_option linter.unusedSimpArgs false
set_option linter.unusedVariables false

/-- A slice of structs of a number and a slice of numbers reads so. -/
def NumsS (w : World) (a : Option Addr) (l : List (Int × List Int)) : Prop := ∀ i, i < l.length → ∃ b off ra rc, a = some ⟨b, off, none⟩ ∧ w.cell? ⟨b, off + i * 2, none⟩ = some (.int .i64 (l.getD i (0, [])).1) ∧ w.cell? ⟨b, off + i * 2 + 1, none⟩ = some (.slice ra (l.getD i (0, [])).2.length rc) ∧ IntS w ra rc (l.getD i (0, [])).2 ∧ InZ (l.getD i (0, [])).1
section
variable {H : Type} {enc : TypeId × Value → H} {P : Program} {w : World}
theorem nums_in {t e : TypeId} {f0 f1 : Field} {i : TypeId} {n len cap : Nat} {a : Option Addr} {x : DataW H × List MemPlace} (ht : P.underlying t = some (.slice e)) (he : P.underlying e = some (.struct #[f0, f1])) (ce : P.cellsOf e = 2) (o0 : f0.offset = 0) (o1 : f1.offset = 1)
    (c0 : P.cellsOf f0.type = 1) (u0 : P.underlying f0.type = some (.int .i64)) (c1 : P.cellsOf f1.type = 1) (u1 : P.underlying f1.type = some (.slice i)) (ci : P.cellsOf i = 1) (hi : P.underlying i = some (.int .i64))
    (h : DataW.trod enc P w 0 (fun _ => true) true n t [.slice a len cap] = some x) :
    ∃ l : List (Int × List Int), l.length = len ∧ len ≤ maxLen ∧ NumsS w a l := by
  rcases open_slice ht h with ⟨hcs, _⟩ | ⟨x, l, c, m, n, D, Pl, hcs, _, hl, hm, hmm, _, hx⟩
  · simp at hcs
    obtain ⟨rfl, rfl, rfl⟩ := hcs
    exact ⟨[], rfl, Nat.zero_le _, fun i hi => by cases hi⟩
  · simp at hcs hmm
    obtain ⟨rfl, rfl, rfl⟩ := hcs
    have each : ∀ i, i < len → ∃ p : Int × List Int, ∃ ra rc, w.cell? (x.add (i * 2)) = some (.int .i64 p.1) ∧ w.cell? (x.add (i * 2 + 1)) = some (.slice ra p.2.length rc) ∧ IntS w ra rc p.2 ∧ InZ p.1 := fun i hi' => by
      obtain ⟨cs', h1, h2⟩ := hx i (by omega)
      rw [ce] at h1
      obtain ⟨_, hlen, hcell⟩ := World.cells?_some h1
      obtain ⟨y0, y1, k, _, _, t0, t1⟩ := trod_struct2 he h2
      match cs', hlen with
      | [v0, v1], _ =>
        rw [o0, c0] at t0
        rw [o1, c1] at t1
        obtain ⟨z0, rfl, r0⟩ := int_in u0 t0
        have t1' : DataW.trod enc P w 0 (fun _ => true) true k f1.type [v1] = some y1 := t1
        obtain ⟨ra, rl, rc, rfl⟩ : ∃ ra rl rc, v1 = .slice ra rl rc := by
          rcases open_slice u1 t1' with ⟨e1, _⟩ | ⟨_, _, _, _, _, _, _, e1, _⟩
          · simp at e1; exact ⟨_, _, _, e1⟩
          · simp at e1; exact ⟨_, _, _, e1⟩
        obtain ⟨L, rfl, _, hL⟩ := ints_in u1 hi ci t1'
        have e0 := hcell 0 (by omega)
        have e1 := hcell 1 (by omega)
        rw [add_add] at e0 e1
        exact ⟨(z0, L), ra, rc, by simpa using e0, by simpa using e1, hL, r0⟩
    obtain ⟨f, hf⟩ := choose_lt each
    refine ⟨(List.range len).map f, by simp, by omega, fun i hi => ?_⟩
    have hi' : i < len := by simpa using hi
    obtain ⟨b, off, spot⟩ := x
    have h0 : w.cell? ((⟨b, off, spot⟩ : Addr).add (0 * 2)) = some (.int .i64 (f 0).1) := by obtain ⟨_, _, h0, _⟩ := hf 0 (by omega); exact h0
    have hspot : spot = none := by simpa [Addr.add] using World.cell?_spot h0
    subst hspot
    obtain ⟨ra, rc, k0, k1, r0, r1⟩ := hf i hi'
    rw [add_plain] at k0 k1
    rw [getD_range _ _ hi']
    exact ⟨b, off, ra, rc, rfl, k0, k1, r0, r1⟩
end
end Go.RowsIn
