/-
  Slices of structs of two numbers and two truths with their room, and one such struct, as arguments: what the walk is told of them. No Go function is walked here.
-/
import Derived.Test.YteendpdidkekkaaRowA
import Derived.Lib.SmallJoins
namespace Go.RowsIn
open Go.ChangeShapes Go.WideShapes Go.ChangeAt Go.RowKit Go.Joins Go.Deep Go.WideMaps
set_option linter.unusedSimpArgs false
set_option linter.unusedVariables false

abbrev QB := Int × Int × Bool × Bool
abbrev zQB : QB := (0, 0, false, false)
/-- A slice of structs of two numbers and two truths reads so. -/
def QuadB (w : World) (a : Option Addr) (c : Nat) (l : List QB) : Prop := l.length ≤ c ∧ (a = none → c = 0) ∧ ∀ i, i < l.length → ∃ b off, a = some ⟨b, off, none⟩ ∧ w.cell? ⟨b, off + i * 4, none⟩ = some (.int .i64 (l.getD i zQB).1) ∧ w.cell? ⟨b, off + i * 4 + 1, none⟩ = some (.int .i64 (l.getD i zQB).2.1) ∧ w.cell? ⟨b, off + i * 4 + 2, none⟩ = some (.bool (l.getD i zQB).2.2.1) ∧ w.cell? ⟨b, off + i * 4 + 3, none⟩ = some (.bool (l.getD i zQB).2.2.2) ∧ InZ (l.getD i zQB).1 ∧ InZ (l.getD i zQB).2.1
section
variable {H : Type} {enc : TypeId × Value → H} {P : Program} {w : World}
theorem quadb_in {t e : TypeId} {f0 f1 f2 f3 : Field} {n len cap : Nat} {a : Option Addr} {x : DataW H × List MemPlace} (ht : P.underlying t = some (.slice e)) (he : P.underlying e = some (.struct #[f0, f1, f2, f3]))
    (ce : P.cellsOf e = 4) (o0 : f0.offset = 0) (o1 : f1.offset = 1) (o2 : f2.offset = 2) (o3 : f3.offset = 3) (c0 : P.cellsOf f0.type = 1) (c1 : P.cellsOf f1.type = 1) (c2 : P.cellsOf f2.type = 1) (c3 : P.cellsOf f3.type = 1)
    (u0 : P.underlying f0.type = some (.int .i64)) (u1 : P.underlying f1.type = some (.int .i64)) (u2 : P.underlying f2.type = some .bool) (u3 : P.underlying f3.type = some .bool)
    (h : DataW.trod enc P w 0 (fun _ => true) true n t [.slice a len cap] = some x) : ∃ l : List QB, l.length = len ∧ len ≤ maxLen ∧ QuadB w a cap l := by
  have hc : len ≤ cap ∧ (a = none → cap = 0) := by
    rcases open_slice ht h with ⟨hcs, _⟩ | ⟨x, l, c, m, n, D, Pl, hcs, _, hl, hm, hmm, _, hx⟩
    · simp at hcs
      obtain ⟨rfl, rfl, rfl⟩ := hcs
      exact ⟨Nat.le_refl _, fun _ => rfl⟩
    · simp at hcs hmm
      obtain ⟨rfl, rfl, rfl⟩ := hcs
      exact ⟨by omega, fun q => (by cases q)⟩
  rcases open_slice ht h with ⟨hcs, _⟩ | ⟨x, l, c, m, n, D, Pl, hcs, _, hl, hm, hmm, _, hx⟩
  · simp at hcs
    obtain ⟨rfl, rfl, rfl⟩ := hcs
    exact ⟨[], rfl, Nat.zero_le _, hc.1, hc.2, fun i hi => by cases hi⟩
  · simp at hcs hmm
    obtain ⟨rfl, rfl, rfl⟩ := hcs
    have each : ∀ i, i < len → ∃ p : QB, w.cell? (x.add (i * 4)) = some (.int .i64 p.1) ∧ w.cell? (x.add (i * 4 + 1)) = some (.int .i64 p.2.1) ∧ w.cell? (x.add (i * 4 + 2)) = some (.bool p.2.2.1) ∧ w.cell? (x.add (i * 4 + 3)) = some (.bool p.2.2.2) ∧
        (-9223372036854775808 ≤ p.1 ∧ p.1 ≤ 9223372036854775807) ∧ (-9223372036854775808 ≤ p.2.1 ∧ p.2.1 ≤ 9223372036854775807) := fun i hi => by
      obtain ⟨cs', h1, h2⟩ := hx i (by omega)
      rw [ce] at h1
      obtain ⟨_, hlen, hcell⟩ := World.cells?_some h1
      obtain ⟨y0, y1, y2, y3, k, _, _, t0, t1, t2, t3⟩ := trod_struct4 he h2
      match cs', hlen with
      | [v0, v1, v2, v3], _ =>
        simp [o0, o1, o2, o3, c0, c1, c2, c3] at t0 t1 t2 t3
        obtain ⟨z0, rfl, r0⟩ := int_in u0 t0
        obtain ⟨z1, rfl, r1⟩ := int_in u1 t1
        obtain ⟨z2, q2, _⟩ := DataW.trod_bool u2 t2
        obtain ⟨z3, q3, _⟩ := DataW.trod_bool u3 t3
        simp at q2 q3
        subst q2
        subst q3
        have e0 := hcell 0 (by omega)
        have e1 := hcell 1 (by omega)
        have e2 := hcell 2 (by omega)
        have e3 := hcell 3 (by omega)
        rw [add_add] at e0 e1 e2 e3
        exact ⟨(z0, z1, z2, z3), by simpa using e0, by simpa using e1, by simpa using e2, by simpa using e3, r0, r1⟩
    obtain ⟨f, hf⟩ := choose_lt each
    refine ⟨(List.range len).map f, by simp, by omega, by simpa using hc.1, hc.2, fun i hi => ?_⟩
    have hi' : i < len := by simpa using hi
    obtain ⟨b, off, spot⟩ := x
    have h0 := (hf 0 (by omega)).1
    have hspot : spot = none := by simpa [Addr.add] using World.cell?_spot h0
    subst hspot
    obtain ⟨k0, k1, k2, k3, r0, r1⟩ := hf i hi'
    rw [add_plain] at k0 k1 k2 k3
    rw [getD_range _ _ hi']
    exact ⟨b, off, rfl, k0, k1, k2, k3, r0, r1⟩
end
section
variable {H : Type} {enc : TypeId × Value → H} {P : Program} {W : World} {base : Nat} {sp : Nat → Bool} {held : Bool} {q : IntKind}
theorem open_quadb {t : TypeId} {f0 f1 f2 f3 : Field} (hs : P.underlying t = some (.struct #[f0, f1, f2, f3])) (hone : oneCellFields P #[f0, f1, f2, f3] = true) (hC : P.cellsOf t = 4)
    (u0 : P.underlying f0.type = some (.int q)) (u1 : P.underlying f1.type = some (.int q)) (u2 : P.underlying f2.type = some .bool) (u3 : P.underlying f3.type = some .bool) {r : Reach} {b0 : Nat} {v : Value} {d : DataW H} {ps : List MemPlace}
    (hval : Value.okWide P W r b0 t v) (hd : DataW.Trod enc P W base sp held t v d ps) :
    ∃ (a b : Int) (c e : Bool), v = .agg #[.int q a, .int q b, .bool c, .bool e] ∧ d = .agg [.lit (.int q a), .lit (.int q b), .lit (.bool c), .lit (.bool e)] ∧ ps = [] ∧ (Lit.int q a).wf = true ∧ (Lit.int q b).wf = true := by
  obtain ⟨v0, v1, v2, v3, y0, y1, y2, y3, n, rfl, rfl, rfl, h0, h1, h2, h3⟩ := open_agg4 hs hone hC hval hd
  obtain ⟨a, ea, rfl, wa⟩ := DataW.trod_int u0 h0
  obtain ⟨b, eb, rfl, wb⟩ := DataW.trod_int u1 h1
  obtain ⟨c, ec, q2⟩ := DataW.trod_bool u2 h2
  obtain ⟨e, ee, q3⟩ := DataW.trod_bool u3 h3
  subst q2; subst q3
  simp at ea eb ec ee
  subst ea; subst eb; subst ec; subst ee
  exact ⟨a, b, c, e, rfl, rfl, rfl, wa, wb⟩
theorem shut_quadb {t : TypeId} {f0 f1 f2 f3 : Field} (hs : P.underlying t = some (.struct #[f0, f1, f2, f3])) (hone : oneCellFields P #[f0, f1, f2, f3] = true) (hC : P.cellsOf t = 4)
    (u0 : P.underlying f0.type = some (.int q)) (u1 : P.underlying f1.type = some (.int q)) (u2 : P.underlying f2.type = some .bool) (u3 : P.underlying f3.type = some .bool) {a b : Int} {c e : Bool}
    (wa : (Lit.int q a).wf = true) (wb : (Lit.int q b).wf = true) :
    DataW.Trod enc P W base sp held t (.agg #[.int q a, .int q b, .bool c, .bool e]) (.agg [.lit (.int q a), .lit (.int q b), .lit (.bool c), .lit (.bool e)]) [] :=
  shut_agg4 (y0 := (.lit (.int q a), [])) (y1 := (.lit (.int q b), [])) (y2 := (.lit (.bool c), [])) (y3 := (.lit (.bool e), [])) hs hone hC
    ⟨1, by simp [DataW.trod, u0, wa]⟩ ⟨1, by simp [DataW.trod, u1, wb]⟩ ⟨1, by simp [DataW.trod, u2, Lit.wf]⟩ ⟨1, by simp [DataW.trod, u3, Lit.wf]⟩
end
end Go.RowsIn
