/-
  Slices of structs of four numbers and a struct of two numbers, with their room, and one such struct, as arguments: what the walk is told of them. No Go function is walked here.
-/
import Derived.Test.YtogckefmmjbapaaRowA
import Derived.Lib.SmallJoins
namespace Go.RowsIn
open Go.ChangeShapes Go.WideShapes Go.ChangeAt Go.RowKit Go.Joins Go.Deep Go.WideMaps
set_option linter.unusedSimpArgs false
set_option linter.unusedVariables false

abbrev Q6 := Int × Int × Int × Int × Int × Int
abbrev zQ6 : Q6 := (0, 0, 0, 0, 0, 0)
/-- A slice of structs of four numbers and a struct of two reads so. -/
def SixS (w : World) (a : Option Addr) (c : Nat) (l : List Q6) : Prop := l.length ≤ c ∧ (a = none → c = 0) ∧ ∀ i, i < l.length → ∃ b off, a = some ⟨b, off, none⟩ ∧ w.cell? ⟨b, off + i * 6, none⟩ = some (.int .i64 (l.getD i zQ6).1) ∧ w.cell? ⟨b, off + i * 6 + 1, none⟩ = some (.int .i64 (l.getD i zQ6).2.1) ∧ w.cell? ⟨b, off + i * 6 + 2, none⟩ = some (.int .i64 (l.getD i zQ6).2.2.1) ∧ w.cell? ⟨b, off + i * 6 + 3, none⟩ = some (.int .i64 (l.getD i zQ6).2.2.2.1) ∧ w.cell? ⟨b, off + i * 6 + 4, none⟩ = some (.int .i64 (l.getD i zQ6).2.2.2.2.1) ∧ w.cell? ⟨b, off + i * 6 + 5, none⟩ = some (.int .i64 (l.getD i zQ6).2.2.2.2.2) ∧ InZ (l.getD i zQ6).1 ∧ InZ (l.getD i zQ6).2.1 ∧ InZ (l.getD i zQ6).2.2.1 ∧ InZ (l.getD i zQ6).2.2.2.1 ∧ InZ (l.getD i zQ6).2.2.2.2.1 ∧ InZ (l.getD i zQ6).2.2.2.2.2
section
variable {H : Type} {enc : TypeId × Value → H} {P : Program} {w : World} {base : Nat} {sp : Nat → Bool} {held : Bool}
theorem trod_struct5 {t : TypeId} {f0 f1 f2 f3 f4 : Field} {fuel : Nat} {cs : List Value} {x : DataW H × List MemPlace} (ht : P.underlying t = some (.struct #[f0, f1, f2, f3, f4])) (h : DataW.trod enc P w base sp held fuel t cs = some x) :
    ∃ y0 y1 y2 y3 y4 n, x = (.agg [y0.1, y1.1, y2.1, y3.1, y4.1], y0.2 ++ (y1.2 ++ (y2.2 ++ (y3.2 ++ y4.2)))) ∧ cs.length = P.cellsOf t ∧ DataW.trod enc P w base sp held n f0.type ((cs.drop f0.offset).take (P.cellsOf f0.type)) = some y0 ∧
      DataW.trod enc P w base sp held n f1.type ((cs.drop f1.offset).take (P.cellsOf f1.type)) = some y1 ∧ DataW.trod enc P w base sp held n f2.type ((cs.drop f2.offset).take (P.cellsOf f2.type)) = some y2 ∧
      DataW.trod enc P w base sp held n f3.type ((cs.drop f3.offset).take (P.cellsOf f3.type)) = some y3 ∧ DataW.trod enc P w base sp held n f4.type ((cs.drop f4.offset).take (P.cellsOf f4.type)) = some y4 := by
  obtain ⟨xs, n, _, rfl, hl, hlen, hf⟩ := DataW.trod_struct ht h
  match xs, hlen with
  | [y0, y1, y2, y3, y4], _ => exact ⟨y0, y1, y2, y3, y4, n, by simp, hl, by simpa using hf 0 f0 rfl, by simpa using hf 1 f1 rfl, by simpa using hf 2 f2 rfl, by simpa using hf 3 f3 rfl, by simpa using hf 4 f4 rfl⟩
/-- What is wanted of the two types. -/
structure SixT (P : Program) (e i : TypeId) : Prop where
  six : ∃ f0 f1 f2 f3 f4 : Field, P.underlying e = some (.struct #[f0, f1, f2, f3, f4]) ∧ f0.offset = 0 ∧ f1.offset = 1 ∧ f2.offset = 2 ∧ f3.offset = 3 ∧ f4.offset = 4 ∧ P.cellsOf f0.type = 1 ∧ P.cellsOf f1.type = 1 ∧ P.cellsOf f2.type = 1 ∧ P.cellsOf f3.type = 1 ∧
    P.underlying f0.type = some (.int .i64) ∧ P.underlying f1.type = some (.int .i64) ∧ P.underlying f2.type = some (.int .i64) ∧ P.underlying f3.type = some (.int .i64) ∧ f4.type = i
  two : ∃ g0 g1 : Field, P.underlying i = some (.struct #[g0, g1]) ∧ g0.offset = 0 ∧ g1.offset = 1 ∧ P.cellsOf g0.type = 1 ∧ P.cellsOf g1.type = 1 ∧ P.underlying g0.type = some (.int .i64) ∧ P.underlying g1.type = some (.int .i64)
  ce : P.cellsOf e = 6
  ci : P.cellsOf i = 2
theorem six_one {e i : TypeId} (T : SixT P e i) {n : Nat} {cs : List Value} {x : DataW H × List MemPlace} (hl : cs.length = 6) (h : DataW.trod enc P w base sp held n e cs = some x) :
    ∃ p : Q6, cs = [.int .i64 p.1, .int .i64 p.2.1, .int .i64 p.2.2.1, .int .i64 p.2.2.2.1, .int .i64 p.2.2.2.2.1, .int .i64 p.2.2.2.2.2] ∧
      x = (.agg [.lit (.int .i64 p.1), .lit (.int .i64 p.2.1), .lit (.int .i64 p.2.2.1), .lit (.int .i64 p.2.2.2.1), .agg [.lit (.int .i64 p.2.2.2.2.1), .lit (.int .i64 p.2.2.2.2.2)]], []) ∧
      (Lit.int .i64 p.1).wf = true ∧ (Lit.int .i64 p.2.1).wf = true ∧ (Lit.int .i64 p.2.2.1).wf = true ∧ (Lit.int .i64 p.2.2.2.1).wf = true ∧ (Lit.int .i64 p.2.2.2.2.1).wf = true ∧ (Lit.int .i64 p.2.2.2.2.2).wf = true := by
  obtain ⟨f0, f1, f2, f3, f4, he, o0, o1, o2, o3, o4, c0, c1, c2, c3, u0, u1, u2, u3, rfl⟩ := T.six
  obtain ⟨g0, g1, hi, q0, q1, d0, d1, v0, v1⟩ := T.two
  obtain ⟨y0, y1, y2, y3, y4, k, rfl, _, t0, t1, t2, t3, t4⟩ := trod_struct5 he h
  match cs, hl with
  | [x0, x1, x2, x3, x4, x5], _ =>
    simp only [o0, o1, o2, o3, o4, c0, c1, c2, c3, T.ci, List.drop_succ_cons, List.drop_zero, List.take_succ_cons, List.take_zero] at t0 t1 t2 t3 t4
    obtain ⟨z4, z5, k', rfl, _, s0, s1⟩ := trod_struct2 hi t4
    simp only [q0, q1, d0, d1, List.drop_succ_cons, List.drop_zero, List.take_succ_cons, List.take_zero] at s0 s1
    obtain ⟨a, ea, rfl, wa⟩ := DataW.trod_int u0 t0
    obtain ⟨b, eb, rfl, wb⟩ := DataW.trod_int u1 t1
    obtain ⟨c, ec, rfl, wc⟩ := DataW.trod_int u2 t2
    obtain ⟨d, ed, rfl, wd⟩ := DataW.trod_int u3 t3
    obtain ⟨m, em, rfl, wm⟩ := DataW.trod_int v0 s0
    obtain ⟨n, en, rfl, wn⟩ := DataW.trod_int v1 s1
    simp at ea eb ec ed em en
    subst ea eb ec ed em en
    exact ⟨(a, b, c, d, m, n), rfl, rfl, wa, wb, wc, wd, wm, wn⟩
theorem sixs_in {t e i : TypeId} {n len cap : Nat} {a : Option Addr} {x : DataW H × List MemPlace} (ht : P.underlying t = some (.slice e)) (T : SixT P e i)
    (h : DataW.trod enc P w 0 (fun _ => true) true n t [.slice a len cap] = some x) : ∃ l : List Q6, l.length = len ∧ len ≤ maxLen ∧ SixS w a cap l := by
  rcases open_slice ht h with ⟨hcs, _⟩ | ⟨x, l, c, m, n, D, Pl, hcs, _, hl, hm, hmm, _, hx⟩
  · simp at hcs
    obtain ⟨rfl, rfl, rfl⟩ := hcs
    exact ⟨[], rfl, Nat.zero_le _, Nat.le_refl _, fun _ => rfl, fun i hi => by cases hi⟩
  · simp at hcs hmm
    obtain ⟨rfl, rfl, rfl⟩ := hcs
    have each : ∀ i, i < len → ∃ p : Q6, w.cell? (x.add (i * 6)) = some (.int .i64 p.1) ∧ w.cell? (x.add (i * 6 + 1)) = some (.int .i64 p.2.1) ∧ w.cell? (x.add (i * 6 + 2)) = some (.int .i64 p.2.2.1) ∧ w.cell? (x.add (i * 6 + 3)) = some (.int .i64 p.2.2.2.1) ∧ w.cell? (x.add (i * 6 + 4)) = some (.int .i64 p.2.2.2.2.1) ∧ w.cell? (x.add (i * 6 + 5)) = some (.int .i64 p.2.2.2.2.2) ∧ InZ p.1 ∧ InZ p.2.1 ∧ InZ p.2.2.1 ∧ InZ p.2.2.2.1 ∧ InZ p.2.2.2.2.1 ∧ InZ p.2.2.2.2.2 := fun i hi => by
      obtain ⟨cs', h1, h2⟩ := hx i (by omega)
      rw [T.ce] at h1
      obtain ⟨_, hlen, hcell⟩ := World.cells?_some h1
      obtain ⟨p, rfl, _, r0, r1, r2, r3, r4, r5⟩ := six_one T hlen h2
      have e0 := hcell 0 (by omega)
      have e1 := hcell 1 (by omega)
      have e2 := hcell 2 (by omega)
      have e3 := hcell 3 (by omega)
      have e4 := hcell 4 (by omega)
      have e5 := hcell 5 (by omega)
      rw [add_add] at e0 e1 e2 e3 e4 e5
      exact ⟨p, by simpa using e0, by simpa using e1, by simpa using e2, by simpa using e3, by simpa using e4, by simpa using e5, inr_of r0, inr_of r1, inr_of r2, inr_of r3, inr_of r4, inr_of r5⟩
    obtain ⟨f, hf⟩ := choose_lt each
    refine ⟨(List.range len).map f, by simp, by omega, by simp; omega, fun q => (by cases q), fun i hi => ?_⟩
    have hi' : i < len := by simpa using hi
    obtain ⟨b, off, spot⟩ := x
    have h0 := (hf 0 (by omega)).1
    have hspot : spot = none := by simpa [Addr.add] using World.cell?_spot h0
    subst hspot
    obtain ⟨k0, k1, k2, k3, k4, k5, r0, r1, r2, r3, r4, r5⟩ := hf i hi'
    rw [add_plain] at k0 k1 k2 k3 k4 k5
    rw [getD_range _ _ hi']
    exact ⟨b, off, rfl, k0, k1, k2, k3, k4, k5, r0, r1, r2, r3, r4, r5⟩
theorem open_six {e i : TypeId} (T : SixT P e i) {r : Reach} {b0 : Nat} {v : Value} {d : DataW H} {ps : List MemPlace} (hval : Value.okWide P w r b0 e v) (hd : DataW.Trod enc P w base sp held e v d ps) :
    ∃ a b c k m n : Int, v = .agg #[.int .i64 a, .int .i64 b, .int .i64 c, .int .i64 k, .int .i64 m, .int .i64 n] ∧ d = .agg [.lit (.int .i64 a), .lit (.int .i64 b), .lit (.int .i64 c), .lit (.int .i64 k), .agg [.lit (.int .i64 m), .lit (.int .i64 n)]] ∧ ps = [] ∧
      (Lit.int .i64 a).wf = true ∧ (Lit.int .i64 b).wf = true ∧ (Lit.int .i64 c).wf = true ∧ (Lit.int .i64 k).wf = true ∧ (Lit.int .i64 m).wf = true ∧ (Lit.int .i64 n).wf = true := by
  obtain ⟨f0, f1, f2, f3, f4, he, -⟩ := T.six
  obtain ⟨cs, rfl, hsz⟩ := okWide_struct he hval
  obtain ⟨fuel, hf⟩ := hd
  obtain ⟨p, hc, hx, r0, r1, r2, r3, r4, r5⟩ := six_one T (cs := cs.toList) (by simpa using hsz.trans T.ce) (by simpa [Value.cells] using hf)
  obtain ⟨l⟩ := cs
  simp only at hc
  subst hc
  simp only [Prod.mk.injEq] at hx
  exact ⟨_, _, _, _, _, _, rfl, hx.1, hx.2, r0, r1, r2, r3, r4, r5⟩
theorem shut_six {e i : TypeId} (T : SixT P e i) {a b c k m n : Int} (wa : (Lit.int .i64 a).wf = true) (wb : (Lit.int .i64 b).wf = true) (wc : (Lit.int .i64 c).wf = true) (wk : (Lit.int .i64 k).wf = true) (wm : (Lit.int .i64 m).wf = true) (wn : (Lit.int .i64 n).wf = true) :
    DataW.Trod enc P w base sp held e (.agg #[.int .i64 a, .int .i64 b, .int .i64 c, .int .i64 k, .int .i64 m, .int .i64 n]) (.agg [.lit (.int .i64 a), .lit (.int .i64 b), .lit (.int .i64 c), .lit (.int .i64 k), .agg [.lit (.int .i64 m), .lit (.int .i64 n)]]) [] := by
  obtain ⟨f0, f1, f2, f3, f4, he, o0, o1, o2, o3, o4, c0, c1, c2, c3, u0, u1, u2, u3, rfl⟩ := T.six
  obtain ⟨g0, g1, hi, q0, q1, d0, d1, v0, v1⟩ := T.two
  have one : ∀ {u : TypeId} (hu : P.underlying u = some (.int .i64)) {z : Int} (wz : (Lit.int .i64 z).wf = true) (n : Nat), DataW.trod enc P w base sp held (n + 1) u [.int .i64 z] = some (.lit (.int .i64 z), []) := fun hu z wz n => by simp [DataW.trod, hu, wz]
  have t4 : DataW.trod enc P w base sp held 2 f4.type [.int .i64 m, .int .i64 n] = some (.agg [.lit (.int .i64 m), .lit (.int .i64 n)], []) := by
    have := trod_struct2_mk (enc := enc) (w := w) (base := base) (spare := sp) (held := held) (n := 1) (cs := [.int .i64 m, .int .i64 n]) (y0 := (.lit (.int .i64 m), [])) (y1 := (.lit (.int .i64 n), [])) hi (by simp [T.ci])
      (by simpa [q0, d0] using one v0 wm 0) (by simpa [q1, d1] using one v1 wn 0)
    simpa using this
  have := trod_struct_mk (enc := enc) (w := w) (base := base) (spare := sp) (held := held) (n := 2) (cs := [.int .i64 a, .int .i64 b, .int .i64 c, .int .i64 k, .int .i64 m, .int .i64 n])
    (xs := [(.lit (.int .i64 a), []), (.lit (.int .i64 b), []), (.lit (.int .i64 c), []), (.lit (.int .i64 k), []), (.agg [.lit (.int .i64 m), .lit (.int .i64 n)], [])]) he (by simp [T.ce])
    (by simp [o0, o1, o2, o3, o4, c0, c1, c2, c3, T.ci, one u0 wa 1, one u1 wb 1, one u2 wc 1, one u3 wk 1, t4])
  exact ⟨3, by simpa [Value.cells] using this⟩
end
end Go.RowsIn
