/-
  Slices of numbers, of arrays of two numbers, of structs of a number and such an array, as arguments: what the walk is told of them. No Go function is walked here.
-/
import Derived.Test.YtadbelkckeokjaaRowP
import Derived.WideKeyPair
namespace Go.RowsIn
open Go.ChangeShapes Go.WideShapes Go.ChangeAt Go.RowKit Go.Joins Go.Deep Go.WideMaps
set_option linter.unusedSimpArgs false
set_option linter.unusedVariables false

/-- In the range of int. -/
def InZ (z : Int) : Prop := -9223372036854775808 ≤ z ∧ z ≤ 9223372036854775807
/-- A slice of numbers, of arrays of two, of structs of one and such an array reads so. -/
def IntS (w : World) (a : Option Addr) (c : Nat) (l : List Int) : Prop := l.length ≤ c ∧ (a = none → c = 0) ∧ ∀ i, i < l.length → ∃ b off, a = some ⟨b, off, none⟩ ∧ w.cell? ⟨b, off + i, none⟩ = some (.int .i64 (l.getD i 0)) ∧ InZ (l.getD i 0)
def ArrS (w : World) (a : Option Addr) (c : Nat) (l : List (Int × Int)) : Prop := l.length ≤ c ∧ (a = none → c = 0) ∧ ∀ i, i < l.length → ∃ b off, a = some ⟨b, off, none⟩ ∧ w.cell? ⟨b, off + i * 2, none⟩ = some (.int .i64 (l.getD i (0, 0)).1) ∧ w.cell? ⟨b, off + i * 2 + 1, none⟩ = some (.int .i64 (l.getD i (0, 0)).2) ∧ InZ (l.getD i (0, 0)).1 ∧ InZ (l.getD i (0, 0)).2
def ActS (w : World) (a : Option Addr) (l : List (Int × Int × Int)) : Prop := ∀ i, i < l.length → ∃ b off, a = some ⟨b, off, none⟩ ∧ w.cell? ⟨b, off + i * 3, none⟩ = some (.int .i64 (l.getD i (0, 0, 0)).1) ∧ w.cell? ⟨b, off + i * 3 + 1, none⟩ = some (.int .i64 (l.getD i (0, 0, 0)).2.1) ∧ w.cell? ⟨b, off + i * 3 + 2, none⟩ = some (.int .i64 (l.getD i (0, 0, 0)).2.2) ∧ InZ (l.getD i (0, 0, 0)).1 ∧ InZ (l.getD i (0, 0, 0)).2.1 ∧ InZ (l.getD i (0, 0, 0)).2.2
section
variable {H : Type} {enc : TypeId × Value → H} {P : Program} {w : World}
theorem arr2_in {k e : TypeId} (A : ArrKey P k e 2) (he : P.underlying e = some (.int .i64)) {n : Nat} {c0 c1 : Value} {x : DataW H × List MemPlace} {base : Nat} {sp : Nat → Bool} {held : Bool} (hf : DataW.trod enc P w base sp held n k [c0, c1] = some x) :
    ∃ a b : Int, c0 = .int .i64 a ∧ c1 = .int .i64 b ∧ InZ a ∧ InZ b := by
  cases n with
  | zero => simp [DataW.trod] at hf
  | succ n =>
    rw [DataW.trod_step] at hf
    unfold DataW.trodStep at hf
    simp only [A.hu] at hf
    rw [if_pos (by rw [A.size]; rfl)] at hf
    simp only [Option.map_eq_some_iff] at hf
    obtain ⟨xs, hx, e1⟩ := hf
    rw [show List.range 2 = [0, 1] from rfl, List.mapM_cons, List.mapM_cons, List.mapM_nil] at hx
    simp only [bind, Option.bind_eq_some_iff, pure, Option.some.injEq, A.one] at hx
    obtain ⟨y0, h0, _, ⟨y1, h1, _, rfl, rfl⟩, rfl⟩ := hx
    obtain ⟨a, ea, _, wa⟩ := DataW.trod_int he h0
    obtain ⟨b, eb, _, wb⟩ := DataW.trod_int he h1
    simp at ea eb
    exact ⟨a, b, ea, eb, inr_of wa, inr_of wb⟩
theorem ints_in {t e : TypeId} {n len cap : Nat} {a : Option Addr} {x : DataW H × List MemPlace} (ht : P.underlying t = some (.slice e)) (he : P.underlying e = some (.int .i64)) (hc : P.cellsOf e = 1)
    (h : DataW.trod enc P w 0 (fun _ => true) true n t [.slice a len cap] = some x) :
    ∃ l : List Int, l.length = len ∧ len ≤ maxLen ∧ IntS w a cap l := by
  rcases open_slice ht h with ⟨hcs, _⟩ | ⟨x, l, c, m, n, D, Pl, hcs, _, hl, hm, hmm, _, hx⟩
  · simp at hcs
    obtain ⟨rfl, rfl, rfl⟩ := hcs
    exact ⟨[], rfl, Nat.zero_le _, Nat.le_refl _, fun _ => rfl, fun i hi => by cases hi⟩
  · simp at hcs hmm
    obtain ⟨rfl, rfl, rfl⟩ := hcs
    have each : ∀ i, i < len → ∃ z : Int, w.cell? (x.add i) = some (.int .i64 z) ∧ InZ z := fun i hi => by
      obtain ⟨cs', h1, h2⟩ := hx i (by omega)
      rw [hc] at h1
      obtain ⟨_, hlen, hcell⟩ := World.cells?_some h1
      match cs', hlen with
      | [v0], _ =>
        obtain ⟨z, rfl, r⟩ := int_in he h2
        have e0 := hcell 0 (by omega)
        rw [add_add] at e0
        exact ⟨z, by simpa using e0, r⟩
    obtain ⟨f, hf⟩ := choose_lt each
    refine ⟨(List.range len).map f, by simp, by omega, by simp; omega, fun q => (by cases q), fun i hi => ?_⟩
    have hi' : i < len := by simpa using hi
    obtain ⟨b, off, spot⟩ := x
    have h0 := (hf 0 (by omega)).1
    have hspot : spot = none := by simpa [Addr.add] using World.cell?_spot h0
    subst hspot
    obtain ⟨k0, r0⟩ := hf i hi'
    rw [add_plain] at k0
    rw [getD_range _ _ hi']
    exact ⟨b, off, rfl, k0, r0⟩
theorem arrs_in {t e i : TypeId} {n len cap : Nat} {a : Option Addr} {x : DataW H × List MemPlace} (ht : P.underlying t = some (.slice e)) (A : ArrKey P e i 2) (hi : P.underlying i = some (.int .i64))
    (h : DataW.trod enc P w 0 (fun _ => true) true n t [.slice a len cap] = some x) :
    ∃ l : List (Int × Int), l.length = len ∧ len ≤ maxLen ∧ ArrS w a cap l := by
  rcases open_slice ht h with ⟨hcs, _⟩ | ⟨x, l, c, m, n, D, Pl, hcs, _, hl, hm, hmm, _, hx⟩
  · simp at hcs
    obtain ⟨rfl, rfl, rfl⟩ := hcs
    exact ⟨[], rfl, Nat.zero_le _, Nat.le_refl _, fun _ => rfl, fun i hi => by cases hi⟩
  · simp at hcs hmm
    obtain ⟨rfl, rfl, rfl⟩ := hcs
    have each : ∀ i, i < len → ∃ p : Int × Int, w.cell? (x.add (i * 2)) = some (.int .i64 p.1) ∧ w.cell? (x.add (i * 2 + 1)) = some (.int .i64 p.2) ∧ InZ p.1 ∧ InZ p.2 := fun i hi' => by
      obtain ⟨cs', h1, h2⟩ := hx i (by omega)
      rw [A.size] at h1
      obtain ⟨_, hlen, hcell⟩ := World.cells?_some h1
      match cs', hlen with
      | [v0, v1], _ =>
        obtain ⟨z0, z1, rfl, rfl, r0, r1⟩ := arr2_in A hi h2
        have e0 := hcell 0 (by omega)
        have e1 := hcell 1 (by omega)
        rw [add_add] at e0 e1
        exact ⟨(z0, z1), by simpa using e0, by simpa using e1, r0, r1⟩
    obtain ⟨f, hf⟩ := choose_lt each
    refine ⟨(List.range len).map f, by simp, by omega, by simp; omega, fun q => (by cases q), fun i hi => ?_⟩
    have hi' : i < len := by simpa using hi
    obtain ⟨b, off, spot⟩ := x
    have h0 := (hf 0 (by omega)).1
    have hspot : spot = none := by simpa [Addr.add] using World.cell?_spot h0
    subst hspot
    obtain ⟨k0, k1, r0, r1⟩ := hf i hi'
    rw [add_plain] at k0 k1
    rw [getD_range _ _ hi']
    exact ⟨b, off, rfl, k0, k1, r0, r1⟩
theorem acts_in {t e i : TypeId} {f0 f1 : Field} {n len cap : Nat} {a : Option Addr} {x : DataW H × List MemPlace} (ht : P.underlying t = some (.slice e)) (he : P.underlying e = some (.struct #[f0, f1])) (ce : P.cellsOf e = 3) (o0 : f0.offset = 0) (o1 : f1.offset = 1)
    (c0 : P.cellsOf f0.type = 1) (u0 : P.underlying f0.type = some (.int .i64)) (A : ArrKey P f1.type i 2) (hi : P.underlying i = some (.int .i64))
    (h : DataW.trod enc P w 0 (fun _ => true) true n t [.slice a len cap] = some x) :
    ∃ l : List (Int × Int × Int), l.length = len ∧ len ≤ maxLen ∧ ActS w a l := by
  rcases open_slice ht h with ⟨hcs, _⟩ | ⟨x, l, c, m, n, D, Pl, hcs, _, hl, hm, hmm, _, hx⟩
  · simp at hcs
    obtain ⟨rfl, rfl, rfl⟩ := hcs
    exact ⟨[], rfl, Nat.zero_le _, fun i hi => by cases hi⟩
  · simp at hcs hmm
    obtain ⟨rfl, rfl, rfl⟩ := hcs
    have each : ∀ i, i < len → ∃ p : Int × Int × Int, w.cell? (x.add (i * 3)) = some (.int .i64 p.1) ∧ w.cell? (x.add (i * 3 + 1)) = some (.int .i64 p.2.1) ∧ w.cell? (x.add (i * 3 + 2)) = some (.int .i64 p.2.2) ∧ InZ p.1 ∧ InZ p.2.1 ∧ InZ p.2.2 := fun i hi' => by
      obtain ⟨cs', h1, h2⟩ := hx i (by omega)
      rw [ce] at h1
      obtain ⟨_, hlen, hcell⟩ := World.cells?_some h1
      obtain ⟨y0, y1, k, _, _, t0, t1⟩ := trod_struct2 he h2
      match cs', hlen with
      | [v0, v1, v2], _ =>
        rw [o0, c0] at t0
        rw [o1, A.size] at t1
        obtain ⟨z0, rfl, r0⟩ := int_in u0 t0
        obtain ⟨z1, z2, rfl, rfl, r1, r2⟩ := arr2_in A hi t1
        have e0 := hcell 0 (by omega)
        have e1 := hcell 1 (by omega)
        have e2 := hcell 2 (by omega)
        rw [add_add] at e0 e1 e2
        exact ⟨(z0, z1, z2), by simpa using e0, by simpa using e1, by simpa using e2, r0, r1, r2⟩
    obtain ⟨f, hf⟩ := choose_lt each
    refine ⟨(List.range len).map f, by simp, by omega, fun i hi => ?_⟩
    have hi' : i < len := by simpa using hi
    obtain ⟨b, off, spot⟩ := x
    have h0 := (hf 0 (by omega)).1
    have hspot : spot = none := by simpa [Addr.add] using World.cell?_spot h0
    subst hspot
    obtain ⟨k0, k1, k2, r0, r1, r2⟩ := hf i hi'
    rw [add_plain] at k0 k1 k2
    rw [getD_range _ _ hi']
    exact ⟨b, off, rfl, k0, k1, k2, r0, r1, r2⟩
end
end Go.RowsIn
