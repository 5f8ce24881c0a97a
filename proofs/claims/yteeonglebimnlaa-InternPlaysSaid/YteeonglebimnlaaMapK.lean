/-
  The kits of the three kinds of keys: numbers, texts, structs of four numbers. No Go function is walked here.
-/
import Derived.Test.YteeonglebimnlaaMapW
import Derived.Test.YteeonglebimnlaaIntB
import Derived.DeepKeys4
namespace Go.Proofs.Yteeonglebimnlaa
open Go.RowKit Go.Maps Go.MapFns
set_option linter.unusedSimpArgs false
set_option linter.unusedVariables false

theorem wf_of {z : Int} (h : InR z) : (Lit.int .i64 z).wf = true := WalkArith.wf_i64 h
theorem kitI : Kit Try.prog 3 3 63 (fun k : Int => .int .i64 k) InR (fun k => .int .i64 k) where
  keyed := int_keyed Try.underlying3
  lits k h := keyOf_int_mk Try.underlying3 (wf_of h)
  apart a b _ _ h := by simpa using h
  map := Try.underlying63
  int := Try.underlying3
  zero w := by kernel_rfl
theorem kitS : Kit Try.prog 9 3 75 (fun k : ByteArray => .string k) (fun k => k.size ≤ maxLen) (fun k => .string k.data.toList) where
  keyed := string_keyed Try.underlying9
  lits k h := Go.WideMaps.keyOf_string_mk Try.underlying9 h
  apart a b _ _ h := by simpa using h
  map := Try.underlying75
  int := Try.underlying3
  zero w := by kernel_rfl
theorem laid8 : laidOutB Try.prog = true := by kernel_rfl
theorem wide8 : (match Try.prog.underlying 46 with | some (.array _ _) | some (.struct _) => true | _ => false) = true := by rw [Try.underlying46]
set_option maxRecDepth 100000 in
theorem law8 : WideMaps.KeyLaw Try.prog 46 := deep_law_laid laid8 (m := 2) (by omega) (of_decide_eq_true (by kernel_rfl)) (by kernel_rfl) wide8
theorem deep8 : Try.prog.keyType 46 = true := by kernel_rfl
theorem cells8 : Try.prog.cellsOf 46 = 4 := by kernel_rfl
theorem cellsI : Try.prog.cellsOf 3 = 1 := by kernel_rfl
theorem some8 : Try.prog.types.size ≠ 0 := of_decide_eq_true (by kernel_rfl)
def lit4 (s : K4) : Lit := .string (keyBytes [.int .i64 s.1, .int .i64 s.2.1, .int .i64 s.2.2.1, .int .i64 s.2.2.2])
theorem key4_any {P : Program} {k i : TypeId} {f0 f1 f2 f3 : Field} (hs : P.underlying k = some (.struct #[f0, f1, f2, f3])) (hm : (#[f0, f1, f2, f3] : Array Field).all (·.name != "_") = true)
    (t0 : f0.type = i) (t1 : f1.type = i) (t2 : f2.type = i) (t3 : f3.type = i) (o0 : f0.offset = 0) (o1 : f1.offset = 1) (o2 : f2.offset = 2) (o3 : f3.offset = 3)
    (ci : P.cellsOf i = 1) (ck : P.cellsOf k = 4) (hi : P.underlying i = some (.int .i64)) (kt : P.keyType k = true) (hn : P.types.size ≠ 0) (s : K4) (h : ok4 s) : keyOf P k (enc4 s) = some (lit4 s) := by
  obtain ⟨n, hn⟩ := Nat.exists_eq_succ_of_ne_zero hn
  have h0 := wf_of h.1
  have h1 := wf_of h.2.1
  have h2 := wf_of h.2.2.1
  have h3 := wf_of h.2.2.2
  have hm' : f0.name ≠ "_" ∧ f1.name ≠ "_" ∧ f2.name ≠ "_" ∧ f3.name ≠ "_" := by simpa using hm
  unfold keyOf
  rw [hs, hn]
  simp [kt, enc4, Value.formed, hs, ck, Program.keyLits, hi, ci, Value.cells, h0, h1, h2, h3, lit4, t0, t1, t2, t3, o0, o1, o2, o3, hm']
theorem key4 (s : K4) (h : ok4 s) : keyOf Try.prog 46 (enc4 s) = some (lit4 s) :=
  key4_any Try.underlying46 (by simp) rfl rfl rfl rfl rfl rfl rfl rfl cellsI cells8 Try.underlying3 deep8 some8 s h
theorem kitK : Kit Try.prog 46 3 70 enc4 ok4 lit4 where
  keyed := Keyed.of_law law8
  lits := key4
  apart a b _ _ h := by
    obtain ⟨a1, a2, a3, a4⟩ := a
    obtain ⟨b1, b2, b3, b4⟩ := b
    simpa [enc4] using h
  map := Try.underlying70
  int := Try.underlying3
  zero w := by kernel_rfl
end Go.Proofs.Yteeonglebimnlaa
