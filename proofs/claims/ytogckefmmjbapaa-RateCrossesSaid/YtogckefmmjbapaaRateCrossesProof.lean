/-
  RateCrosses of layer 21 returns true, and leaves its arguments as they were, for whatever input. No conditions.
-/
import Derived.Test.YtogckefmmjbapaaRows
import Derived.Test.YtogckefmmjbapaaRowA
import Derived.Test.YtogckefmmjbapaaRowA
import Derived.Test.YtogckefmmjbapaaRowX
import Derived.Test.YtogckefmmjbapaaRtX
import Derived.WalkKit
import Derived.ProofKit
import Derived.OpenShut
import Derived.ShutString
import Derived.ChangeOld
import Derived.ChangeMaps5
import Derived.Below
namespace Go.Proofs.Ytogckefmmjbapaa.rateCrosses
open Go.ChangeShapes Go.WideShapes Go.ChangeAt Go.RowKit Go.WideMaps
open Go.ChangeMaps (open_string shut_string)
set_option linter.unusedSimpArgs false
set_option linter.unusedVariables false

theorem own : ownKnob Try.prog.godebug = none := by kernel_rfl
theorem laidOut : laidOutB Try.prog = true := by kernel_rfl

theorem six0 : Go.RowsIn.SixT Try.prog 26 24 := ⟨⟨_, _, _, _, _, Try.underlying26, rfl, rfl, rfl, rfl, rfl, by kernel_rfl, by kernel_rfl, by kernel_rfl, by kernel_rfl, Try.underlying3, Try.underlying3, Try.underlying3, Try.underlying3, rfl⟩, ⟨_, _, Try.underlying24, rfl, rfl, by kernel_rfl, by kernel_rfl, Try.underlying3, Try.underlying3⟩, by kernel_rfl, by kernel_rfl⟩

theorem walk (a0 : Option Addr) (l0 : List (Int × Int × Int × Int × Int × Int)) (c0 : Nat) (a1 b1 x1 y1 g1 t1 : Int) (w : World) (r0 : Go.RowsIn.SixS w a0 c0 l0) (n0 : l0.length ≤ maxLen) (w1 : (Lit.int .i64 a1).wf = true) (u1 : (Lit.int .i64 b1).wf = true) (i1 : (Lit.int .i64 x1).wf = true) (j1 : (Lit.int .i64 y1).wf = true) (s1 : (Lit.int .i64 g1).wf = true) (m1 : (Lit.int .i64 t1).wf = true) :
    Calls Try.prog 5 #[.slice a0 l0.length c0, .agg #[.int .i64 a1, .int .i64 b1, .int .i64 x1, .int .i64 y1, .int .i64 g1, .int .i64 t1]] w fun e w' => e = .returned (.bool true) ∧ Below w.heap.size w w' := by
  exact crosses21 a0 c0 l0 (a1, b1, x1, y1, g1, t1) w r0

set_option maxRecDepth 100000 in
theorem lifted (os : Os) (started : os.Started) (H : Type) (enc : TypeId × Value → H) :
    ReturnsInHanded {} Try.checked os 5 .any (Rows.rateCrossesSpec.pre6 enc Try.prog Try.f5 Rows.rateCrossesRow.domain false) (Rows.rateCrossesSpec.post enc Try.prog Try.f5 false true false false) := by
  refine returnsInHanded_of_change (C := Try.checked) own started (by kernel_rfl) Try.func5
    (ChangeSpec.witness6 (enc := enc) (C := Try.checked) false ⟨#[], #[.slice none 0 0, .agg #[.int .i64 0, .int .i64 0, .int .i64 0, .int .i64 0, .int .i64 0, .int .i64 0]], []⟩ 8 (by kernel_rfl) (by kernel_rfl) (by kernel_rfl) (by kernel_rfl)) ?_
  intro W base args ds gs before hval0 hW hcnd _
  have hval : ∀ (j : Nat) t v, Try.f5.params[j]? = some t → args[j]? = some v → Value.okWide Try.prog W .any base t v := hval0
  have hW' := hW
  obtain ⟨p, q, hA0, hV, rfl, hfz, hnd⟩ := hW
  have hA : DataW.TrodAll enc Try.prog W 0 (fun _ => true) true Try.f5.params.toList args.toList ds p := hA0
  rw [Try.params5] at hA hval
  obtain ⟨v0, vs0, d0, ds0, p0, q0, hargs, rfl, rfl, h0, r0⟩ := trodAll_cons hA
  obtain ⟨v1, vs1, d1, ds1, p1, q1, rfl, rfl, rfl, h1, r1⟩ := trodAll_cons r0
  obtain ⟨rfl, rfl, rfl⟩ := trodAll_nil r1
  obtain rfl : args = #[v0, v1] := by cases args; simp_all
  obtain ⟨rfl, rfl⟩ := trodVars_none hV
  obtain ⟨a0, n0, c0, rfl⟩ := okWide_slice Try.underlying22 (hval 0 22 v0 rfl rfl)
  have k0 := h0
  have lt0 : ∀ x ∈ p0, x.block < W.heap.size := by obtain ⟨m, hm⟩ := k0; exact DataW.trod_lt m _ _ _ hm
  obtain ⟨fuel, hf⟩ := h0
  obtain ⟨l0, rfl, m0, e0⟩ := Go.RowsIn.sixs_in Try.underlying22 six0 hf
  clear hf fuel
  obtain ⟨a1, b1, x1, y1, g1, t1, rfl, rfl, rfl, w1, u1, i1, j1, s1, m1⟩ := Go.RowsIn.open_six six0 (hval 1 26 v1 rfl rfl) h1
  clear hA0 hval0
  refine (walk a0 l0 c0 a1 b1 x1 y1 g1 t1 W e0 m0 w1 u1 i1 j1 s1 m1).mono fun e W' ⟨he, bel⟩ => ?_
  subst he
  exact ⟨_, rfl, _, _, _, [], _, [], hW', trodAll_mk1 (shut_bool Try.underlying4 _), (trodAll_cons_mk (Below.trod laidOut (by kernel_rfl) (of_decide_eq_true (by kernel_rfl)) k0 bel lt0) (trodAll_cons_mk (Go.RowsIn.shut_six six0 w1 u1 i1 j1 s1 m1) trodAll_mk0)), rfl, bel.frame _, fun h => by cases h⟩

theorem over : Rows.rateCrossesRow.holds Try.pinned (OpenSpec.ofChange Rows.rateCrossesSpec) :=
  OpenClaim.holds_of_wide 5 Try.f5 rfl rfl rfl rfl rfl rfl rfl ⟨rfl, rfl, rfl, rfl, rfl⟩ rfl rfl rfl rfl rfl (by kernel_rfl) Try.func5 (by kernel_rfl)
    (of_decide_eq_true (by kernel_rfl)) (by unfold Func.isWrapper; first | (rw [if_pos (by decide +kernel)]; kernel_rfl) | (rw [if_neg (by decide +kernel)]; exact ⟨rfl, rfl⟩))
    (fun os started H enc _ => lifted os started H enc)

theorem proved : Rows.RateCrossesSaid :=
  over
end Go.Proofs.Ytogckefmmjbapaa.rateCrosses
