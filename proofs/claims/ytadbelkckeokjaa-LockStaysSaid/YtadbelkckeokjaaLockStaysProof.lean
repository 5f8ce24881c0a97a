/-
  LockStays of layer 22 returns true, and leaves its arguments as they were, for whatever input. No conditions.
-/
import Derived.Test.YtadbelkckeokjaaRows
import Derived.Test.YtadbelkckeokjaaRowA
import Derived.Test.YtadbelkckeokjaaRowA
import Derived.Test.YtadbelkckeokjaaRowK
import Derived.Test.YtadbelkckeokjaaOpen3
import Derived.Test.YtadbelkckeokjaaLkT
import Derived.WalkKit
import Derived.ProofKit
import Derived.OpenShut
import Derived.ShutString
import Derived.ChangeOld
import Derived.ChangeMaps5
import Derived.Below
namespace Go.Proofs.Ytadbelkckeokjaa.lockStays
open Go.ChangeShapes Go.WideShapes Go.ChangeAt Go.RowKit Go.WideMaps
open Go.ChangeMaps (open_string shut_string)
set_option linter.unusedSimpArgs false
set_option linter.unusedVariables false

theorem own : ownKnob Try.prog.godebug = none := by kernel_rfl
theorem laidOut : laidOutB Try.prog = true := by kernel_rfl

theorem arr3 : ArrKey Try.prog 25 3 3 := ⟨Try.underlying25, by kernel_rfl, by kernel_rfl, by kernel_rfl⟩

theorem walk (a0 : Option Addr) (l0 : List (Int × Int)) (c0 : Nat) (a1 b1 : Int) (a2 b2 x2 : Int) (w : World) (r0 : Go.RowsIn.PairS w a0 c0 l0) (n0 : l0.length ≤ maxLen) (w1 : (Lit.int .i64 a1).wf = true) (u1 : (Lit.int .i64 b1).wf = true) (w2 : (Lit.int .i64 a2).wf = true) (u2 : (Lit.int .i64 b2).wf = true) (i2 : (Lit.int .i64 x2).wf = true) :
    Calls Try.prog 3 #[.slice a0 l0.length c0, .agg #[.int .i64 a1, .int .i64 b1], .agg #[.int .i64 a2, .int .i64 b2, .int .i64 x2]] w fun e w' => e = .returned (.bool true) ∧ Below w.heap.size w w' := by
  exact stays22 a0 c0 l0 a1 b1 a2 b2 x2 w r0 ⟨inR_of w1, inR_of u1⟩ (inR_of u2)

set_option maxRecDepth 100000 in
theorem lifted (os : Os) (started : os.Started) (H : Type) (enc : TypeId × Value → H) :
    ReturnsInHanded {} Try.checked os 3 .any (Rows.lockStaysSpec.pre6 enc Try.prog Try.f3 Rows.lockStaysRow.domain false) (Rows.lockStaysSpec.post enc Try.prog Try.f3 false true false false) := by
  refine returnsInHanded_of_change (C := Try.checked) own started (by kernel_rfl) Try.func3
    (ChangeSpec.witness6 (enc := enc) (C := Try.checked) false ⟨#[], #[.slice none 0 0, .agg #[.int .i64 0, .int .i64 0], .agg #[.int .i64 0, .int .i64 0, .int .i64 0]], []⟩ 8 (by kernel_rfl) (by kernel_rfl) (by kernel_rfl) (by kernel_rfl)) ?_
  intro W base args ds gs before hval0 hW hcnd _
  have hval : ∀ (j : Nat) t v, Try.f3.params[j]? = some t → args[j]? = some v → Value.okWide Try.prog W .any base t v := hval0
  have hW' := hW
  obtain ⟨p, q, hA0, hV, rfl, hfz, hnd⟩ := hW
  have hA : DataW.TrodAll enc Try.prog W 0 (fun _ => true) true Try.f3.params.toList args.toList ds p := hA0
  rw [Try.params3] at hA hval
  obtain ⟨v0, vs0, d0, ds0, p0, q0, hargs, rfl, rfl, h0, r0⟩ := trodAll_cons hA
  obtain ⟨v1, vs1, d1, ds1, p1, q1, rfl, rfl, rfl, h1, r1⟩ := trodAll_cons r0
  obtain ⟨v2, vs2, d2, ds2, p2, q2, rfl, rfl, rfl, h2, r2⟩ := trodAll_cons r1
  obtain ⟨rfl, rfl, rfl⟩ := trodAll_nil r2
  obtain rfl : args = #[v0, v1, v2] := by cases args; simp_all
  obtain ⟨rfl, rfl⟩ := trodVars_none hV
  obtain ⟨a0, n0, c0, rfl⟩ := okWide_slice Try.underlying22 (hval 0 22 v0 rfl rfl)
  have k0 := h0
  have lt0 : ∀ x ∈ p0, x.block < W.heap.size := by obtain ⟨m, hm⟩ := k0; exact DataW.trod_lt m _ _ _ hm
  obtain ⟨fuel, hf⟩ := h0
  obtain ⟨l0, rfl, m0, e0⟩ := Go.RowsIn.pairc_in Try.underlying22 Try.underlying24 (by kernel_rfl) rfl rfl (by kernel_rfl) (by kernel_rfl) Try.underlying3 Try.underlying3 hf
  clear hf fuel
  obtain ⟨a1, b1, rfl, rfl, rfl, w1, u1⟩ := Go.RowsIn.open_two Try.underlying24 (by kernel_rfl) (by kernel_rfl) Try.underlying3 Try.underlying3 (hval 1 24 v1 rfl rfl) h1
  obtain ⟨a2, b2, x2, rfl, rfl, rfl, w2, u2, i2⟩ := open_triple arr3 Try.underlying3 (hval 2 25 v2 rfl rfl) h2
  clear hA0 hval0
  refine (walk a0 l0 c0 a1 b1 a2 b2 x2 W e0 m0 w1 u1 w2 u2 i2).mono fun e W' ⟨he, bel⟩ => ?_
  subst he
  exact ⟨_, rfl, _, _, _, [], _, [], hW', trodAll_mk1 (shut_bool Try.underlying4 _), (trodAll_cons_mk (Below.trod laidOut (by kernel_rfl) (of_decide_eq_true (by kernel_rfl)) k0 bel lt0) (trodAll_cons_mk (Go.RowsIn.shut_two Try.underlying24 (by kernel_rfl) (by kernel_rfl) Try.underlying3 Try.underlying3 w1 u1) (trodAll_cons_mk (shut_triple arr3 Try.underlying3 w2 u2 i2) trodAll_mk0))), rfl, bel.frame _, fun h => by cases h⟩

theorem over : Rows.lockStaysRow.holds Try.pinned (OpenSpec.ofChange Rows.lockStaysSpec) :=
  OpenClaim.holds_of_wide 3 Try.f3 rfl rfl rfl rfl rfl rfl rfl ⟨rfl, rfl, rfl, rfl, rfl⟩ rfl rfl rfl rfl rfl (by kernel_rfl) Try.func3 (by kernel_rfl)
    (of_decide_eq_true (by kernel_rfl)) (by unfold Func.isWrapper; first | (rw [if_pos (by decide +kernel)]; kernel_rfl) | (rw [if_neg (by decide +kernel)]; exact ⟨rfl, rfl⟩))
    (fun os started H enc _ => lifted os started H enc)

theorem proved : Rows.LockStaysSaid :=
  over
end Go.Proofs.Ytadbelkckeokjaa.lockStays
