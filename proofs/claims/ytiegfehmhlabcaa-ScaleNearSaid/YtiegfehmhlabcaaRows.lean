/-
  No cell of these rows narrows 'for every input' (looked for: loops, veiled, ifaces, maps, wideKeys, modest, calm, conditions, laid).
  DERIVED. THE GIVEN ROWS OF THIS SEAT. 4 by the template 'for every input the law returns true; each argument reads behind the call as it read before'; 0 by the template 'total and deterministic' (their statements: YtiegfehmhlabcaaTotals.lean).
  GIVEN WITH THE SEED: the statements are not yours to turn. If you find one false, say at which input.
  Laid BY PROGRAM, IN A SANDBOX (cutbox-rows.mjs): the forced cells as the released guide's own fill.sh prints them over the translation 5ef85ea6ed4ce779… (all of the seat's roots in one cut). By AI agents, Wed Nov 11 2026. No macro, syntax, notation, axiom, sorry.
-/
import Derived.Test.YtiegfehmhlabcaaChecked
import GoSem.Claim
import GoSem.ClaimJoined
import GoSem.ClaimMapViews
import Derived.JoinedTies
import Derived.KernelRfl
namespace Go.Proofs.Ytiegfehmhlabcaa
/- THE CELL 'sum', in the pinned program and in every row, IS THE sha256 OF THE DUMP (.gsa) THAT YtiegfehmhlabcaaProg.lean LOADS. Nothing in Lean hashes anything: it is a label: what it is worth is what the hold of that sum in a sandbox is worth. -/
noncomputable def Try.pinned : Pinned := { name := "ytiegfehmhlabcaa", sum := "5ef85ea6ed4ce779a24f4f378636bea691b05a67eba9b51ec5e9ce46e347d6d6", checked := Try.checked }
namespace Rows
def none {H : Type} : Left H := { results := [], args := [] }

/-- 'gavelkindlaw03.ScaleTells': WHATEVER THE INPUT: true; the input reads as it did. -/
def scaleTellsSpec : ChangeSpec := { name := "scaleTells", fn := fun _ => fun
  | [d1, d2] => { results := [.lit (.bool true)], args := [d1, d2] }
  | _ => none }
def scaleTellsRow : OpenClaim := { program := "ytiegfehmhlabcaa", sum := "5ef85ea6ed4ce779a24f4f378636bea691b05a67eba9b51ec5e9ce46e347d6d6", func := "gavelkind/gavelkindlaw03.ScaleTells", spec := "scaleTells", inPlace := ["math/bits.Add64", "math/bits.Sub64"], unfollowed := true, recurses := true, named := ["math/bits.divideError", "math/bits.overflowError"], apart := false }
def ScaleTellsSaid : Prop := scaleTellsRow.holds Try.pinned (OpenSpec.ofChange scaleTellsSpec)

/-- ITS FALSE NEIGHBOUR: 'it returns false'. Refute it at one input. -/
def scaleTellsWrong : ChangeSpec := { name := "scaleTells", fn := fun _ => fun
  | [d1, d2] => { results := [.lit (.bool false)], args := [d1, d2] }
  | _ => none }
def ScaleTellsWrongFalsely : Prop := scaleTellsRow.holds Try.pinned (OpenSpec.ofChange scaleTellsWrong)

/-- 'gavelkindlaw03.ScaleScales': WHATEVER THE INPUT: true; the input reads as it did. -/
def scaleScalesSpec : ChangeSpec := { name := "scaleScales", fn := fun _ => fun
  | [d1, d2, d3] => { results := [.lit (.bool true)], args := [d1, d2, d3] }
  | _ => none }
def scaleScalesRow : OpenClaim := { program := "ytiegfehmhlabcaa", sum := "5ef85ea6ed4ce779a24f4f378636bea691b05a67eba9b51ec5e9ce46e347d6d6", func := "gavelkind/gavelkindlaw03.ScaleScales", spec := "scaleScales", inPlace := ["math/bits.Sub64", "math/bits.Add64"], unfollowed := true, recurses := true, named := ["math/bits.divideError", "math/bits.overflowError"], apart := false }
def ScaleScalesSaid : Prop := scaleScalesRow.holds Try.pinned (OpenSpec.ofChange scaleScalesSpec)

/-- ITS FALSE NEIGHBOUR: 'it returns false'. Refute it at one input. -/
def scaleScalesWrong : ChangeSpec := { name := "scaleScales", fn := fun _ => fun
  | [d1, d2, d3] => { results := [.lit (.bool false)], args := [d1, d2, d3] }
  | _ => none }
def ScaleScalesWrongFalsely : Prop := scaleScalesRow.holds Try.pinned (OpenSpec.ofChange scaleScalesWrong)

/-- 'gavelkindlaw03.ScaleLeft': WHATEVER THE INPUT: true; the input reads as it did. -/
def scaleLeftSpec : ChangeSpec := { name := "scaleLeft", fn := fun _ => fun
  | [d1, d2] => { results := [.lit (.bool true)], args := [d1, d2] }
  | _ => none }
def scaleLeftRow : OpenClaim := { program := "ytiegfehmhlabcaa", sum := "5ef85ea6ed4ce779a24f4f378636bea691b05a67eba9b51ec5e9ce46e347d6d6", func := "gavelkind/gavelkindlaw03.ScaleLeft", spec := "scaleLeft", inPlace := ["math/bits.Add64", "math/bits.Sub64"], unfollowed := true, recurses := true, named := ["math/bits.divideError", "math/bits.overflowError"], apart := false }
def ScaleLeftSaid : Prop := scaleLeftRow.holds Try.pinned (OpenSpec.ofChange scaleLeftSpec)

/-- ITS FALSE NEIGHBOUR: 'it returns false'. Refute it at one input. -/
def scaleLeftWrong : ChangeSpec := { name := "scaleLeft", fn := fun _ => fun
  | [d1, d2] => { results := [.lit (.bool false)], args := [d1, d2] }
  | _ => none }
def ScaleLeftWrongFalsely : Prop := scaleLeftRow.holds Try.pinned (OpenSpec.ofChange scaleLeftWrong)

/-- 'gavelkindlaw03.ScaleNear': WHATEVER THE INPUT: true; the input reads as it did. -/
def scaleNearSpec : ChangeSpec := { name := "scaleNear", fn := fun _ => fun
  | [d1, d2, d3] => { results := [.lit (.bool true)], args := [d1, d2, d3] }
  | _ => none }
def scaleNearRow : OpenClaim := { program := "ytiegfehmhlabcaa", sum := "5ef85ea6ed4ce779a24f4f378636bea691b05a67eba9b51ec5e9ce46e347d6d6", func := "gavelkind/gavelkindlaw03.ScaleNear", spec := "scaleNear", inPlace := ["math/bits.Sub64", "math/bits.Add64"], unfollowed := true, recurses := true, named := ["math/bits.divideError", "math/bits.overflowError"], apart := false }
def ScaleNearSaid : Prop := scaleNearRow.holds Try.pinned (OpenSpec.ofChange scaleNearSpec)

/-- ITS FALSE NEIGHBOUR: 'it returns false'. Refute it at one input. -/
def scaleNearWrong : ChangeSpec := { name := "scaleNear", fn := fun _ => fun
  | [d1, d2, d3] => { results := [.lit (.bool false)], args := [d1, d2, d3] }
  | _ => none }
def ScaleNearWrongFalsely : Prop := scaleNearRow.holds Try.pinned (OpenSpec.ofChange scaleNearWrong)

/- THE SECOND FORM. 'bulk': how many values and letters a reading holds, each counted each time it is reached (what is shared counts as often as it is met; a slice's spare places count too). A statement '..UptoSaid' is the law's where the arguments, and the package variables that the reading takes, are together of bulk at most 1048576: NARROWER than '..Said'. Prove '..Said' where nothing that the law and all that it calls make is longer than what came in: it says more and counts as full. Else prove '..UptoSaid'. A law counts once. -/
mutual
def uptoBulk {H : Type} : DataW H → Nat
  | .lit (.string bytes) => bytes.length + 1
  | .lit _ => 1
  | .nil => 1
  | .ptr d => uptoBulk d + 1
  | .slice elems spare => uptoBulkAll elems + uptoBulkAll spare + 1
  | .agg parts => uptoBulkAll parts + 1
  | .iface _ d => uptoBulk d + 1
  | .map entries => uptoBulkEntries entries + 1
  | .held _ => 1
def uptoBulkAll {H : Type} : List (DataW H) → Nat
  | [] => 0
  | d :: r => uptoBulk d + uptoBulkAll r
def uptoBulkEntries {H : Type} : List (Lit × DataW H) → Nat
  | [] => 0
  | x :: r => uptoBulkEntry x + uptoBulkEntries r
def uptoBulkEntry {H : Type} : Lit × DataW H → Nat
  | (.string bytes, d) => bytes.length + uptoBulk d + 1
  | (_, d) => uptoBulk d + 1
 end
def uptoSmall : (H : Type) → List (DataW H) → Bool := fun _ ds => decide (uptoBulkAll ds ≤ 1048576)
def OpenSpec.upto (s : _root_.Go.ChangeSpec) : _root_.Go.OpenSpec := { _root_.Go.OpenSpec.ofChange s with cond := some uptoSmall }

/-- 'gavelkindlaw03.ScaleTells', WHERE WHAT IT READS IS OF BULK AT MOST 1048576: true; the input reads as it did. -/
def scaleTellsUptoRow : OpenClaim := { program := "ytiegfehmhlabcaa", sum := "5ef85ea6ed4ce779a24f4f378636bea691b05a67eba9b51ec5e9ce46e347d6d6", func := "gavelkind/gavelkindlaw03.ScaleTells", spec := "scaleTells", inPlace := ["math/bits.Add64", "math/bits.Sub64"], unfollowed := true, recurses := true, named := ["math/bits.divideError", "math/bits.overflowError"], apart := false, narrowed := true }
def ScaleTellsUptoSaid : Prop := scaleTellsUptoRow.holds Try.pinned (OpenSpec.upto scaleTellsSpec)

/-- 'gavelkindlaw03.ScaleScales', WHERE WHAT IT READS IS OF BULK AT MOST 1048576: true; the input reads as it did. -/
def scaleScalesUptoRow : OpenClaim := { program := "ytiegfehmhlabcaa", sum := "5ef85ea6ed4ce779a24f4f378636bea691b05a67eba9b51ec5e9ce46e347d6d6", func := "gavelkind/gavelkindlaw03.ScaleScales", spec := "scaleScales", inPlace := ["math/bits.Sub64", "math/bits.Add64"], unfollowed := true, recurses := true, named := ["math/bits.divideError", "math/bits.overflowError"], apart := false, narrowed := true }
def ScaleScalesUptoSaid : Prop := scaleScalesUptoRow.holds Try.pinned (OpenSpec.upto scaleScalesSpec)

/-- 'gavelkindlaw03.ScaleLeft', WHERE WHAT IT READS IS OF BULK AT MOST 1048576: true; the input reads as it did. -/
def scaleLeftUptoRow : OpenClaim := { program := "ytiegfehmhlabcaa", sum := "5ef85ea6ed4ce779a24f4f378636bea691b05a67eba9b51ec5e9ce46e347d6d6", func := "gavelkind/gavelkindlaw03.ScaleLeft", spec := "scaleLeft", inPlace := ["math/bits.Add64", "math/bits.Sub64"], unfollowed := true, recurses := true, named := ["math/bits.divideError", "math/bits.overflowError"], apart := false, narrowed := true }
def ScaleLeftUptoSaid : Prop := scaleLeftUptoRow.holds Try.pinned (OpenSpec.upto scaleLeftSpec)

/-- 'gavelkindlaw03.ScaleNear', WHERE WHAT IT READS IS OF BULK AT MOST 1048576: true; the input reads as it did. -/
def scaleNearUptoRow : OpenClaim := { program := "ytiegfehmhlabcaa", sum := "5ef85ea6ed4ce779a24f4f378636bea691b05a67eba9b51ec5e9ce46e347d6d6", func := "gavelkind/gavelkindlaw03.ScaleNear", spec := "scaleNear", inPlace := ["math/bits.Sub64", "math/bits.Add64"], unfollowed := true, recurses := true, named := ["math/bits.divideError", "math/bits.overflowError"], apart := false, narrowed := true }
def ScaleNearUptoSaid : Prop := scaleNearUptoRow.holds Try.pinned (OpenSpec.upto scaleNearSpec)

end Rows
end Go.Proofs.Ytiegfehmhlabcaa
