/-
  No cell of these rows narrows 'for every input' (looked for: loops, veiled, ifaces, maps, wideKeys, modest, calm, conditions, laid).
  DERIVED. THE GIVEN ROWS OF THIS SEAT. 5 by the template 'for every input the law returns true; each argument reads behind the call as it read before'; 0 by the template 'total and deterministic' (their statements: YtjanbaecgldjkaaTotals.lean).
  GIVEN WITH THE SEED: the statements are not yours to turn. If you find one false, say at which input.
  Laid BY PROGRAM, IN A SANDBOX (cutbox-rows.mjs): the forced cells as the released guide's own fill.sh prints them over the translation b02a9fee451338fa… (all of the seat's roots in one cut). By AI agents, Wed Nov 11 2026. No macro, syntax, notation, axiom, sorry.
-/
import Derived.Test.YtjanbaecgldjkaaChecked
import GoSem.Claim
import GoSem.ClaimJoined
import GoSem.ClaimMapViews
import Derived.JoinedTies
import Derived.KernelRfl
namespace Go.Proofs.Ytjanbaecgldjkaa
/- THE CELL 'sum', in the pinned program and in every row, IS THE sha256 OF THE DUMP (.gsa) THAT YtjanbaecgldjkaaProg.lean LOADS. Nothing in Lean hashes anything: it is a label: what it is worth is what the hold of that sum in a sandbox is worth. -/
noncomputable def Try.pinned : Pinned := { name := "ytjanbaecgldjkaa", sum := "b02a9fee451338fa57603a3e5b4196c808225d66ab8e8a2db33f64bfb95b5ab7", checked := Try.checked }
namespace Rows
def none {H : Type} : Left H := { results := [], args := [] }

/-- 'gavelkindlaw18.StakeTells': WHATEVER THE INPUT: true; the input reads as it did. -/
def stakeTellsSpec : ChangeSpec := { name := "stakeTells", fn := fun _ => fun
  | [d1, d2, d3] => { results := [.lit (.bool true)], args := [d1, d2, d3] }
  | _ => none }
def stakeTellsRow : OpenClaim := { program := "ytjanbaecgldjkaa", sum := "b02a9fee451338fa57603a3e5b4196c808225d66ab8e8a2db33f64bfb95b5ab7", func := "gavelkind/gavelkindlaw18.StakeTells", spec := "stakeTells", unfollowed := true, recurses := true, apart := false }
def StakeTellsSaid : Prop := stakeTellsRow.holds Try.pinned (OpenSpec.ofChange stakeTellsSpec)

/-- ITS FALSE NEIGHBOUR: 'it returns false'. Refute it at one input. -/
def stakeTellsWrong : ChangeSpec := { name := "stakeTells", fn := fun _ => fun
  | [d1, d2, d3] => { results := [.lit (.bool false)], args := [d1, d2, d3] }
  | _ => none }
def StakeTellsWrongFalsely : Prop := stakeTellsRow.holds Try.pinned (OpenSpec.ofChange stakeTellsWrong)

/-- 'gavelkindlaw18.StakeHolds': WHATEVER THE INPUT: true; the input reads as it did. -/
def stakeHoldsSpec : ChangeSpec := { name := "stakeHolds", fn := fun _ => fun
  | [d1, d2, d3] => { results := [.lit (.bool true)], args := [d1, d2, d3] }
  | _ => none }
def stakeHoldsRow : OpenClaim := { program := "ytjanbaecgldjkaa", sum := "b02a9fee451338fa57603a3e5b4196c808225d66ab8e8a2db33f64bfb95b5ab7", func := "gavelkind/gavelkindlaw18.StakeHolds", spec := "stakeHolds", unfollowed := true, recurses := true, apart := false }
def StakeHoldsSaid : Prop := stakeHoldsRow.holds Try.pinned (OpenSpec.ofChange stakeHoldsSpec)

/-- ITS FALSE NEIGHBOUR: 'it returns false'. Refute it at one input. -/
def stakeHoldsWrong : ChangeSpec := { name := "stakeHolds", fn := fun _ => fun
  | [d1, d2, d3] => { results := [.lit (.bool false)], args := [d1, d2, d3] }
  | _ => none }
def StakeHoldsWrongFalsely : Prop := stakeHoldsRow.holds Try.pinned (OpenSpec.ofChange stakeHoldsWrong)

/-- 'gavelkindlaw18.StakeFree': WHATEVER THE INPUT: true; the input reads as it did. -/
def stakeFreeSpec : ChangeSpec := { name := "stakeFree", fn := fun _ => fun
  | [d1, d2, d3] => { results := [.lit (.bool true)], args := [d1, d2, d3] }
  | _ => none }
def stakeFreeRow : OpenClaim := { program := "ytjanbaecgldjkaa", sum := "b02a9fee451338fa57603a3e5b4196c808225d66ab8e8a2db33f64bfb95b5ab7", func := "gavelkind/gavelkindlaw18.StakeFree", spec := "stakeFree", unfollowed := true, recurses := true, apart := false }
def StakeFreeSaid : Prop := stakeFreeRow.holds Try.pinned (OpenSpec.ofChange stakeFreeSpec)

/-- ITS FALSE NEIGHBOUR: 'it returns false'. Refute it at one input. -/
def stakeFreeWrong : ChangeSpec := { name := "stakeFree", fn := fun _ => fun
  | [d1, d2, d3] => { results := [.lit (.bool false)], args := [d1, d2, d3] }
  | _ => none }
def StakeFreeWrongFalsely : Prop := stakeFreeRow.holds Try.pinned (OpenSpec.ofChange stakeFreeWrong)

/-- 'gavelkindlaw18.StakeLater': WHATEVER THE INPUT: true; the input reads as it did. -/
def stakeLaterSpec : ChangeSpec := { name := "stakeLater", fn := fun _ => fun
  | [d1, d2, d3] => { results := [.lit (.bool true)], args := [d1, d2, d3] }
  | _ => none }
def stakeLaterRow : OpenClaim := { program := "ytjanbaecgldjkaa", sum := "b02a9fee451338fa57603a3e5b4196c808225d66ab8e8a2db33f64bfb95b5ab7", func := "gavelkind/gavelkindlaw18.StakeLater", spec := "stakeLater", unfollowed := true, recurses := true, apart := false }
def StakeLaterSaid : Prop := stakeLaterRow.holds Try.pinned (OpenSpec.ofChange stakeLaterSpec)

/-- ITS FALSE NEIGHBOUR: 'it returns false'. Refute it at one input. -/
def stakeLaterWrong : ChangeSpec := { name := "stakeLater", fn := fun _ => fun
  | [d1, d2, d3] => { results := [.lit (.bool false)], args := [d1, d2, d3] }
  | _ => none }
def StakeLaterWrongFalsely : Prop := stakeLaterRow.holds Try.pinned (OpenSpec.ofChange stakeLaterWrong)

/-- 'gavelkindlaw18.StakeSpans': WHATEVER THE INPUT: true; the input reads as it did. -/
def stakeSpansSpec : ChangeSpec := { name := "stakeSpans", fn := fun _ => fun
  | [d1, d2] => { results := [.lit (.bool true)], args := [d1, d2] }
  | _ => none }
def stakeSpansRow : OpenClaim := { program := "ytjanbaecgldjkaa", sum := "b02a9fee451338fa57603a3e5b4196c808225d66ab8e8a2db33f64bfb95b5ab7", func := "gavelkind/gavelkindlaw18.StakeSpans", spec := "stakeSpans", unfollowed := true, recurses := true, apart := false }
def StakeSpansSaid : Prop := stakeSpansRow.holds Try.pinned (OpenSpec.ofChange stakeSpansSpec)

/-- ITS FALSE NEIGHBOUR: 'it returns false'. Refute it at one input. -/
def stakeSpansWrong : ChangeSpec := { name := "stakeSpans", fn := fun _ => fun
  | [d1, d2] => { results := [.lit (.bool false)], args := [d1, d2] }
  | _ => none }
def StakeSpansWrongFalsely : Prop := stakeSpansRow.holds Try.pinned (OpenSpec.ofChange stakeSpansWrong)

/- THE SECOND FORM. 'bulk': how many values and letters a reading holds, each counted each time it is reached (what is shared counts as often as it is met; a slice's spare places count too). A statement '..UptoSaid' is the law's where the arguments, and the package variables that the reading takes, are together of bulk at most 1048576: NARROWER than '..Said'. Prove '..Said' where nothing that the law and all that it calls make is longer than what came in: it says more and counts as full. Else prove '..UptoSaid'. A law counts once. -/
mutual
def uptoBulk {H : Type} : DataW H → Nat
  | .lit (.string bytes) => bytes.length + 1
  | .lit _ => 1
  | .nil => 1
  | .ptr d => uptoBulk d + 1
  | .slice elems spare => uptoBulkAll elems + uptoBulkAll spare + 1
  | .agg parts => uptoBulkAll parts + 1
  | .iface _ d => uptoBulk d + 1
  | .map entries => uptoBulkEntries entries + 1
  | .held _ => 1
def uptoBulkAll {H : Type} : List (DataW H) → Nat
  | [] => 0
  | d :: r => uptoBulk d + uptoBulkAll r
def uptoBulkEntries {H : Type} : List (Lit × DataW H) → Nat
  | [] => 0
  | x :: r => uptoBulkEntry x + uptoBulkEntries r
def uptoBulkEntry {H : Type} : Lit × DataW H → Nat
  | (.string bytes, d) => bytes.length + uptoBulk d + 1
  | (_, d) => uptoBulk d + 1
 end
def uptoSmall : (H : Type) → List (DataW H) → Bool := fun _ ds => decide (uptoBulkAll ds ≤ 1048576)
def OpenSpec.upto (s : _root_.Go.ChangeSpec) : _root_.Go.OpenSpec := { _root_.Go.OpenSpec.ofChange s with cond := some uptoSmall }

/-- 'gavelkindlaw18.StakeTells', WHERE WHAT IT READS IS OF BULK AT MOST 1048576: true; the input reads as it did. -/
def stakeTellsUptoRow : OpenClaim := { program := "ytjanbaecgldjkaa", sum := "b02a9fee451338fa57603a3e5b4196c808225d66ab8e8a2db33f64bfb95b5ab7", func := "gavelkind/gavelkindlaw18.StakeTells", spec := "stakeTells", unfollowed := true, recurses := true, apart := false, narrowed := true }
def StakeTellsUptoSaid : Prop := stakeTellsUptoRow.holds Try.pinned (OpenSpec.upto stakeTellsSpec)

/-- 'gavelkindlaw18.StakeHolds', WHERE WHAT IT READS IS OF BULK AT MOST 1048576: true; the input reads as it did. -/
def stakeHoldsUptoRow : OpenClaim := { program := "ytjanbaecgldjkaa", sum := "b02a9fee451338fa57603a3e5b4196c808225d66ab8e8a2db33f64bfb95b5ab7", func := "gavelkind/gavelkindlaw18.StakeHolds", spec := "stakeHolds", unfollowed := true, recurses := true, apart := false, narrowed := true }
def StakeHoldsUptoSaid : Prop := stakeHoldsUptoRow.holds Try.pinned (OpenSpec.upto stakeHoldsSpec)

/-- 'gavelkindlaw18.StakeFree', WHERE WHAT IT READS IS OF BULK AT MOST 1048576: true; the input reads as it did. -/
def stakeFreeUptoRow : OpenClaim := { program := "ytjanbaecgldjkaa", sum := "b02a9fee451338fa57603a3e5b4196c808225d66ab8e8a2db33f64bfb95b5ab7", func := "gavelkind/gavelkindlaw18.StakeFree", spec := "stakeFree", unfollowed := true, recurses := true, apart := false, narrowed := true }
def StakeFreeUptoSaid : Prop := stakeFreeUptoRow.holds Try.pinned (OpenSpec.upto stakeFreeSpec)

/-- 'gavelkindlaw18.StakeLater', WHERE WHAT IT READS IS OF BULK AT MOST 1048576: true; the input reads as it did. -/
def stakeLaterUptoRow : OpenClaim := { program := "ytjanbaecgldjkaa", sum := "b02a9fee451338fa57603a3e5b4196c808225d66ab8e8a2db33f64bfb95b5ab7", func := "gavelkind/gavelkindlaw18.StakeLater", spec := "stakeLater", unfollowed := true, recurses := true, apart := false, narrowed := true }
def StakeLaterUptoSaid : Prop := stakeLaterUptoRow.holds Try.pinned (OpenSpec.upto stakeLaterSpec)

/-- 'gavelkindlaw18.StakeSpans', WHERE WHAT IT READS IS OF BULK AT MOST 1048576: true; the input reads as it did. -/
def stakeSpansUptoRow : OpenClaim := { program := "ytjanbaecgldjkaa", sum := "b02a9fee451338fa57603a3e5b4196c808225d66ab8e8a2db33f64bfb95b5ab7", func := "gavelkind/gavelkindlaw18.StakeSpans", spec := "stakeSpans", unfollowed := true, recurses := true, apart := false, narrowed := true }
def StakeSpansUptoSaid : Prop := stakeSpansUptoRow.holds Try.pinned (OpenSpec.upto stakeSpansSpec)

end Rows
end Go.Proofs.Ytjanbaecgldjkaa
