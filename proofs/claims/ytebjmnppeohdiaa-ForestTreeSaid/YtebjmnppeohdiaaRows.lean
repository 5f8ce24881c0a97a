/-
  No cell of these rows narrows 'for every input' (looked for: loops, veiled, ifaces, maps, wideKeys, modest, calm, conditions, laid).
  DERIVED. THE GIVEN ROWS OF THIS SEAT. 4 by the template 'for every input the law returns true; each argument reads behind the call as it read before'; 0 by the template 'total and deterministic' (their statements: YtebjmnppeohdiaaTotals.lean).
  GIVEN WITH THE SEED: the statements are not yours to turn. If you find one false, say at which input.
  Laid BY PROGRAM, IN A SANDBOX (cutbox-rows.mjs): the forced cells as the released guide's own fill.sh prints them over the translation e169fc0beb2cdea7… (all of the seat's roots in one cut). By AI agents, Wed Nov 11 2026. No macro, syntax, notation, axiom, sorry.
-/
import Derived.Test.YtebjmnppeohdiaaChecked
import GoSem.Claim
import GoSem.ClaimJoined
import GoSem.ClaimMapViews
import Derived.JoinedTies
import Derived.KernelRfl
namespace Go.Proofs.Ytebjmnppeohdiaa
/- THE CELL 'sum', in the pinned program and in every row, IS THE sha256 OF THE DUMP (.gsa) THAT YtebjmnppeohdiaaProg.lean LOADS. Nothing in Lean hashes anything: it is a label: what it is worth is what the hold of that sum in a sandbox is worth. -/
noncomputable def Try.pinned : Pinned := { name := "ytebjmnppeohdiaa", sum := "e169fc0beb2cdea7f634ce0e60140fa71dbfc5760bf9ae2fb31cadab1ac92bc1", checked := Try.checked }
namespace Rows
def none {H : Type} : Left H := { results := [], args := [] }

/-- 'gavelkindlaw19.ForestTells': WHATEVER THE INPUT: true; the input reads as it did. -/
def forestTellsSpec : ChangeSpec := { name := "forestTells", fn := fun _ => fun
  | [d1, d2, d3] => { results := [.lit (.bool true)], args := [d1, d2, d3] }
  | _ => none }
def forestTellsRow : OpenClaim := { program := "ytebjmnppeohdiaa", sum := "e169fc0beb2cdea7f634ce0e60140fa71dbfc5760bf9ae2fb31cadab1ac92bc1", func := "gavelkind/gavelkindlaw19.ForestTells", spec := "forestTells", inPlace := ["math/bits.Sub64"], unfollowed := true, recurses := true, apart := false }
def ForestTellsSaid : Prop := forestTellsRow.holds Try.pinned (OpenSpec.ofChange forestTellsSpec)

/-- ITS FALSE NEIGHBOUR: 'it returns false'. Refute it at one input. -/
def forestTellsWrong : ChangeSpec := { name := "forestTells", fn := fun _ => fun
  | [d1, d2, d3] => { results := [.lit (.bool false)], args := [d1, d2, d3] }
  | _ => none }
def ForestTellsWrongFalsely : Prop := forestTellsRow.holds Try.pinned (OpenSpec.ofChange forestTellsWrong)

/-- 'gavelkindlaw19.ForestMeets': WHATEVER THE INPUT: true; the input reads as it did. -/
def forestMeetsSpec : ChangeSpec := { name := "forestMeets", fn := fun _ => fun
  | [d1, d2, d3] => { results := [.lit (.bool true)], args := [d1, d2, d3] }
  | _ => none }
def forestMeetsRow : OpenClaim := { program := "ytebjmnppeohdiaa", sum := "e169fc0beb2cdea7f634ce0e60140fa71dbfc5760bf9ae2fb31cadab1ac92bc1", func := "gavelkind/gavelkindlaw19.ForestMeets", spec := "forestMeets", inPlace := ["math/bits.Sub64"], unfollowed := true, recurses := true, apart := false }
def ForestMeetsSaid : Prop := forestMeetsRow.holds Try.pinned (OpenSpec.ofChange forestMeetsSpec)

/-- ITS FALSE NEIGHBOUR: 'it returns false'. Refute it at one input. -/
def forestMeetsWrong : ChangeSpec := { name := "forestMeets", fn := fun _ => fun
  | [d1, d2, d3] => { results := [.lit (.bool false)], args := [d1, d2, d3] }
  | _ => none }
def ForestMeetsWrongFalsely : Prop := forestMeetsRow.holds Try.pinned (OpenSpec.ofChange forestMeetsWrong)

/-- 'gavelkindlaw19.ForestTree': WHATEVER THE INPUT: true; the input reads as it did. -/
def forestTreeSpec : ChangeSpec := { name := "forestTree", fn := fun _ => fun
  | [d1, d2, d3] => { results := [.lit (.bool true)], args := [d1, d2, d3] }
  | _ => none }
def forestTreeRow : OpenClaim := { program := "ytebjmnppeohdiaa", sum := "e169fc0beb2cdea7f634ce0e60140fa71dbfc5760bf9ae2fb31cadab1ac92bc1", func := "gavelkind/gavelkindlaw19.ForestTree", spec := "forestTree", inPlace := ["math/bits.Sub64"], unfollowed := true, recurses := true, apart := false }
def ForestTreeSaid : Prop := forestTreeRow.holds Try.pinned (OpenSpec.ofChange forestTreeSpec)

/-- ITS FALSE NEIGHBOUR: 'it returns false'. Refute it at one input. -/
def forestTreeWrong : ChangeSpec := { name := "forestTree", fn := fun _ => fun
  | [d1, d2, d3] => { results := [.lit (.bool false)], args := [d1, d2, d3] }
  | _ => none }
def ForestTreeWrongFalsely : Prop := forestTreeRow.holds Try.pinned (OpenSpec.ofChange forestTreeWrong)

/-- 'gavelkindlaw19.ForestLowest': WHATEVER THE INPUT: true; the input reads as it did. -/
def forestLowestSpec : ChangeSpec := { name := "forestLowest", fn := fun _ => fun
  | [d1, d2, d3] => { results := [.lit (.bool true)], args := [d1, d2, d3] }
  | _ => none }
def forestLowestRow : OpenClaim := { program := "ytebjmnppeohdiaa", sum := "e169fc0beb2cdea7f634ce0e60140fa71dbfc5760bf9ae2fb31cadab1ac92bc1", func := "gavelkind/gavelkindlaw19.ForestLowest", spec := "forestLowest", inPlace := ["math/bits.Sub64"], unfollowed := true, recurses := true, apart := false }
def ForestLowestSaid : Prop := forestLowestRow.holds Try.pinned (OpenSpec.ofChange forestLowestSpec)

/-- ITS FALSE NEIGHBOUR: 'it returns false'. Refute it at one input. -/
def forestLowestWrong : ChangeSpec := { name := "forestLowest", fn := fun _ => fun
  | [d1, d2, d3] => { results := [.lit (.bool false)], args := [d1, d2, d3] }
  | _ => none }
def ForestLowestWrongFalsely : Prop := forestLowestRow.holds Try.pinned (OpenSpec.ofChange forestLowestWrong)

/- THE SECOND FORM. 'bulk': how many values and letters a reading holds, each counted each time it is reached (what is shared counts as often as it is met; a slice's spare places count too). A statement '..UptoSaid' is the law's where the arguments, and the package variables that the reading takes, are together of bulk at most 1048576: NARROWER than '..Said'. Prove '..Said' where nothing that the law and all that it calls make is longer than what came in: it says more and counts as full. Else prove '..UptoSaid'. A law counts once. -/
mutual
def uptoBulk {H : Type} : DataW H → Nat
  | .lit (.string bytes) => bytes.length + 1
  | .lit _ => 1
  | .nil => 1
  | .ptr d => uptoBulk d + 1
  | .slice elems spare => uptoBulkAll elems + uptoBulkAll spare + 1
  | .agg parts => uptoBulkAll parts + 1
  | .iface _ d => uptoBulk d + 1
  | .map entries => uptoBulkEntries entries + 1
  | .held _ => 1
def uptoBulkAll {H : Type} : List (DataW H) → Nat
  | [] => 0
  | d :: r => uptoBulk d + uptoBulkAll r
def uptoBulkEntries {H : Type} : List (Lit × DataW H) → Nat
  | [] => 0
  | x :: r => uptoBulkEntry x + uptoBulkEntries r
def uptoBulkEntry {H : Type} : Lit × DataW H → Nat
  | (.string bytes, d) => bytes.length + uptoBulk d + 1
  | (_, d) => uptoBulk d + 1
 end
def uptoSmall : (H : Type) → List (DataW H) → Bool := fun _ ds => decide (uptoBulkAll ds ≤ 1048576)
def OpenSpec.upto (s : _root_.Go.ChangeSpec) : _root_.Go.OpenSpec := { _root_.Go.OpenSpec.ofChange s with cond := some uptoSmall }

/-- 'gavelkindlaw19.ForestTells', WHERE WHAT IT READS IS OF BULK AT MOST 1048576: true; the input reads as it did. -/
def forestTellsUptoRow : OpenClaim := { program := "ytebjmnppeohdiaa", sum := "e169fc0beb2cdea7f634ce0e60140fa71dbfc5760bf9ae2fb31cadab1ac92bc1", func := "gavelkind/gavelkindlaw19.ForestTells", spec := "forestTells", inPlace := ["math/bits.Sub64"], unfollowed := true, recurses := true, apart := false, narrowed := true }
def ForestTellsUptoSaid : Prop := forestTellsUptoRow.holds Try.pinned (OpenSpec.upto forestTellsSpec)

/-- 'gavelkindlaw19.ForestMeets', WHERE WHAT IT READS IS OF BULK AT MOST 1048576: true; the input reads as it did. -/
def forestMeetsUptoRow : OpenClaim := { program := "ytebjmnppeohdiaa", sum := "e169fc0beb2cdea7f634ce0e60140fa71dbfc5760bf9ae2fb31cadab1ac92bc1", func := "gavelkind/gavelkindlaw19.ForestMeets", spec := "forestMeets", inPlace := ["math/bits.Sub64"], unfollowed := true, recurses := true, apart := false, narrowed := true }
def ForestMeetsUptoSaid : Prop := forestMeetsUptoRow.holds Try.pinned (OpenSpec.upto forestMeetsSpec)

/-- 'gavelkindlaw19.ForestTree', WHERE WHAT IT READS IS OF BULK AT MOST 1048576: true; the input reads as it did. -/
def forestTreeUptoRow : OpenClaim := { program := "ytebjmnppeohdiaa", sum := "e169fc0beb2cdea7f634ce0e60140fa71dbfc5760bf9ae2fb31cadab1ac92bc1", func := "gavelkind/gavelkindlaw19.ForestTree", spec := "forestTree", inPlace := ["math/bits.Sub64"], unfollowed := true, recurses := true, apart := false, narrowed := true }
def ForestTreeUptoSaid : Prop := forestTreeUptoRow.holds Try.pinned (OpenSpec.upto forestTreeSpec)

/-- 'gavelkindlaw19.ForestLowest', WHERE WHAT IT READS IS OF BULK AT MOST 1048576: true; the input reads as it did. -/
def forestLowestUptoRow : OpenClaim := { program := "ytebjmnppeohdiaa", sum := "e169fc0beb2cdea7f634ce0e60140fa71dbfc5760bf9ae2fb31cadab1ac92bc1", func := "gavelkind/gavelkindlaw19.ForestLowest", spec := "forestLowest", inPlace := ["math/bits.Sub64"], unfollowed := true, recurses := true, apart := false, narrowed := true }
def ForestLowestUptoSaid : Prop := forestLowestUptoRow.holds Try.pinned (OpenSpec.upto forestLowestSpec)

end Rows
end Go.Proofs.Ytebjmnppeohdiaa
