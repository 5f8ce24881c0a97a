/-
  No cell of these rows narrows 'for every input' (looked for: loops, veiled, ifaces, maps, wideKeys, modest, calm, conditions, laid).
  DERIVED. THE GIVEN ROWS OF THIS SEAT. 3 by the template 'for every input the law returns true; each argument reads behind the call as it read before'; 0 by the template 'total and deterministic' (their statements: YtogckefmmjbapaaTotals.lean).
  GIVEN WITH THE SEED: the statements are not yours to turn. If you find one false, say at which input.
  Laid BY PROGRAM, IN A SANDBOX (cutbox-rows.mjs): the forced cells as the released guide's own fill.sh prints them over the translation 039f2400d98d959d… (all of the seat's roots in one cut). By AI agents, Wed Nov 11 2026. No macro, syntax, notation, axiom, sorry.
-/
import Derived.Test.YtogckefmmjbapaaChecked
import GoSem.Claim
import GoSem.ClaimJoined
import GoSem.ClaimMapViews
import Derived.JoinedTies
import Derived.KernelRfl
namespace Go.Proofs.Ytogckefmmjbapaa
/- THE CELL 'sum', in the pinned program and in every row, IS THE sha256 OF THE DUMP (.gsa) THAT YtogckefmmjbapaaProg.lean LOADS. Nothing in Lean hashes anything: it is a label: what it is worth is what the hold of that sum in a sandbox is worth. -/
noncomputable def Try.pinned : Pinned := { name := "ytogckefmmjbapaa", sum := "039f2400d98d959dc44e93d9b402269ecf201df73f91b7b7f9175a36e7064edd", checked := Try.checked }
namespace Rows
def none {H : Type} : Left H := { results := [], args := [] }

/-- 'gavelkindlaw21.RateTells': WHATEVER THE INPUT: true; the input reads as it did. -/
def rateTellsSpec : ChangeSpec := { name := "rateTells", fn := fun _ => fun
  | [d1, d2] => { results := [.lit (.bool true)], args := [d1, d2] }
  | _ => none }
def rateTellsRow : OpenClaim := { program := "ytogckefmmjbapaa", sum := "039f2400d98d959dc44e93d9b402269ecf201df73f91b7b7f9175a36e7064edd", func := "gavelkind/gavelkindlaw21.RateTells", spec := "rateTells", inPlace := ["math/bits.Sub64"], unfollowed := true, recurses := true, apart := false }
def RateTellsSaid : Prop := rateTellsRow.holds Try.pinned (OpenSpec.ofChange rateTellsSpec)

/-- ITS FALSE NEIGHBOUR: 'it returns false'. Refute it at one input. -/
def rateTellsWrong : ChangeSpec := { name := "rateTells", fn := fun _ => fun
  | [d1, d2] => { results := [.lit (.bool false)], args := [d1, d2] }
  | _ => none }
def RateTellsWrongFalsely : Prop := rateTellsRow.holds Try.pinned (OpenSpec.ofChange rateTellsWrong)

/-- 'gavelkindlaw21.RateSets': WHATEVER THE INPUT: true; the input reads as it did. -/
def rateSetsSpec : ChangeSpec := { name := "rateSets", fn := fun _ => fun
  | [d1, d2, d3] => { results := [.lit (.bool true)], args := [d1, d2, d3] }
  | _ => none }
def rateSetsRow : OpenClaim := { program := "ytogckefmmjbapaa", sum := "039f2400d98d959dc44e93d9b402269ecf201df73f91b7b7f9175a36e7064edd", func := "gavelkind/gavelkindlaw21.RateSets", spec := "rateSets", inPlace := ["math/bits.Sub64"], unfollowed := true, recurses := true, apart := false }
def RateSetsSaid : Prop := rateSetsRow.holds Try.pinned (OpenSpec.ofChange rateSetsSpec)

/-- ITS FALSE NEIGHBOUR: 'it returns false'. Refute it at one input. -/
def rateSetsWrong : ChangeSpec := { name := "rateSets", fn := fun _ => fun
  | [d1, d2, d3] => { results := [.lit (.bool false)], args := [d1, d2, d3] }
  | _ => none }
def RateSetsWrongFalsely : Prop := rateSetsRow.holds Try.pinned (OpenSpec.ofChange rateSetsWrong)

/-- 'gavelkindlaw21.RateCrosses': WHATEVER THE INPUT: true; the input reads as it did. -/
def rateCrossesSpec : ChangeSpec := { name := "rateCrosses", fn := fun _ => fun
  | [d1, d2] => { results := [.lit (.bool true)], args := [d1, d2] }
  | _ => none }
def rateCrossesRow : OpenClaim := { program := "ytogckefmmjbapaa", sum := "039f2400d98d959dc44e93d9b402269ecf201df73f91b7b7f9175a36e7064edd", func := "gavelkind/gavelkindlaw21.RateCrosses", spec := "rateCrosses", inPlace := ["math/bits.Sub64"], unfollowed := true, recurses := true, apart := false }
def RateCrossesSaid : Prop := rateCrossesRow.holds Try.pinned (OpenSpec.ofChange rateCrossesSpec)

/-- ITS FALSE NEIGHBOUR: 'it returns false'. Refute it at one input. -/
def rateCrossesWrong : ChangeSpec := { name := "rateCrosses", fn := fun _ => fun
  | [d1, d2] => { results := [.lit (.bool false)], args := [d1, d2] }
  | _ => none }
def RateCrossesWrongFalsely : Prop := rateCrossesRow.holds Try.pinned (OpenSpec.ofChange rateCrossesWrong)

/- THE SECOND FORM. 'bulk': how many values and letters a reading holds, each counted each time it is reached (what is shared counts as often as it is met; a slice's spare places count too). A statement '..UptoSaid' is the law's where the arguments, and the package variables that the reading takes, are together of bulk at most 1048576: NARROWER than '..Said'. Prove '..Said' where nothing that the law and all that it calls make is longer than what came in: it says more and counts as full. Else prove '..UptoSaid'. A law counts once. -/
mutual
def uptoBulk {H : Type} : DataW H → Nat
  | .lit (.string bytes) => bytes.length + 1
  | .lit _ => 1
  | .nil => 1
  | .ptr d => uptoBulk d + 1
  | .slice elems spare => uptoBulkAll elems + uptoBulkAll spare + 1
  | .agg parts => uptoBulkAll parts + 1
  | .iface _ d => uptoBulk d + 1
  | .map entries => uptoBulkEntries entries + 1
  | .held _ => 1
def uptoBulkAll {H : Type} : List (DataW H) → Nat
  | [] => 0
  | d :: r => uptoBulk d + uptoBulkAll r
def uptoBulkEntries {H : Type} : List (Lit × DataW H) → Nat
  | [] => 0
  | x :: r => uptoBulkEntry x + uptoBulkEntries r
def uptoBulkEntry {H : Type} : Lit × DataW H → Nat
  | (.string bytes, d) => bytes.length + uptoBulk d + 1
  | (_, d) => uptoBulk d + 1
 end
def uptoSmall : (H : Type) → List (DataW H) → Bool := fun _ ds => decide (uptoBulkAll ds ≤ 1048576)
def OpenSpec.upto (s : _root_.Go.ChangeSpec) : _root_.Go.OpenSpec := { _root_.Go.OpenSpec.ofChange s with cond := some uptoSmall }

/-- 'gavelkindlaw21.RateTells', WHERE WHAT IT READS IS OF BULK AT MOST 1048576: true; the input reads as it did. -/
def rateTellsUptoRow : OpenClaim := { program := "ytogckefmmjbapaa", sum := "039f2400d98d959dc44e93d9b402269ecf201df73f91b7b7f9175a36e7064edd", func := "gavelkind/gavelkindlaw21.RateTells", spec := "rateTells", inPlace := ["math/bits.Sub64"], unfollowed := true, recurses := true, apart := false, narrowed := true }
def RateTellsUptoSaid : Prop := rateTellsUptoRow.holds Try.pinned (OpenSpec.upto rateTellsSpec)

/-- 'gavelkindlaw21.RateSets', WHERE WHAT IT READS IS OF BULK AT MOST 1048576: true; the input reads as it did. -/
def rateSetsUptoRow : OpenClaim := { program := "ytogckefmmjbapaa", sum := "039f2400d98d959dc44e93d9b402269ecf201df73f91b7b7f9175a36e7064edd", func := "gavelkind/gavelkindlaw21.RateSets", spec := "rateSets", inPlace := ["math/bits.Sub64"], unfollowed := true, recurses := true, apart := false, narrowed := true }
def RateSetsUptoSaid : Prop := rateSetsUptoRow.holds Try.pinned (OpenSpec.upto rateSetsSpec)

/-- 'gavelkindlaw21.RateCrosses', WHERE WHAT IT READS IS OF BULK AT MOST 1048576: true; the input reads as it did. -/
def rateCrossesUptoRow : OpenClaim := { program := "ytogckefmmjbapaa", sum := "039f2400d98d959dc44e93d9b402269ecf201df73f91b7b7f9175a36e7064edd", func := "gavelkind/gavelkindlaw21.RateCrosses", spec := "rateCrosses", inPlace := ["math/bits.Sub64"], unfollowed := true, recurses := true, apart := false, narrowed := true }
def RateCrossesUptoSaid : Prop := rateCrossesUptoRow.holds Try.pinned (OpenSpec.upto rateCrossesSpec)

end Rows
end Go.Proofs.Ytogckefmmjbapaa
