/-
  No cell of these rows narrows 'for every input' (looked for: loops, veiled, ifaces, maps, wideKeys, modest, calm, conditions, laid).
  DERIVED. THE GIVEN ROWS OF THIS SEAT. 5 by the template 'for every input the law returns true; each argument reads behind the call as it read before'; 0 by the template 'total and deterministic' (their statements: YteendpdidkekkaaTotals.lean).
  GIVEN WITH THE SEED: the statements are not yours to turn. If you find one false, say at which input.
  Laid BY PROGRAM, IN A SANDBOX (cutbox-rows.mjs): the forced cells as the released guide's own fill.sh prints them over the translation 9efbe95c23aebc41… (all of the seat's roots in one cut). By AI agents, Wed Nov 11 2026. No macro, syntax, notation, axiom, sorry.
-/
import Derived.Test.YteendpdidkekkaaChecked
import GoSem.Claim
import GoSem.ClaimJoined
import GoSem.ClaimMapViews
import Derived.JoinedTies
import Derived.KernelRfl
namespace Go.Proofs.Yteendpdidkekkaa
/- THE CELL 'sum', in the pinned program and in every row, IS THE sha256 OF THE DUMP (.gsa) THAT YteendpdidkekkaaProg.lean LOADS. Nothing in Lean hashes anything: it is a label: what it is worth is what the hold of that sum in a sandbox is worth. -/
noncomputable def Try.pinned : Pinned := { name := "yteendpdidkekkaa", sum := "9efbe95c23aebc414edaf53acb38c2fae04b7ac5238343bdb94157d3be426464", checked := Try.checked }
namespace Rows
def none {H : Type} : Left H := { results := [], args := [] }

/-- 'gavelkindlaw20.AccountTells': WHATEVER THE INPUT: true; the input reads as it did. -/
def accountTellsSpec : ChangeSpec := { name := "accountTells", fn := fun _ => fun
  | [d1, d2] => { results := [.lit (.bool true)], args := [d1, d2] }
  | _ => none }
def accountTellsRow : OpenClaim := { program := "yteendpdidkekkaa", sum := "9efbe95c23aebc414edaf53acb38c2fae04b7ac5238343bdb94157d3be426464", func := "gavelkind/gavelkindlaw20.AccountTells", spec := "accountTells", unfollowed := true, recurses := true, apart := false }
def AccountTellsSaid : Prop := accountTellsRow.holds Try.pinned (OpenSpec.ofChange accountTellsSpec)

/-- ITS FALSE NEIGHBOUR: 'it returns false'. Refute it at one input. -/
def accountTellsWrong : ChangeSpec := { name := "accountTells", fn := fun _ => fun
  | [d1, d2] => { results := [.lit (.bool false)], args := [d1, d2] }
  | _ => none }
def AccountTellsWrongFalsely : Prop := accountTellsRow.holds Try.pinned (OpenSpec.ofChange accountTellsWrong)

/-- 'gavelkindlaw20.AccountMakes': WHATEVER THE INPUT: true; the input reads as it did. -/
def accountMakesSpec : ChangeSpec := { name := "accountMakes", fn := fun _ => fun
  | [d1, d2, d3] => { results := [.lit (.bool true)], args := [d1, d2, d3] }
  | _ => none }
def accountMakesRow : OpenClaim := { program := "yteendpdidkekkaa", sum := "9efbe95c23aebc414edaf53acb38c2fae04b7ac5238343bdb94157d3be426464", func := "gavelkind/gavelkindlaw20.AccountMakes", spec := "accountMakes", unfollowed := true, recurses := true, apart := false }
def AccountMakesSaid : Prop := accountMakesRow.holds Try.pinned (OpenSpec.ofChange accountMakesSpec)

/-- ITS FALSE NEIGHBOUR: 'it returns false'. Refute it at one input. -/
def accountMakesWrong : ChangeSpec := { name := "accountMakes", fn := fun _ => fun
  | [d1, d2, d3] => { results := [.lit (.bool false)], args := [d1, d2, d3] }
  | _ => none }
def AccountMakesWrongFalsely : Prop := accountMakesRow.holds Try.pinned (OpenSpec.ofChange accountMakesWrong)

/-- 'gavelkindlaw20.AccountLeaves': WHATEVER THE INPUT: true; the input reads as it did. -/
def accountLeavesSpec : ChangeSpec := { name := "accountLeaves", fn := fun _ => fun
  | [d] => { results := [.lit (.bool true)], args := [d] }
  | _ => none }
def accountLeavesRow : OpenClaim := { program := "yteendpdidkekkaa", sum := "9efbe95c23aebc414edaf53acb38c2fae04b7ac5238343bdb94157d3be426464", func := "gavelkind/gavelkindlaw20.AccountLeaves", spec := "accountLeaves", unfollowed := true, recurses := true, apart := false }
def AccountLeavesSaid : Prop := accountLeavesRow.holds Try.pinned (OpenSpec.ofChange accountLeavesSpec)

/-- ITS FALSE NEIGHBOUR: 'it returns false'. Refute it at one input. -/
def accountLeavesWrong : ChangeSpec := { name := "accountLeaves", fn := fun _ => fun
  | [d] => { results := [.lit (.bool false)], args := [d] }
  | _ => none }
def AccountLeavesWrongFalsely : Prop := accountLeavesRow.holds Try.pinned (OpenSpec.ofChange accountLeavesWrong)

/-- 'gavelkindlaw20.AccountStays': WHATEVER THE INPUT: true; the input reads as it did. -/
def accountStaysSpec : ChangeSpec := { name := "accountStays", fn := fun _ => fun
  | [d1, d2, d3] => { results := [.lit (.bool true)], args := [d1, d2, d3] }
  | _ => none }
def accountStaysRow : OpenClaim := { program := "yteendpdidkekkaa", sum := "9efbe95c23aebc414edaf53acb38c2fae04b7ac5238343bdb94157d3be426464", func := "gavelkind/gavelkindlaw20.AccountStays", spec := "accountStays", unfollowed := true, recurses := true, apart := false }
def AccountStaysSaid : Prop := accountStaysRow.holds Try.pinned (OpenSpec.ofChange accountStaysSpec)

/-- ITS FALSE NEIGHBOUR: 'it returns false'. Refute it at one input. -/
def accountStaysWrong : ChangeSpec := { name := "accountStays", fn := fun _ => fun
  | [d1, d2, d3] => { results := [.lit (.bool false)], args := [d1, d2, d3] }
  | _ => none }
def AccountStaysWrongFalsely : Prop := accountStaysRow.holds Try.pinned (OpenSpec.ofChange accountStaysWrong)

/-- 'gavelkindlaw20.AccountWalks': WHATEVER THE INPUT: true; the input reads as it did. -/
def accountWalksSpec : ChangeSpec := { name := "accountWalks", fn := fun _ => fun
  | [d] => { results := [.lit (.bool true)], args := [d] }
  | _ => none }
def accountWalksRow : OpenClaim := { program := "yteendpdidkekkaa", sum := "9efbe95c23aebc414edaf53acb38c2fae04b7ac5238343bdb94157d3be426464", func := "gavelkind/gavelkindlaw20.AccountWalks", spec := "accountWalks", unfollowed := true, recurses := true, apart := false }
def AccountWalksSaid : Prop := accountWalksRow.holds Try.pinned (OpenSpec.ofChange accountWalksSpec)

/-- ITS FALSE NEIGHBOUR: 'it returns false'. Refute it at one input. -/
def accountWalksWrong : ChangeSpec := { name := "accountWalks", fn := fun _ => fun
  | [d] => { results := [.lit (.bool false)], args := [d] }
  | _ => none }
def AccountWalksWrongFalsely : Prop := accountWalksRow.holds Try.pinned (OpenSpec.ofChange accountWalksWrong)

/- THE SECOND FORM. 'bulk': how many values and letters a reading holds, each counted each time it is reached (what is shared counts as often as it is met; a slice's spare places count too). A statement '..UptoSaid' is the law's where the arguments, and the package variables that the reading takes, are together of bulk at most 1048576: NARROWER than '..Said'. Prove '..Said' where nothing that the law and all that it calls make is longer than what came in: it says more and counts as full. Else prove '..UptoSaid'. A law counts once. -/
mutual
def uptoBulk {H : Type} : DataW H → Nat
  | .lit (.string bytes) => bytes.length + 1
  | .lit _ => 1
  | .nil => 1
  | .ptr d => uptoBulk d + 1
  | .slice elems spare => uptoBulkAll elems + uptoBulkAll spare + 1
  | .agg parts => uptoBulkAll parts + 1
  | .iface _ d => uptoBulk d + 1
  | .map entries => uptoBulkEntries entries + 1
  | .held _ => 1
def uptoBulkAll {H : Type} : List (DataW H) → Nat
  | [] => 0
  | d :: r => uptoBulk d + uptoBulkAll r
def uptoBulkEntries {H : Type} : List (Lit × DataW H) → Nat
  | [] => 0
  | x :: r => uptoBulkEntry x + uptoBulkEntries r
def uptoBulkEntry {H : Type} : Lit × DataW H → Nat
  | (.string bytes, d) => bytes.length + uptoBulk d + 1
  | (_, d) => uptoBulk d + 1
 end
def uptoSmall : (H : Type) → List (DataW H) → Bool := fun _ ds => decide (uptoBulkAll ds ≤ 1048576)
def OpenSpec.upto (s : _root_.Go.ChangeSpec) : _root_.Go.OpenSpec := { _root_.Go.OpenSpec.ofChange s with cond := some uptoSmall }

/-- 'gavelkindlaw20.AccountTells', WHERE WHAT IT READS IS OF BULK AT MOST 1048576: true; the input reads as it did. -/
def accountTellsUptoRow : OpenClaim := { program := "yteendpdidkekkaa", sum := "9efbe95c23aebc414edaf53acb38c2fae04b7ac5238343bdb94157d3be426464", func := "gavelkind/gavelkindlaw20.AccountTells", spec := "accountTells", unfollowed := true, recurses := true, apart := false, narrowed := true }
def AccountTellsUptoSaid : Prop := accountTellsUptoRow.holds Try.pinned (OpenSpec.upto accountTellsSpec)

/-- 'gavelkindlaw20.AccountMakes', WHERE WHAT IT READS IS OF BULK AT MOST 1048576: true; the input reads as it did. -/
def accountMakesUptoRow : OpenClaim := { program := "yteendpdidkekkaa", sum := "9efbe95c23aebc414edaf53acb38c2fae04b7ac5238343bdb94157d3be426464", func := "gavelkind/gavelkindlaw20.AccountMakes", spec := "accountMakes", unfollowed := true, recurses := true, apart := false, narrowed := true }
def AccountMakesUptoSaid : Prop := accountMakesUptoRow.holds Try.pinned (OpenSpec.upto accountMakesSpec)

/-- 'gavelkindlaw20.AccountLeaves', WHERE WHAT IT READS IS OF BULK AT MOST 1048576: true; the input reads as it did. -/
def accountLeavesUptoRow : OpenClaim := { program := "yteendpdidkekkaa", sum := "9efbe95c23aebc414edaf53acb38c2fae04b7ac5238343bdb94157d3be426464", func := "gavelkind/gavelkindlaw20.AccountLeaves", spec := "accountLeaves", unfollowed := true, recurses := true, apart := false, narrowed := true }
def AccountLeavesUptoSaid : Prop := accountLeavesUptoRow.holds Try.pinned (OpenSpec.upto accountLeavesSpec)

/-- 'gavelkindlaw20.AccountStays', WHERE WHAT IT READS IS OF BULK AT MOST 1048576: true; the input reads as it did. -/
def accountStaysUptoRow : OpenClaim := { program := "yteendpdidkekkaa", sum := "9efbe95c23aebc414edaf53acb38c2fae04b7ac5238343bdb94157d3be426464", func := "gavelkind/gavelkindlaw20.AccountStays", spec := "accountStays", unfollowed := true, recurses := true, apart := false, narrowed := true }
def AccountStaysUptoSaid : Prop := accountStaysUptoRow.holds Try.pinned (OpenSpec.upto accountStaysSpec)

/-- 'gavelkindlaw20.AccountWalks', WHERE WHAT IT READS IS OF BULK AT MOST 1048576: true; the input reads as it did. -/
def accountWalksUptoRow : OpenClaim := { program := "yteendpdidkekkaa", sum := "9efbe95c23aebc414edaf53acb38c2fae04b7ac5238343bdb94157d3be426464", func := "gavelkind/gavelkindlaw20.AccountWalks", spec := "accountWalks", unfollowed := true, recurses := true, apart := false, narrowed := true }
def AccountWalksUptoSaid : Prop := accountWalksUptoRow.holds Try.pinned (OpenSpec.upto accountWalksSpec)

end Rows
end Go.Proofs.Yteendpdidkekkaa
