/-
  No cell of these rows narrows 'for every input' (looked for: loops, veiled, ifaces, maps, wideKeys, modest, calm, conditions, laid).
  DERIVED. THE GIVEN ROWS OF THIS SEAT. 3 by the template 'for every input the law returns true; each argument reads behind the call as it read before'; 0 by the template 'total and deterministic' (their statements: YthomlkgghdggmaaTotals.lean).
  GIVEN WITH THE SEED: the statements are not yours to turn. If you find one false, say at which input.
  Laid BY PROGRAM, IN A SANDBOX (cutbox-rows.mjs): the forced cells as the released guide's own fill.sh prints them over the translation f97530e74f0c50d3… (all of the seat's roots in one cut). By AI agents, Wed Nov 11 2026. No macro, syntax, notation, axiom, sorry.
-/
import Derived.Test.YthomlkgghdggmaaChecked
import GoSem.Claim
import GoSem.ClaimJoined
import GoSem.ClaimMapViews
import Derived.JoinedTies
import Derived.KernelRfl
namespace Go.Proofs.Ythomlkgghdggmaa
/- THE CELL 'sum', in the pinned program and in every row, IS THE sha256 OF THE DUMP (.gsa) THAT YthomlkgghdggmaaProg.lean LOADS. Nothing in Lean hashes anything: it is a label: what it is worth is what the hold of that sum in a sandbox is worth. -/
noncomputable def Try.pinned : Pinned := { name := "ythomlkgghdggmaa", sum := "f97530e74f0c50d3abbbe48ebc0bfdaf98c48fcf1aac239378b600f95a320f42", checked := Try.checked }
namespace Rows
def none {H : Type} : Left H := { results := [], args := [] }

/-- 'gavelkindlaw17.EntityTells': WHATEVER THE INPUT: true; the input reads as it did. -/
def entityTellsSpec : ChangeSpec := { name := "entityTells", fn := fun _ => fun
  | [d1, d2, d3] => { results := [.lit (.bool true)], args := [d1, d2, d3] }
  | _ => none }
def entityTellsRow : OpenClaim := { program := "ythomlkgghdggmaa", sum := "f97530e74f0c50d3abbbe48ebc0bfdaf98c48fcf1aac239378b600f95a320f42", func := "gavelkind/gavelkindlaw17.EntityTells", spec := "entityTells", unfollowed := true, recurses := true, apart := false }
def EntityTellsSaid : Prop := entityTellsRow.holds Try.pinned (OpenSpec.ofChange entityTellsSpec)

/-- ITS FALSE NEIGHBOUR: 'it returns false'. Refute it at one input. -/
def entityTellsWrong : ChangeSpec := { name := "entityTells", fn := fun _ => fun
  | [d1, d2, d3] => { results := [.lit (.bool false)], args := [d1, d2, d3] }
  | _ => none }
def EntityTellsWrongFalsely : Prop := entityTellsRow.holds Try.pinned (OpenSpec.ofChange entityTellsWrong)

/-- 'gavelkindlaw17.EntityAdds': WHATEVER THE INPUT: true; the input reads as it did. -/
def entityAddsSpec : ChangeSpec := { name := "entityAdds", fn := fun _ => fun
  | [d1, d2, d3] => { results := [.lit (.bool true)], args := [d1, d2, d3] }
  | _ => none }
def entityAddsRow : OpenClaim := { program := "ythomlkgghdggmaa", sum := "f97530e74f0c50d3abbbe48ebc0bfdaf98c48fcf1aac239378b600f95a320f42", func := "gavelkind/gavelkindlaw17.EntityAdds", spec := "entityAdds", unfollowed := true, recurses := true, apart := false }
def EntityAddsSaid : Prop := entityAddsRow.holds Try.pinned (OpenSpec.ofChange entityAddsSpec)

/-- ITS FALSE NEIGHBOUR: 'it returns false'. Refute it at one input. -/
def entityAddsWrong : ChangeSpec := { name := "entityAdds", fn := fun _ => fun
  | [d1, d2, d3] => { results := [.lit (.bool false)], args := [d1, d2, d3] }
  | _ => none }
def EntityAddsWrongFalsely : Prop := entityAddsRow.holds Try.pinned (OpenSpec.ofChange entityAddsWrong)

/-- 'gavelkindlaw17.EntityOf': WHATEVER THE INPUT: true; the input reads as it did. -/
def entityOfSpec : ChangeSpec := { name := "entityOf", fn := fun _ => fun
  | [d1, d2] => { results := [.lit (.bool true)], args := [d1, d2] }
  | _ => none }
def entityOfRow : OpenClaim := { program := "ythomlkgghdggmaa", sum := "f97530e74f0c50d3abbbe48ebc0bfdaf98c48fcf1aac239378b600f95a320f42", func := "gavelkind/gavelkindlaw17.EntityOf", spec := "entityOf", unfollowed := true, recurses := true, apart := false }
def EntityOfSaid : Prop := entityOfRow.holds Try.pinned (OpenSpec.ofChange entityOfSpec)

/-- ITS FALSE NEIGHBOUR: 'it returns false'. Refute it at one input. -/
def entityOfWrong : ChangeSpec := { name := "entityOf", fn := fun _ => fun
  | [d1, d2] => { results := [.lit (.bool false)], args := [d1, d2] }
  | _ => none }
def EntityOfWrongFalsely : Prop := entityOfRow.holds Try.pinned (OpenSpec.ofChange entityOfWrong)

/- THE SECOND FORM. 'bulk': how many values and letters a reading holds, each counted each time it is reached (what is shared counts as often as it is met; a slice's spare places count too). A statement '..UptoSaid' is the law's where the arguments, and the package variables that the reading takes, are together of bulk at most 1048576: NARROWER than '..Said'. Prove '..Said' where nothing that the law and all that it calls make is longer than what came in: it says more and counts as full. Else prove '..UptoSaid'. A law counts once. -/
mutual
def uptoBulk {H : Type} : DataW H → Nat
  | .lit (.string bytes) => bytes.length + 1
  | .lit _ => 1
  | .nil => 1
  | .ptr d => uptoBulk d + 1
  | .slice elems spare => uptoBulkAll elems + uptoBulkAll spare + 1
  | .agg parts => uptoBulkAll parts + 1
  | .iface _ d => uptoBulk d + 1
  | .map entries => uptoBulkEntries entries + 1
  | .held _ => 1
def uptoBulkAll {H : Type} : List (DataW H) → Nat
  | [] => 0
  | d :: r => uptoBulk d + uptoBulkAll r
def uptoBulkEntries {H : Type} : List (Lit × DataW H) → Nat
  | [] => 0
  | x :: r => uptoBulkEntry x + uptoBulkEntries r
def uptoBulkEntry {H : Type} : Lit × DataW H → Nat
  | (.string bytes, d) => bytes.length + uptoBulk d + 1
  | (_, d) => uptoBulk d + 1
 end
def uptoSmall : (H : Type) → List (DataW H) → Bool := fun _ ds => decide (uptoBulkAll ds ≤ 1048576)
def OpenSpec.upto (s : _root_.Go.ChangeSpec) : _root_.Go.OpenSpec := { _root_.Go.OpenSpec.ofChange s with cond := some uptoSmall }

/-- 'gavelkindlaw17.EntityTells', WHERE WHAT IT READS IS OF BULK AT MOST 1048576: true; the input reads as it did. -/
def entityTellsUptoRow : OpenClaim := { program := "ythomlkgghdggmaa", sum := "f97530e74f0c50d3abbbe48ebc0bfdaf98c48fcf1aac239378b600f95a320f42", func := "gavelkind/gavelkindlaw17.EntityTells", spec := "entityTells", unfollowed := true, recurses := true, apart := false, narrowed := true }
def EntityTellsUptoSaid : Prop := entityTellsUptoRow.holds Try.pinned (OpenSpec.upto entityTellsSpec)

/-- 'gavelkindlaw17.EntityAdds', WHERE WHAT IT READS IS OF BULK AT MOST 1048576: true; the input reads as it did. -/
def entityAddsUptoRow : OpenClaim := { program := "ythomlkgghdggmaa", sum := "f97530e74f0c50d3abbbe48ebc0bfdaf98c48fcf1aac239378b600f95a320f42", func := "gavelkind/gavelkindlaw17.EntityAdds", spec := "entityAdds", unfollowed := true, recurses := true, apart := false, narrowed := true }
def EntityAddsUptoSaid : Prop := entityAddsUptoRow.holds Try.pinned (OpenSpec.upto entityAddsSpec)

/-- 'gavelkindlaw17.EntityOf', WHERE WHAT IT READS IS OF BULK AT MOST 1048576: true; the input reads as it did. -/
def entityOfUptoRow : OpenClaim := { program := "ythomlkgghdggmaa", sum := "f97530e74f0c50d3abbbe48ebc0bfdaf98c48fcf1aac239378b600f95a320f42", func := "gavelkind/gavelkindlaw17.EntityOf", spec := "entityOf", unfollowed := true, recurses := true, apart := false, narrowed := true }
def EntityOfUptoSaid : Prop := entityOfUptoRow.holds Try.pinned (OpenSpec.upto entityOfSpec)

end Rows
end Go.Proofs.Ythomlkgghdggmaa
