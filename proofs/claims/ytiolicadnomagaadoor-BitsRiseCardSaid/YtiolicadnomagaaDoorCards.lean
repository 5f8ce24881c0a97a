/-
  DERIVED. GIVEN WITH THE SEED: THE CARDS: each row of YtiolicadnomagaaDoorRows.lean that lists a variable, with what it lists TIED to the program's text (the seventh form; the later family's looks); each row that meets fmt, with fmt's text TOLD by the authors' own Lean function (tested against real Go, not proved from fmt's source: count such statements apart). THE CARD IS WHAT COUNTS. Prove the row's statement (the work); the ties are given (YtiolicadnomagaaDoorTie.lean); close each card by the builder's one call (the guide's Derived/Test/ToyasCard.lean, 'card_holds'). Laid BY PROGRAM, IN A SANDBOX (cutbox-door.mjs). By AI agents, Wed Nov 11 2026. No macro, syntax, notation, axiom, sorry.
-/
import Derived.Test.YtiolicadnomagaaDoorRows
import GoSem.ClaimSeven
namespace Go.Proofs.YtiolicadnomagaaDoor
namespace Rows

/-- THE TIED CARD OF 'gavelkindlaw11.BitsPlay'. -/
def bitsPlayCard : Claim7 := { stood := { row := bitsPlayRow, standIns := [], harness := (true, "3622f814cbfbd8d90951fea1687c74aad3e923b7e40f7a9d77d3e48b4fceebbd"), looks := false }, kinds := [], alts := [], laidByText := true, laidKinds := [.data], laidTests := true, laidLooks := .later }
def BitsPlayCardSaid : Prop := Claim7.holds Tryd.pinned (.plain (OpenSpec.ofChange bitsPlaySpec)) bitsPlayCard

/-- THE TIED CARD OF 'gavelkindlaw11.BitsJoin'. -/
def bitsJoinCard : Claim7 := { stood := { row := bitsJoinRow, standIns := [], harness := (true, "3622f814cbfbd8d90951fea1687c74aad3e923b7e40f7a9d77d3e48b4fceebbd"), looks := false }, kinds := [], alts := [], laidByText := true, laidKinds := [.data], laidTests := true, laidLooks := .later }
def BitsJoinCardSaid : Prop := Claim7.holds Tryd.pinned (.plain (OpenSpec.ofChange bitsJoinSpec)) bitsJoinCard

/-- THE TIED CARD OF 'gavelkindlaw11.BitsRise'. -/
def bitsRiseCard : Claim7 := { stood := { row := bitsRiseRow, standIns := [], harness := (true, "3622f814cbfbd8d90951fea1687c74aad3e923b7e40f7a9d77d3e48b4fceebbd"), looks := false }, kinds := [], alts := [], laidByText := true, laidKinds := [.data], laidTests := true, laidLooks := .later }
def BitsRiseCardSaid : Prop := Claim7.holds Tryd.pinned (.plain (OpenSpec.ofChange bitsRiseSpec)) bitsRiseCard

/-- THE SECOND FORM's CARD OF 'gavelkindlaw11.BitsPlay'. -/
def bitsPlayUptoCard : Claim7 := { stood := { row := bitsPlayUptoRow, standIns := [], harness := (true, "3622f814cbfbd8d90951fea1687c74aad3e923b7e40f7a9d77d3e48b4fceebbd"), looks := false }, kinds := [], alts := [], laidByText := true, laidKinds := [.data], laidTests := true, laidLooks := .later }
def BitsPlayUptoCardSaid : Prop := Claim7.holds Tryd.pinned (.plain (OpenSpec.upto bitsPlaySpec)) bitsPlayUptoCard

/-- THE SECOND FORM's CARD OF 'gavelkindlaw11.BitsJoin'. -/
def bitsJoinUptoCard : Claim7 := { stood := { row := bitsJoinUptoRow, standIns := [], harness := (true, "3622f814cbfbd8d90951fea1687c74aad3e923b7e40f7a9d77d3e48b4fceebbd"), looks := false }, kinds := [], alts := [], laidByText := true, laidKinds := [.data], laidTests := true, laidLooks := .later }
def BitsJoinUptoCardSaid : Prop := Claim7.holds Tryd.pinned (.plain (OpenSpec.upto bitsJoinSpec)) bitsJoinUptoCard

/-- THE SECOND FORM's CARD OF 'gavelkindlaw11.BitsRise'. -/
def bitsRiseUptoCard : Claim7 := { stood := { row := bitsRiseUptoRow, standIns := [], harness := (true, "3622f814cbfbd8d90951fea1687c74aad3e923b7e40f7a9d77d3e48b4fceebbd"), looks := false }, kinds := [], alts := [], laidByText := true, laidKinds := [.data], laidTests := true, laidLooks := .later }
def BitsRiseUptoCardSaid : Prop := Claim7.holds Tryd.pinned (.plain (OpenSpec.upto bitsRiseSpec)) bitsRiseUptoCard
end Rows
end Go.Proofs.YtiolicadnomagaaDoor
