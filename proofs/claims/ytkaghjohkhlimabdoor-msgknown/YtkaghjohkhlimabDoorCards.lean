/-
  DERIVED. GIVEN WITH THE SEED: THE CARDS: each row of YtkaghjohkhlimabDoorRows.lean that lists a variable, with what it lists TIED to the program's text (the seventh form; the later family's looks); each row that meets fmt, with fmt's text TOLD by the authors' own Lean function (tested against real Go, not proved from fmt's source: count such statements apart). THE CARD IS WHAT COUNTS. Prove the row's statement (the work); the ties are given (YtkaghjohkhlimabDoorTie.lean); close each card by the builder's one call (the guide's Derived/Test/ToyasCard.lean, 'card_holds'). Laid BY PROGRAM, IN A SANDBOX (cutbox-door.mjs). By AI agents, Wed Nov 11 2026. No macro, syntax, notation, axiom, sorry.
-/
import Derived.Test.YtkaghjohkhlimabDoorRows
import GoSem.ClaimSeven
namespace Go.Proofs.YtkaghjohkhlimabDoor
namespace Rows

/-- THE TIED CARD OF 'heraldlaw12.MsgKnown'. -/
def msgKnownCard : Claim7 := { stood := { row := msgKnownRow, standIns := [], harness := (true, "3ba6e60aa6e60c34e3e9fd9dfa97edab963ca8c1ce7e1d83b1839a0712122455"), looks := false }, kinds := [], alts := [], laidByText := true, laidKinds := [.data], laidTests := true, laidLooks := .later }
def MsgKnownCardSaid : Prop := Claim7.holds Tryd.pinned (.plain (OpenSpec.ofChange msgKnownSpec)) msgKnownCard

/-- THE SECOND FORM's CARD OF 'heraldlaw12.MsgKnown'. -/
def msgKnownUptoCard : Claim7 := { stood := { row := msgKnownUptoRow, standIns := [], harness := (true, "3ba6e60aa6e60c34e3e9fd9dfa97edab963ca8c1ce7e1d83b1839a0712122455"), looks := false }, kinds := [], alts := [], laidByText := true, laidKinds := [.data], laidTests := true, laidLooks := .later }
def MsgKnownUptoCardSaid : Prop := Claim7.holds Tryd.pinned (.plain (OpenSpec.upto msgKnownSpec)) msgKnownUptoCard
end Rows
end Go.Proofs.YtkaghjohkhlimabDoor
