/-
  DERIVED. GIVEN WITH THE SEED: THE CARDS: each row of YtkgedoedojkdkabDoorRows.lean that lists a variable, with what it lists TIED to the program's text (the seventh form; the later family's looks); each row that meets fmt, with fmt's text TOLD by the authors' own Lean function (tested against real Go, not proved from fmt's source: count such statements apart). THE CARD IS WHAT COUNTS. Prove the row's statement (the work); the ties are given (YtkgedoedojkdkabDoorTie.lean); close each card by the builder's one call (the guide's Derived/Test/ToyasCard.lean, 'card_holds'). Laid BY PROGRAM, IN A SANDBOX (cutbox-door.mjs). By AI agents, Wed Nov 11 2026. No macro, syntax, notation, axiom, sorry.
-/
import Derived.Test.YtkgedoedojkdkabDoorRows
import GoSem.ClaimSeven
namespace Go.Proofs.YtkgedoedojkdkabDoor
namespace Rows

/-- THE TIED CARD OF 'heraldlaw01.PrimKnown'. -/
def primKnownCard : Claim7 := { stood := { row := primKnownRow, standIns := [], harness := (true, "bd7f064176317792feda7ecb81713ea6e983f4d01e9ebcd40c76ef2e57386e49"), looks := true }, kinds := [], alts := [], laidByText := true, laidKinds := [.data, .data, .data, .data, .sentinel, .sentinel, .data, .data, .pinned], laidTests := true, laidLooks := .later }
def PrimKnownCardSaid : Prop := Claim7.holds Tryd.pinned (.plain (OpenSpec.ofChange primKnownSpec)) primKnownCard

/-- THE SECOND FORM's CARD OF 'heraldlaw01.PrimKnown'. -/
def primKnownUptoCard : Claim7 := { stood := { row := primKnownUptoRow, standIns := [], harness := (true, "bd7f064176317792feda7ecb81713ea6e983f4d01e9ebcd40c76ef2e57386e49"), looks := true }, kinds := [], alts := [], laidByText := true, laidKinds := [.data, .data, .data, .data, .sentinel, .sentinel, .data, .data, .pinned], laidTests := true, laidLooks := .later }
def PrimKnownUptoCardSaid : Prop := Claim7.holds Tryd.pinned (.plain (OpenSpec.upto primKnownSpec)) primKnownUptoCard
end Rows
end Go.Proofs.YtkgedoedojkdkabDoor
