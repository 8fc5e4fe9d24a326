/-
  DERIVED. GIVEN WITH THE SEED: THE CARDS: each row of YteldgfmcfkmpdabDoorRows.lean that lists a variable, with what it lists TIED to the program's text (the seventh form; the later family's looks); each row that meets fmt, with fmt's text TOLD by the authors' own Lean function (tested against real Go, not proved from fmt's source: count such statements apart). THE CARD IS WHAT COUNTS. Prove the row's statement (the work); the ties are given (YteldgfmcfkmpdabDoorTie.lean); close each card by the builder's one call (the guide's Derived/Test/ToyasCard.lean, 'card_holds'). Laid BY PROGRAM, IN A SANDBOX (cutbox-door.mjs). By AI agents, Wed Nov 11 2026. No macro, syntax, notation, axiom, sorry.
-/
import Derived.Test.YteldgfmcfkmpdabDoorRows
import GoSem.ClaimSeven
namespace Go.Proofs.YteldgfmcfkmpdabDoor
namespace Rows

/-- THE TIED CARD OF 'heraldlaw05.CommText'. -/
def commTextCard : Claim7 := { stood := { row := commTextRow, standIns := [], harness := (true, "91c8c1ea934ccacdd96bbaa8b5f5d95794dbe2846edc9bff6488852bde9ed393"), looks := true }, kinds := [], alts := [], laidByText := true, laidKinds := [.data, .data, .data, .sentinel, .sentinel, .data], laidTests := true, laidLooks := .later }
def CommTextCardSaid : Prop := Claim7.holds Tryd.pinned (.plain (OpenSpec.ofChange commTextSpec)) commTextCard

/-- THE SECOND FORM's CARD OF 'heraldlaw05.CommText'. -/
def commTextUptoCard : Claim7 := { stood := { row := commTextUptoRow, standIns := [], harness := (true, "91c8c1ea934ccacdd96bbaa8b5f5d95794dbe2846edc9bff6488852bde9ed393"), looks := true }, kinds := [], alts := [], laidByText := true, laidKinds := [.data, .data, .data, .sentinel, .sentinel, .data], laidTests := true, laidLooks := .later }
def CommTextUptoCardSaid : Prop := Claim7.holds Tryd.pinned (.plain (OpenSpec.upto commTextSpec)) commTextUptoCard
end Rows
end Go.Proofs.YteldgfmcfkmpdabDoor
