/-
  DERIVED. GIVEN WITH THE SEED: THE CARDS: each row of YtlhnfejgkhilkabDoorRows.lean that lists a variable, with what it lists TIED to the program's text (the seventh form; the later family's looks); each row that meets fmt, with fmt's text TOLD by the authors' own Lean function (tested against real Go, not proved from fmt's source: count such statements apart). THE CARD IS WHAT COUNTS. Prove the row's statement (the work); the ties are given (YtlhnfejgkhilkabDoorTie.lean); close each card by the builder's one call (the guide's Derived/Test/ToyasCard.lean, 'card_holds'). Laid BY PROGRAM, IN A SANDBOX (cutbox-door.mjs). By AI agents, Wed Nov 11 2026. No macro, syntax, notation, axiom, sorry.
-/
import Derived.Test.YtlhnfejgkhilkabDoorRows
import GoSem.ClaimSeven
namespace Go.Proofs.YtlhnfejgkhilkabDoor
namespace Rows

/-- THE TIED CARD OF 'heraldlaw10.OpenTurned'. -/
def openTurnedCard : Claim7 := { stood := { row := openTurnedRow, standIns := [], harness := (true, "15951a80fd81a3a6a4255fc8b7490cd51bf69b403f33b577102ab7702044f730"), looks := false }, kinds := [], alts := [], laidByText := true, laidKinds := [.data], laidTests := true, laidLooks := .later }
def OpenTurnedCardSaid : Prop := Claim7.holds Tryd.pinned (.plain (OpenSpec.ofChange openTurnedSpec)) openTurnedCard

/-- THE TIED CARD OF 'heraldlaw10.OpenKnown'. -/
def openKnownCard : Claim7 := { stood := { row := openKnownRow, standIns := [], harness := (true, "15951a80fd81a3a6a4255fc8b7490cd51bf69b403f33b577102ab7702044f730"), looks := false }, kinds := [], alts := [], laidByText := true, laidKinds := [.data], laidTests := true, laidLooks := .later }
def OpenKnownCardSaid : Prop := Claim7.holds Tryd.pinned (.plain (OpenSpec.ofChange openKnownSpec)) openKnownCard

/-- THE SECOND FORM's CARD OF 'heraldlaw10.OpenTurned'. -/
def openTurnedUptoCard : Claim7 := { stood := { row := openTurnedUptoRow, standIns := [], harness := (true, "15951a80fd81a3a6a4255fc8b7490cd51bf69b403f33b577102ab7702044f730"), looks := false }, kinds := [], alts := [], laidByText := true, laidKinds := [.data], laidTests := true, laidLooks := .later }
def OpenTurnedUptoCardSaid : Prop := Claim7.holds Tryd.pinned (.plain (OpenSpec.upto openTurnedSpec)) openTurnedUptoCard

/-- THE SECOND FORM's CARD OF 'heraldlaw10.OpenKnown'. -/
def openKnownUptoCard : Claim7 := { stood := { row := openKnownUptoRow, standIns := [], harness := (true, "15951a80fd81a3a6a4255fc8b7490cd51bf69b403f33b577102ab7702044f730"), looks := false }, kinds := [], alts := [], laidByText := true, laidKinds := [.data], laidTests := true, laidLooks := .later }
def OpenKnownUptoCardSaid : Prop := Claim7.holds Tryd.pinned (.plain (OpenSpec.upto openKnownSpec)) openKnownUptoCard
end Rows
end Go.Proofs.YtlhnfejgkhilkabDoor
