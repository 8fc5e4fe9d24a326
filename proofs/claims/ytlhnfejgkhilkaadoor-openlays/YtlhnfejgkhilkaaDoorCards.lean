/-
  DERIVED. GIVEN WITH THE SEED: THE CARDS: each row of YtlhnfejgkhilkaaDoorRows.lean that lists a variable, with what it lists TIED to the program's text (the seventh form; the later family's looks); each row that meets fmt, with fmt's text TOLD by the authors' own Lean function (tested against real Go, not proved from fmt's source: count such statements apart). THE CARD IS WHAT COUNTS. Prove the row's statement (the work); the ties are given (YtlhnfejgkhilkaaDoorTie.lean); close each card by the builder's one call (the guide's Derived/Test/ToyasCard.lean, 'card_holds'). Laid BY PROGRAM, IN A SANDBOX (cutbox-door.mjs). By AI agents, Wed Nov 11 2026. No macro, syntax, notation, axiom, sorry.
-/
import Derived.Test.YtlhnfejgkhilkaaDoorRows
import GoSem.ClaimSeven
namespace Go.Proofs.YtlhnfejgkhilkaaDoor
namespace Rows

/-- THE TIED CARD OF 'heraldlaw10.OpenLays'. -/
def openLaysCard : Claim7 := { stood := { row := openLaysRow, standIns := [], harness := (true, "a3fd3d27bc075e68ea9c180a6e0b3ba3a5ba22fe6ff675d208e4c22ba4bc02dd"), looks := false }, kinds := [], alts := [], laidByText := true, laidKinds := [.data], laidTests := true, laidLooks := .later }
def OpenLaysCardSaid : Prop := Claim7.holds Tryd.pinned (.plain (OpenSpec.ofChange openLaysSpec)) openLaysCard

/-- THE TIED CARD OF 'heraldlaw10.OpenJudges'. -/
def openJudgesCard : Claim7 := { stood := { row := openJudgesRow, standIns := [], harness := (true, "a3fd3d27bc075e68ea9c180a6e0b3ba3a5ba22fe6ff675d208e4c22ba4bc02dd"), looks := false }, kinds := [], alts := [], laidByText := true, laidKinds := [.data], laidTests := true, laidLooks := .later }
def OpenJudgesCardSaid : Prop := Claim7.holds Tryd.pinned (.plain (OpenSpec.ofChange openJudgesSpec)) openJudgesCard

/-- THE TIED CARD OF 'heraldlaw10.OpenOurs'. -/
def openOursCard : Claim7 := { stood := { row := openOursRow, standIns := [], harness := (true, "a3fd3d27bc075e68ea9c180a6e0b3ba3a5ba22fe6ff675d208e4c22ba4bc02dd"), looks := false }, kinds := [], alts := [], laidByText := true, laidKinds := [.data], laidTests := true, laidLooks := .later }
def OpenOursCardSaid : Prop := Claim7.holds Tryd.pinned (.plain (OpenSpec.ofChange openOursSpec)) openOursCard

/-- THE TIED CARD OF 'heraldlaw10.OpenBack'. -/
def openBackCard : Claim7 := { stood := { row := openBackRow, standIns := [], harness := (true, "a3fd3d27bc075e68ea9c180a6e0b3ba3a5ba22fe6ff675d208e4c22ba4bc02dd"), looks := false }, kinds := [], alts := [], laidByText := true, laidKinds := [.data], laidTests := true, laidLooks := .later }
def OpenBackCardSaid : Prop := Claim7.holds Tryd.pinned (.plain (OpenSpec.ofChange openBackSpec)) openBackCard

/-- THE TIED CARD OF 'heraldlaw10.OpenMay'. -/
def openMayCard : Claim7 := { stood := { row := openMayRow, standIns := [], harness := (true, "a3fd3d27bc075e68ea9c180a6e0b3ba3a5ba22fe6ff675d208e4c22ba4bc02dd"), looks := false }, kinds := [], alts := [], laidByText := true, laidKinds := [.data], laidTests := true, laidLooks := .later }
def OpenMayCardSaid : Prop := Claim7.holds Tryd.pinned (.plain (OpenSpec.ofChange openMaySpec)) openMayCard

/-- THE SECOND FORM's CARD OF 'heraldlaw10.OpenLays'. -/
def openLaysUptoCard : Claim7 := { stood := { row := openLaysUptoRow, standIns := [], harness := (true, "a3fd3d27bc075e68ea9c180a6e0b3ba3a5ba22fe6ff675d208e4c22ba4bc02dd"), looks := false }, kinds := [], alts := [], laidByText := true, laidKinds := [.data], laidTests := true, laidLooks := .later }
def OpenLaysUptoCardSaid : Prop := Claim7.holds Tryd.pinned (.plain (OpenSpec.upto openLaysSpec)) openLaysUptoCard

/-- THE SECOND FORM's CARD OF 'heraldlaw10.OpenJudges'. -/
def openJudgesUptoCard : Claim7 := { stood := { row := openJudgesUptoRow, standIns := [], harness := (true, "a3fd3d27bc075e68ea9c180a6e0b3ba3a5ba22fe6ff675d208e4c22ba4bc02dd"), looks := false }, kinds := [], alts := [], laidByText := true, laidKinds := [.data], laidTests := true, laidLooks := .later }
def OpenJudgesUptoCardSaid : Prop := Claim7.holds Tryd.pinned (.plain (OpenSpec.upto openJudgesSpec)) openJudgesUptoCard

/-- THE SECOND FORM's CARD OF 'heraldlaw10.OpenOurs'. -/
def openOursUptoCard : Claim7 := { stood := { row := openOursUptoRow, standIns := [], harness := (true, "a3fd3d27bc075e68ea9c180a6e0b3ba3a5ba22fe6ff675d208e4c22ba4bc02dd"), looks := false }, kinds := [], alts := [], laidByText := true, laidKinds := [.data], laidTests := true, laidLooks := .later }
def OpenOursUptoCardSaid : Prop := Claim7.holds Tryd.pinned (.plain (OpenSpec.upto openOursSpec)) openOursUptoCard

/-- THE SECOND FORM's CARD OF 'heraldlaw10.OpenBack'. -/
def openBackUptoCard : Claim7 := { stood := { row := openBackUptoRow, standIns := [], harness := (true, "a3fd3d27bc075e68ea9c180a6e0b3ba3a5ba22fe6ff675d208e4c22ba4bc02dd"), looks := false }, kinds := [], alts := [], laidByText := true, laidKinds := [.data], laidTests := true, laidLooks := .later }
def OpenBackUptoCardSaid : Prop := Claim7.holds Tryd.pinned (.plain (OpenSpec.upto openBackSpec)) openBackUptoCard

/-- THE SECOND FORM's CARD OF 'heraldlaw10.OpenMay'. -/
def openMayUptoCard : Claim7 := { stood := { row := openMayUptoRow, standIns := [], harness := (true, "a3fd3d27bc075e68ea9c180a6e0b3ba3a5ba22fe6ff675d208e4c22ba4bc02dd"), looks := false }, kinds := [], alts := [], laidByText := true, laidKinds := [.data], laidTests := true, laidLooks := .later }
def OpenMayUptoCardSaid : Prop := Claim7.holds Tryd.pinned (.plain (OpenSpec.upto openMaySpec)) openMayUptoCard
end Rows
end Go.Proofs.YtlhnfejgkhilkaaDoor
