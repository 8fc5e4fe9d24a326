/-
  DERIVED. GIVEN WITH THE SEED: THE CARDS: each row of YtpahnebhcfpplabGreatDoorRows.lean that lists a variable, with what it lists TIED to the program's text (the seventh form; the later family's looks); each row that meets fmt, with fmt's text TOLD by the authors' own Lean function (tested against real Go, not proved from fmt's source: count such statements apart). THE CARD IS WHAT COUNTS. Prove the row's statement (the work); the ties are given (YtpahnebhcfpplabGreatDoorTie.lean); close each card by the builder's one call (the guide's Derived/Test/ToyasCard.lean, 'card_holds'). Laid BY PROGRAM, IN A SANDBOX (cutbox-door.mjs). By AI agents, Wed Nov 11 2026. No macro, syntax, notation, axiom, sorry.
-/
import Derived.Test.YtpahnebhcfpplabGreatDoorRows
import GoSem.ClaimSeven
namespace Go.Proofs.YtpahnebhcfpplabGreatDoor
namespace Rows

/-- THE TIED CARD OF 'heraldlaw06.AttrAgain'. -/
def attrAgainCard : Claim7 := { stood := { row := attrAgainRow, standIns := [], harness := (true, "78deaefa8c838fda9a6b1a35c86e05cb550ac393c8c9f8bc121e2f2a6357cf83"), looks := false }, kinds := [], alts := [], laidByText := true, laidKinds := [.data], laidTests := true, laidLooks := .later }
def AttrAgainCardSaid : Prop := Claim7.holds Tryz.pinned (.plain (OpenSpec.ofChange attrAgainSpec)) attrAgainCard

/-- THE TIED CARD OF 'heraldlaw06.AttrTurned'. -/
def attrTurnedCard : Claim7 := { stood := { row := attrTurnedRow, standIns := [], harness := (true, "78deaefa8c838fda9a6b1a35c86e05cb550ac393c8c9f8bc121e2f2a6357cf83"), looks := false }, kinds := [], alts := [], laidByText := true, laidKinds := [.data], laidTests := true, laidLooks := .later }
def AttrTurnedCardSaid : Prop := Claim7.holds Tryz.pinned (.plain (OpenSpec.ofChange attrTurnedSpec)) attrTurnedCard

/-- THE TIED CARD OF 'heraldlaw06.AttrJudged'. -/
def attrJudgedCard : Claim7 := { stood := { row := attrJudgedRow, standIns := [], harness := (true, "78deaefa8c838fda9a6b1a35c86e05cb550ac393c8c9f8bc121e2f2a6357cf83"), looks := false }, kinds := [], alts := [], laidByText := true, laidKinds := [.data], laidTests := true, laidLooks := .later }
def AttrJudgedCardSaid : Prop := Claim7.holds Tryz.pinned (.plain (OpenSpec.ofChange attrJudgedSpec)) attrJudgedCard

/-- THE TIED CARD OF 'heraldlaw06.AttrKnown'. -/
def attrKnownCard : Claim7 := { stood := { row := attrKnownRow, standIns := [], harness := (true, "78deaefa8c838fda9a6b1a35c86e05cb550ac393c8c9f8bc121e2f2a6357cf83"), looks := false }, kinds := [], alts := [], laidByText := true, laidKinds := [.data], laidTests := true, laidLooks := .later }
def AttrKnownCardSaid : Prop := Claim7.holds Tryz.pinned (.plain (OpenSpec.ofChange attrKnownSpec)) attrKnownCard

/-- THE SECOND FORM's CARD OF 'heraldlaw06.AttrAgain'. -/
def attrAgainUptoCard : Claim7 := { stood := { row := attrAgainUptoRow, standIns := [], harness := (true, "78deaefa8c838fda9a6b1a35c86e05cb550ac393c8c9f8bc121e2f2a6357cf83"), looks := false }, kinds := [], alts := [], laidByText := true, laidKinds := [.data], laidTests := true, laidLooks := .later }
def AttrAgainUptoCardSaid : Prop := Claim7.holds Tryz.pinned (.plain (OpenSpec.upto attrAgainSpec)) attrAgainUptoCard

/-- THE SECOND FORM's CARD OF 'heraldlaw06.AttrTurned'. -/
def attrTurnedUptoCard : Claim7 := { stood := { row := attrTurnedUptoRow, standIns := [], harness := (true, "78deaefa8c838fda9a6b1a35c86e05cb550ac393c8c9f8bc121e2f2a6357cf83"), looks := false }, kinds := [], alts := [], laidByText := true, laidKinds := [.data], laidTests := true, laidLooks := .later }
def AttrTurnedUptoCardSaid : Prop := Claim7.holds Tryz.pinned (.plain (OpenSpec.upto attrTurnedSpec)) attrTurnedUptoCard

/-- THE SECOND FORM's CARD OF 'heraldlaw06.AttrJudged'. -/
def attrJudgedUptoCard : Claim7 := { stood := { row := attrJudgedUptoRow, standIns := [], harness := (true, "78deaefa8c838fda9a6b1a35c86e05cb550ac393c8c9f8bc121e2f2a6357cf83"), looks := false }, kinds := [], alts := [], laidByText := true, laidKinds := [.data], laidTests := true, laidLooks := .later }
def AttrJudgedUptoCardSaid : Prop := Claim7.holds Tryz.pinned (.plain (OpenSpec.upto attrJudgedSpec)) attrJudgedUptoCard

/-- THE SECOND FORM's CARD OF 'heraldlaw06.AttrKnown'. -/
def attrKnownUptoCard : Claim7 := { stood := { row := attrKnownUptoRow, standIns := [], harness := (true, "78deaefa8c838fda9a6b1a35c86e05cb550ac393c8c9f8bc121e2f2a6357cf83"), looks := false }, kinds := [], alts := [], laidByText := true, laidKinds := [.data], laidTests := true, laidLooks := .later }
def AttrKnownUptoCardSaid : Prop := Claim7.holds Tryz.pinned (.plain (OpenSpec.upto attrKnownSpec)) attrKnownUptoCard
end Rows
end Go.Proofs.YtpahnebhcfpplabGreatDoor
