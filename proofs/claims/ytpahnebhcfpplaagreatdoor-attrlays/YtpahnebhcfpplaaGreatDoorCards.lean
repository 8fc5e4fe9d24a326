/-
  DERIVED. GIVEN WITH THE SEED: THE CARDS: each row of YtpahnebhcfpplaaGreatDoorRows.lean that lists a variable, with what it lists TIED to the program's text (the seventh form; the later family's looks); each row that meets fmt, with fmt's text TOLD by the authors' own Lean function (tested against real Go, not proved from fmt's source: count such statements apart). THE CARD IS WHAT COUNTS. Prove the row's statement (the work); the ties are given (YtpahnebhcfpplaaGreatDoorTie.lean); close each card by the builder's one call (the guide's Derived/Test/ToyasCard.lean, 'card_holds'). Laid BY PROGRAM, IN A SANDBOX (cutbox-door.mjs). By AI agents, Wed Nov 11 2026. No macro, syntax, notation, axiom, sorry.
-/
import Derived.Test.YtpahnebhcfpplaaGreatDoorRows
import GoSem.ClaimSeven
namespace Go.Proofs.YtpahnebhcfpplaaGreatDoor
namespace Rows

/-- THE TIED CARD OF 'heraldlaw06.AttrWrites'. -/
def attrWritesCard : Claim7 := { stood := { row := attrWritesRow, standIns := [], harness := (true, "dde4ef42fa77268e0418523a75ff23a3738fe6f1bc787f4d9c730805f96f9c75"), looks := false }, kinds := [], alts := [], laidByText := true, laidKinds := [.data], laidTests := true, laidLooks := .later }
def AttrWritesCardSaid : Prop := Claim7.holds Tryz.pinned (.plain (OpenSpec.ofChange attrWritesSpec)) attrWritesCard

/-- THE TIED CARD OF 'heraldlaw06.AttrLays'. -/
def attrLaysCard : Claim7 := { stood := { row := attrLaysRow, standIns := [], harness := (true, "dde4ef42fa77268e0418523a75ff23a3738fe6f1bc787f4d9c730805f96f9c75"), looks := false }, kinds := [], alts := [], laidByText := true, laidKinds := [.data], laidTests := true, laidLooks := .later }
def AttrLaysCardSaid : Prop := Claim7.holds Tryz.pinned (.plain (OpenSpec.ofChange attrLaysSpec)) attrLaysCard

/-- THE TIED CARD OF 'heraldlaw06.AttrSplits'. -/
def attrSplitsCard : Claim7 := { stood := { row := attrSplitsRow, standIns := [], harness := (true, "dde4ef42fa77268e0418523a75ff23a3738fe6f1bc787f4d9c730805f96f9c75"), looks := false }, kinds := [], alts := [], laidByText := true, laidKinds := [.data], laidTests := true, laidLooks := .later }
def AttrSplitsCardSaid : Prop := Claim7.holds Tryz.pinned (.plain (OpenSpec.ofChange attrSplitsSpec)) attrSplitsCard

/-- THE TIED CARD OF 'heraldlaw06.AttrReads'. -/
def attrReadsCard : Claim7 := { stood := { row := attrReadsRow, standIns := [], harness := (true, "dde4ef42fa77268e0418523a75ff23a3738fe6f1bc787f4d9c730805f96f9c75"), looks := false }, kinds := [], alts := [], laidByText := true, laidKinds := [.data], laidTests := true, laidLooks := .later }
def AttrReadsCardSaid : Prop := Claim7.holds Tryz.pinned (.plain (OpenSpec.ofChange attrReadsSpec)) attrReadsCard

/-- THE TIED CARD OF 'heraldlaw06.AttrSame'. -/
def attrSameCard : Claim7 := { stood := { row := attrSameRow, standIns := [], harness := (true, "dde4ef42fa77268e0418523a75ff23a3738fe6f1bc787f4d9c730805f96f9c75"), looks := false }, kinds := [], alts := [], laidByText := true, laidKinds := [.data], laidTests := true, laidLooks := .later }
def AttrSameCardSaid : Prop := Claim7.holds Tryz.pinned (.plain (OpenSpec.ofChange attrSameSpec)) attrSameCard

/-- THE TIED CARD OF 'heraldlaw06.AttrBack'. -/
def attrBackCard : Claim7 := { stood := { row := attrBackRow, standIns := [], harness := (true, "dde4ef42fa77268e0418523a75ff23a3738fe6f1bc787f4d9c730805f96f9c75"), looks := false }, kinds := [], alts := [], laidByText := true, laidKinds := [.data], laidTests := true, laidLooks := .later }
def AttrBackCardSaid : Prop := Claim7.holds Tryz.pinned (.plain (OpenSpec.ofChange attrBackSpec)) attrBackCard

/-- THE SECOND FORM's CARD OF 'heraldlaw06.AttrWrites'. -/
def attrWritesUptoCard : Claim7 := { stood := { row := attrWritesUptoRow, standIns := [], harness := (true, "dde4ef42fa77268e0418523a75ff23a3738fe6f1bc787f4d9c730805f96f9c75"), looks := false }, kinds := [], alts := [], laidByText := true, laidKinds := [.data], laidTests := true, laidLooks := .later }
def AttrWritesUptoCardSaid : Prop := Claim7.holds Tryz.pinned (.plain (OpenSpec.upto attrWritesSpec)) attrWritesUptoCard

/-- THE SECOND FORM's CARD OF 'heraldlaw06.AttrLays'. -/
def attrLaysUptoCard : Claim7 := { stood := { row := attrLaysUptoRow, standIns := [], harness := (true, "dde4ef42fa77268e0418523a75ff23a3738fe6f1bc787f4d9c730805f96f9c75"), looks := false }, kinds := [], alts := [], laidByText := true, laidKinds := [.data], laidTests := true, laidLooks := .later }
def AttrLaysUptoCardSaid : Prop := Claim7.holds Tryz.pinned (.plain (OpenSpec.upto attrLaysSpec)) attrLaysUptoCard

/-- THE SECOND FORM's CARD OF 'heraldlaw06.AttrSplits'. -/
def attrSplitsUptoCard : Claim7 := { stood := { row := attrSplitsUptoRow, standIns := [], harness := (true, "dde4ef42fa77268e0418523a75ff23a3738fe6f1bc787f4d9c730805f96f9c75"), looks := false }, kinds := [], alts := [], laidByText := true, laidKinds := [.data], laidTests := true, laidLooks := .later }
def AttrSplitsUptoCardSaid : Prop := Claim7.holds Tryz.pinned (.plain (OpenSpec.upto attrSplitsSpec)) attrSplitsUptoCard

/-- THE SECOND FORM's CARD OF 'heraldlaw06.AttrReads'. -/
def attrReadsUptoCard : Claim7 := { stood := { row := attrReadsUptoRow, standIns := [], harness := (true, "dde4ef42fa77268e0418523a75ff23a3738fe6f1bc787f4d9c730805f96f9c75"), looks := false }, kinds := [], alts := [], laidByText := true, laidKinds := [.data], laidTests := true, laidLooks := .later }
def AttrReadsUptoCardSaid : Prop := Claim7.holds Tryz.pinned (.plain (OpenSpec.upto attrReadsSpec)) attrReadsUptoCard

/-- THE SECOND FORM's CARD OF 'heraldlaw06.AttrSame'. -/
def attrSameUptoCard : Claim7 := { stood := { row := attrSameUptoRow, standIns := [], harness := (true, "dde4ef42fa77268e0418523a75ff23a3738fe6f1bc787f4d9c730805f96f9c75"), looks := false }, kinds := [], alts := [], laidByText := true, laidKinds := [.data], laidTests := true, laidLooks := .later }
def AttrSameUptoCardSaid : Prop := Claim7.holds Tryz.pinned (.plain (OpenSpec.upto attrSameSpec)) attrSameUptoCard

/-- THE SECOND FORM's CARD OF 'heraldlaw06.AttrBack'. -/
def attrBackUptoCard : Claim7 := { stood := { row := attrBackUptoRow, standIns := [], harness := (true, "dde4ef42fa77268e0418523a75ff23a3738fe6f1bc787f4d9c730805f96f9c75"), looks := false }, kinds := [], alts := [], laidByText := true, laidKinds := [.data], laidTests := true, laidLooks := .later }
def AttrBackUptoCardSaid : Prop := Claim7.holds Tryz.pinned (.plain (OpenSpec.upto attrBackSpec)) attrBackUptoCard
end Rows
end Go.Proofs.YtpahnebhcfpplaaGreatDoor
