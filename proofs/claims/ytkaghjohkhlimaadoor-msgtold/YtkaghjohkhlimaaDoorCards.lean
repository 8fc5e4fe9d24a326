/-
  DERIVED. GIVEN WITH THE SEED: THE CARDS: each row of YtkaghjohkhlimaaDoorRows.lean that lists a variable, with what it lists TIED to the program's text (the seventh form; the later family's looks); each row that meets fmt, with fmt's text TOLD by the authors' own Lean function (tested against real Go, not proved from fmt's source: count such statements apart). THE CARD IS WHAT COUNTS. Prove the row's statement (the work); the ties are given (YtkaghjohkhlimaaDoorTie.lean); close each card by the builder's one call (the guide's Derived/Test/ToyasCard.lean, 'card_holds'). Laid BY PROGRAM, IN A SANDBOX (cutbox-door.mjs). By AI agents, Wed Nov 11 2026. No macro, syntax, notation, axiom, sorry.
-/
import Derived.Test.YtkaghjohkhlimaaDoorRows
import GoSem.ClaimSeven
namespace Go.Proofs.YtkaghjohkhlimaaDoor
namespace Rows

/-- THE TIED CARD OF 'heraldlaw12.MsgSizes'. -/
def msgSizesCard : Claim7 := { stood := { row := msgSizesRow, standIns := [], harness := (true, "8ca2ba95d4171cb4070d62ece6a45a43cbb4092ab3ed4645cbb00092021c51ce"), looks := false }, kinds := [], alts := [], laidByText := true, laidKinds := [.data], laidTests := true, laidLooks := .later }
def MsgSizesCardSaid : Prop := Claim7.holds Tryd.pinned (.plain (OpenSpec.ofChange msgSizesSpec)) msgSizesCard

/-- THE TIED CARD OF 'heraldlaw12.MsgNotes'. -/
def msgNotesCard : Claim7 := { stood := { row := msgNotesRow, standIns := [], harness := (true, "8ca2ba95d4171cb4070d62ece6a45a43cbb4092ab3ed4645cbb00092021c51ce"), looks := false }, kinds := [], alts := [], laidByText := true, laidKinds := [.data], laidTests := true, laidLooks := .later }
def MsgNotesCardSaid : Prop := Claim7.holds Tryd.pinned (.plain (OpenSpec.ofChange msgNotesSpec)) msgNotesCard

/-- THE TIED CARD OF 'heraldlaw12.MsgRefreshes'. -/
def msgRefreshesCard : Claim7 := { stood := { row := msgRefreshesRow, standIns := [], harness := (true, "8ca2ba95d4171cb4070d62ece6a45a43cbb4092ab3ed4645cbb00092021c51ce"), looks := false }, kinds := [], alts := [], laidByText := true, laidKinds := [.data], laidTests := true, laidLooks := .later }
def MsgRefreshesCardSaid : Prop := Claim7.holds Tryd.pinned (.plain (OpenSpec.ofChange msgRefreshesSpec)) msgRefreshesCard

/-- THE TIED CARD OF 'heraldlaw12.MsgBack'. -/
def msgBackCard : Claim7 := { stood := { row := msgBackRow, standIns := [], harness := (true, "8ca2ba95d4171cb4070d62ece6a45a43cbb4092ab3ed4645cbb00092021c51ce"), looks := false }, kinds := [], alts := [], laidByText := true, laidKinds := [.data], laidTests := true, laidLooks := .later }
def MsgBackCardSaid : Prop := Claim7.holds Tryd.pinned (.plain (OpenSpec.ofChange msgBackSpec)) msgBackCard

/-- THE TIED CARD OF 'heraldlaw12.MsgAgain'. -/
def msgAgainCard : Claim7 := { stood := { row := msgAgainRow, standIns := [], harness := (true, "8ca2ba95d4171cb4070d62ece6a45a43cbb4092ab3ed4645cbb00092021c51ce"), looks := false }, kinds := [], alts := [], laidByText := true, laidKinds := [.data], laidTests := true, laidLooks := .later }
def MsgAgainCardSaid : Prop := Claim7.holds Tryd.pinned (.plain (OpenSpec.ofChange msgAgainSpec)) msgAgainCard

/-- THE TIED CARD OF 'heraldlaw12.MsgTold'. -/
def msgToldCard : Claim7 := { stood := { row := msgToldRow, standIns := [], harness := (true, "8ca2ba95d4171cb4070d62ece6a45a43cbb4092ab3ed4645cbb00092021c51ce"), looks := false }, kinds := [], alts := [], laidByText := true, laidKinds := [.data], laidTests := true, laidLooks := .later }
def MsgToldCardSaid : Prop := Claim7.holds Tryd.pinned (.plain (OpenSpec.ofChange msgToldSpec)) msgToldCard

/-- THE SECOND FORM's CARD OF 'heraldlaw12.MsgSizes'. -/
def msgSizesUptoCard : Claim7 := { stood := { row := msgSizesUptoRow, standIns := [], harness := (true, "8ca2ba95d4171cb4070d62ece6a45a43cbb4092ab3ed4645cbb00092021c51ce"), looks := false }, kinds := [], alts := [], laidByText := true, laidKinds := [.data], laidTests := true, laidLooks := .later }
def MsgSizesUptoCardSaid : Prop := Claim7.holds Tryd.pinned (.plain (OpenSpec.upto msgSizesSpec)) msgSizesUptoCard

/-- THE SECOND FORM's CARD OF 'heraldlaw12.MsgNotes'. -/
def msgNotesUptoCard : Claim7 := { stood := { row := msgNotesUptoRow, standIns := [], harness := (true, "8ca2ba95d4171cb4070d62ece6a45a43cbb4092ab3ed4645cbb00092021c51ce"), looks := false }, kinds := [], alts := [], laidByText := true, laidKinds := [.data], laidTests := true, laidLooks := .later }
def MsgNotesUptoCardSaid : Prop := Claim7.holds Tryd.pinned (.plain (OpenSpec.upto msgNotesSpec)) msgNotesUptoCard

/-- THE SECOND FORM's CARD OF 'heraldlaw12.MsgRefreshes'. -/
def msgRefreshesUptoCard : Claim7 := { stood := { row := msgRefreshesUptoRow, standIns := [], harness := (true, "8ca2ba95d4171cb4070d62ece6a45a43cbb4092ab3ed4645cbb00092021c51ce"), looks := false }, kinds := [], alts := [], laidByText := true, laidKinds := [.data], laidTests := true, laidLooks := .later }
def MsgRefreshesUptoCardSaid : Prop := Claim7.holds Tryd.pinned (.plain (OpenSpec.upto msgRefreshesSpec)) msgRefreshesUptoCard

/-- THE SECOND FORM's CARD OF 'heraldlaw12.MsgBack'. -/
def msgBackUptoCard : Claim7 := { stood := { row := msgBackUptoRow, standIns := [], harness := (true, "8ca2ba95d4171cb4070d62ece6a45a43cbb4092ab3ed4645cbb00092021c51ce"), looks := false }, kinds := [], alts := [], laidByText := true, laidKinds := [.data], laidTests := true, laidLooks := .later }
def MsgBackUptoCardSaid : Prop := Claim7.holds Tryd.pinned (.plain (OpenSpec.upto msgBackSpec)) msgBackUptoCard

/-- THE SECOND FORM's CARD OF 'heraldlaw12.MsgAgain'. -/
def msgAgainUptoCard : Claim7 := { stood := { row := msgAgainUptoRow, standIns := [], harness := (true, "8ca2ba95d4171cb4070d62ece6a45a43cbb4092ab3ed4645cbb00092021c51ce"), looks := false }, kinds := [], alts := [], laidByText := true, laidKinds := [.data], laidTests := true, laidLooks := .later }
def MsgAgainUptoCardSaid : Prop := Claim7.holds Tryd.pinned (.plain (OpenSpec.upto msgAgainSpec)) msgAgainUptoCard

/-- THE SECOND FORM's CARD OF 'heraldlaw12.MsgTold'. -/
def msgToldUptoCard : Claim7 := { stood := { row := msgToldUptoRow, standIns := [], harness := (true, "8ca2ba95d4171cb4070d62ece6a45a43cbb4092ab3ed4645cbb00092021c51ce"), looks := false }, kinds := [], alts := [], laidByText := true, laidKinds := [.data], laidTests := true, laidLooks := .later }
def MsgToldUptoCardSaid : Prop := Claim7.holds Tryd.pinned (.plain (OpenSpec.upto msgToldSpec)) msgToldUptoCard
end Rows
end Go.Proofs.YtkaghjohkhlimaaDoor
