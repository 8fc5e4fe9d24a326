/-
  DERIVED. GIVEN WITH THE SEED: THE CARDS: each row of YtjliopclpjeieaaDoorRows.lean that lists a variable, with what it lists TIED to the program's text (the seventh form; the later family's looks); each row that meets fmt, with fmt's text TOLD by the authors' own Lean function (tested against real Go, not proved from fmt's source: count such statements apart). THE CARD IS WHAT COUNTS. Prove the row's statement (the work); the ties are given (YtjliopclpjeieaaDoorTie.lean); close each card by the builder's one call (the guide's Derived/Test/ToyasCard.lean, 'card_holds'). Laid BY PROGRAM, IN A SANDBOX (cutbox-door.mjs). By AI agents, Wed Nov 11 2026. No macro, syntax, notation, axiom, sorry.
-/
import Derived.Test.YtjliopclpjeieaaDoorRows
import GoSem.ClaimSeven
namespace Go.Proofs.YtjliopclpjeieaaDoor
namespace Rows

/-- THE TIED CARD OF 'heraldlaw08.ReachPairs'. -/
def reachPairsCard : Claim7 := { stood := { row := reachPairsRow, standIns := [], harness := (true, "0495e605bdc5d52043b47c38761d9e27f910248124ed347f4170fad8e1a3eeea"), looks := false }, kinds := [], alts := [], laidByText := true, laidKinds := [.data], laidTests := true, laidLooks := .later }
def ReachPairsCardSaid : Prop := Claim7.holds Tryd.pinned (.plain (OpenSpec.ofChange reachPairsSpec)) reachPairsCard

/-- THE TIED CARD OF 'heraldlaw08.ReachPuts'. -/
def reachPutsCard : Claim7 := { stood := { row := reachPutsRow, standIns := [], harness := (true, "0495e605bdc5d52043b47c38761d9e27f910248124ed347f4170fad8e1a3eeea"), looks := false }, kinds := [], alts := [], laidByText := true, laidKinds := [.data], laidTests := true, laidLooks := .later }
def ReachPutsCardSaid : Prop := Claim7.holds Tryd.pinned (.plain (OpenSpec.ofChange reachPutsSpec)) reachPutsCard

/-- THE TIED CARD OF 'heraldlaw08.ReachTakes'. -/
def reachTakesCard : Claim7 := { stood := { row := reachTakesRow, standIns := [], harness := (true, "0495e605bdc5d52043b47c38761d9e27f910248124ed347f4170fad8e1a3eeea"), looks := false }, kinds := [], alts := [], laidByText := true, laidKinds := [.data], laidTests := true, laidLooks := .later }
def ReachTakesCardSaid : Prop := Claim7.holds Tryd.pinned (.plain (OpenSpec.ofChange reachTakesSpec)) reachTakesCard

/-- THE TIED CARD OF 'heraldlaw08.ReachBack'. -/
def reachBackCard : Claim7 := { stood := { row := reachBackRow, standIns := [], harness := (true, "0495e605bdc5d52043b47c38761d9e27f910248124ed347f4170fad8e1a3eeea"), looks := false }, kinds := [], alts := [], laidByText := true, laidKinds := [.data], laidTests := true, laidLooks := .later }
def ReachBackCardSaid : Prop := Claim7.holds Tryd.pinned (.plain (OpenSpec.ofChange reachBackSpec)) reachBackCard

/-- THE TIED CARD OF 'heraldlaw08.ReachPaired'. -/
def reachPairedCard : Claim7 := { stood := { row := reachPairedRow, standIns := [], harness := (true, "0495e605bdc5d52043b47c38761d9e27f910248124ed347f4170fad8e1a3eeea"), looks := false }, kinds := [], alts := [], laidByText := true, laidKinds := [.data], laidTests := true, laidLooks := .later }
def ReachPairedCardSaid : Prop := Claim7.holds Tryd.pinned (.plain (OpenSpec.ofChange reachPairedSpec)) reachPairedCard

/-- THE TIED CARD OF 'heraldlaw08.ReachKnown'. -/
def reachKnownCard : Claim7 := { stood := { row := reachKnownRow, standIns := [], harness := (true, "0495e605bdc5d52043b47c38761d9e27f910248124ed347f4170fad8e1a3eeea"), looks := false }, kinds := [], alts := [], laidByText := true, laidKinds := [.data], laidTests := true, laidLooks := .later }
def ReachKnownCardSaid : Prop := Claim7.holds Tryd.pinned (.plain (OpenSpec.ofChange reachKnownSpec)) reachKnownCard

/-- THE SECOND FORM's CARD OF 'heraldlaw08.ReachPairs'. -/
def reachPairsUptoCard : Claim7 := { stood := { row := reachPairsUptoRow, standIns := [], harness := (true, "0495e605bdc5d52043b47c38761d9e27f910248124ed347f4170fad8e1a3eeea"), looks := false }, kinds := [], alts := [], laidByText := true, laidKinds := [.data], laidTests := true, laidLooks := .later }
def ReachPairsUptoCardSaid : Prop := Claim7.holds Tryd.pinned (.plain (OpenSpec.upto reachPairsSpec)) reachPairsUptoCard

/-- THE SECOND FORM's CARD OF 'heraldlaw08.ReachPuts'. -/
def reachPutsUptoCard : Claim7 := { stood := { row := reachPutsUptoRow, standIns := [], harness := (true, "0495e605bdc5d52043b47c38761d9e27f910248124ed347f4170fad8e1a3eeea"), looks := false }, kinds := [], alts := [], laidByText := true, laidKinds := [.data], laidTests := true, laidLooks := .later }
def ReachPutsUptoCardSaid : Prop := Claim7.holds Tryd.pinned (.plain (OpenSpec.upto reachPutsSpec)) reachPutsUptoCard

/-- THE SECOND FORM's CARD OF 'heraldlaw08.ReachTakes'. -/
def reachTakesUptoCard : Claim7 := { stood := { row := reachTakesUptoRow, standIns := [], harness := (true, "0495e605bdc5d52043b47c38761d9e27f910248124ed347f4170fad8e1a3eeea"), looks := false }, kinds := [], alts := [], laidByText := true, laidKinds := [.data], laidTests := true, laidLooks := .later }
def ReachTakesUptoCardSaid : Prop := Claim7.holds Tryd.pinned (.plain (OpenSpec.upto reachTakesSpec)) reachTakesUptoCard

/-- THE SECOND FORM's CARD OF 'heraldlaw08.ReachBack'. -/
def reachBackUptoCard : Claim7 := { stood := { row := reachBackUptoRow, standIns := [], harness := (true, "0495e605bdc5d52043b47c38761d9e27f910248124ed347f4170fad8e1a3eeea"), looks := false }, kinds := [], alts := [], laidByText := true, laidKinds := [.data], laidTests := true, laidLooks := .later }
def ReachBackUptoCardSaid : Prop := Claim7.holds Tryd.pinned (.plain (OpenSpec.upto reachBackSpec)) reachBackUptoCard

/-- THE SECOND FORM's CARD OF 'heraldlaw08.ReachPaired'. -/
def reachPairedUptoCard : Claim7 := { stood := { row := reachPairedUptoRow, standIns := [], harness := (true, "0495e605bdc5d52043b47c38761d9e27f910248124ed347f4170fad8e1a3eeea"), looks := false }, kinds := [], alts := [], laidByText := true, laidKinds := [.data], laidTests := true, laidLooks := .later }
def ReachPairedUptoCardSaid : Prop := Claim7.holds Tryd.pinned (.plain (OpenSpec.upto reachPairedSpec)) reachPairedUptoCard

/-- THE SECOND FORM's CARD OF 'heraldlaw08.ReachKnown'. -/
def reachKnownUptoCard : Claim7 := { stood := { row := reachKnownUptoRow, standIns := [], harness := (true, "0495e605bdc5d52043b47c38761d9e27f910248124ed347f4170fad8e1a3eeea"), looks := false }, kinds := [], alts := [], laidByText := true, laidKinds := [.data], laidTests := true, laidLooks := .later }
def ReachKnownUptoCardSaid : Prop := Claim7.holds Tryd.pinned (.plain (OpenSpec.upto reachKnownSpec)) reachKnownUptoCard
end Rows
end Go.Proofs.YtjliopclpjeieaaDoor
