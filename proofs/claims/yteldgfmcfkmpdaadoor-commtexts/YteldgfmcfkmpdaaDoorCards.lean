/-
  DERIVED. GIVEN WITH THE SEED: THE CARDS: each row of YteldgfmcfkmpdaaDoorRows.lean that lists a variable, with what it lists TIED to the program's text (the seventh form; the later family's looks); each row that meets fmt, with fmt's text TOLD by the authors' own Lean function (tested against real Go, not proved from fmt's source: count such statements apart). THE CARD IS WHAT COUNTS. Prove the row's statement (the work); the ties are given (YteldgfmcfkmpdaaDoorTie.lean); close each card by the builder's one call (the guide's Derived/Test/ToyasCard.lean, 'card_holds'). Laid BY PROGRAM, IN A SANDBOX (cutbox-door.mjs). By AI agents, Wed Nov 11 2026. No macro, syntax, notation, axiom, sorry.
-/
import Derived.Test.YteldgfmcfkmpdaaDoorRows
import GoSem.ClaimSeven
namespace Go.Proofs.YteldgfmcfkmpdaaDoor
namespace Rows

/-- THE TIED CARD OF 'heraldlaw05.CommSets'. -/
def commSetsCard : Claim7 := { stood := { row := commSetsRow, standIns := [], harness := (true, "4a873de230082d86d9428b0fbd559975e8fa564f64ce75bb9327bf0702b9a522"), looks := true }, kinds := [], alts := [], laidByText := true, laidKinds := [.data, .data, .data, .data], laidTests := true, laidLooks := .later }
def CommSetsCardSaid : Prop := Claim7.holds Tryd.pinned (.plain (OpenSpec.ofChange commSetsSpec)) commSetsCard

/-- THE TIED CARD OF 'heraldlaw05.CommLays'. -/
def commLaysCard : Claim7 := { stood := { row := commLaysRow, standIns := [], harness := (true, "4a873de230082d86d9428b0fbd559975e8fa564f64ce75bb9327bf0702b9a522"), looks := true }, kinds := [], alts := [], laidByText := true, laidKinds := [.data, .data, .data, .data], laidTests := true, laidLooks := .later }
def CommLaysCardSaid : Prop := Claim7.holds Tryd.pinned (.plain (OpenSpec.ofChange commLaysSpec)) commLaysCard

/-- THE TIED CARD OF 'heraldlaw05.CommTexts'. -/
def commTextsCard : Claim7 := { stood := { row := commTextsRow, standIns := [], harness := (true, "4a873de230082d86d9428b0fbd559975e8fa564f64ce75bb9327bf0702b9a522"), looks := true }, kinds := [], alts := [], laidByText := true, laidKinds := [.data, .data, .data, .sentinel, .sentinel, .data], laidTests := true, laidLooks := .later }
def CommTextsCardSaid : Prop := Claim7.holds Tryd.pinned (.plain (OpenSpec.ofChange commTextsSpec)) commTextsCard

/-- THE TIED CARD OF 'heraldlaw05.CommWith'. -/
def commWithCard : Claim7 := { stood := { row := commWithRow, standIns := [], harness := (true, "4a873de230082d86d9428b0fbd559975e8fa564f64ce75bb9327bf0702b9a522"), looks := true }, kinds := [], alts := [], laidByText := true, laidKinds := [.data, .data, .data, .data], laidTests := true, laidLooks := .later }
def CommWithCardSaid : Prop := Claim7.holds Tryd.pinned (.plain (OpenSpec.ofChange commWithSpec)) commWithCard

/-- THE SECOND FORM's CARD OF 'heraldlaw05.CommSets'. -/
def commSetsUptoCard : Claim7 := { stood := { row := commSetsUptoRow, standIns := [], harness := (true, "4a873de230082d86d9428b0fbd559975e8fa564f64ce75bb9327bf0702b9a522"), looks := true }, kinds := [], alts := [], laidByText := true, laidKinds := [.data, .data, .data, .data], laidTests := true, laidLooks := .later }
def CommSetsUptoCardSaid : Prop := Claim7.holds Tryd.pinned (.plain (OpenSpec.upto commSetsSpec)) commSetsUptoCard

/-- THE SECOND FORM's CARD OF 'heraldlaw05.CommLays'. -/
def commLaysUptoCard : Claim7 := { stood := { row := commLaysUptoRow, standIns := [], harness := (true, "4a873de230082d86d9428b0fbd559975e8fa564f64ce75bb9327bf0702b9a522"), looks := true }, kinds := [], alts := [], laidByText := true, laidKinds := [.data, .data, .data, .data], laidTests := true, laidLooks := .later }
def CommLaysUptoCardSaid : Prop := Claim7.holds Tryd.pinned (.plain (OpenSpec.upto commLaysSpec)) commLaysUptoCard

/-- THE SECOND FORM's CARD OF 'heraldlaw05.CommTexts'. -/
def commTextsUptoCard : Claim7 := { stood := { row := commTextsUptoRow, standIns := [], harness := (true, "4a873de230082d86d9428b0fbd559975e8fa564f64ce75bb9327bf0702b9a522"), looks := true }, kinds := [], alts := [], laidByText := true, laidKinds := [.data, .data, .data, .sentinel, .sentinel, .data], laidTests := true, laidLooks := .later }
def CommTextsUptoCardSaid : Prop := Claim7.holds Tryd.pinned (.plain (OpenSpec.upto commTextsSpec)) commTextsUptoCard

/-- THE SECOND FORM's CARD OF 'heraldlaw05.CommWith'. -/
def commWithUptoCard : Claim7 := { stood := { row := commWithUptoRow, standIns := [], harness := (true, "4a873de230082d86d9428b0fbd559975e8fa564f64ce75bb9327bf0702b9a522"), looks := true }, kinds := [], alts := [], laidByText := true, laidKinds := [.data, .data, .data, .data], laidTests := true, laidLooks := .later }
def CommWithUptoCardSaid : Prop := Claim7.holds Tryd.pinned (.plain (OpenSpec.upto commWithSpec)) commWithUptoCard
end Rows
end Go.Proofs.YteldgfmcfkmpdaaDoor
