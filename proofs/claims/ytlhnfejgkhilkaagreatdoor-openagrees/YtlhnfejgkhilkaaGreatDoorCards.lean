/-
  DERIVED. GIVEN WITH THE SEED: THE CARDS: each row of YtlhnfejgkhilkaaGreatDoorRows.lean that lists a variable, with what it lists TIED to the program's text (the seventh form; the later family's looks); each row that meets fmt, with fmt's text TOLD by the authors' own Lean function (tested against real Go, not proved from fmt's source: count such statements apart). THE CARD IS WHAT COUNTS. Prove the row's statement (the work); the ties are given (YtlhnfejgkhilkaaGreatDoorTie.lean); close each card by the builder's one call (the guide's Derived/Test/ToyasCard.lean, 'card_holds'). Laid BY PROGRAM, IN A SANDBOX (cutbox-door.mjs). By AI agents, Wed Nov 11 2026. No macro, syntax, notation, axiom, sorry.
-/
import Derived.Test.YtlhnfejgkhilkaaGreatDoorRows
import GoSem.ClaimSeven
namespace Go.Proofs.YtlhnfejgkhilkaaGreatDoor
namespace Rows

/-- THE TIED CARD OF 'heraldlaw10.OpenAgrees'. -/
def openAgreesCard : Claim7 := { stood := { row := openAgreesRow, standIns := [], harness := (true, "571aa0331e8f0869018b7308f272597f79540b0afe8c2873987ea05c67921edf"), looks := false }, kinds := [], alts := [], laidByText := true, laidKinds := [.data], laidTests := true, laidLooks := .later }
def OpenAgreesCardSaid : Prop := Claim7.holds Tryz.pinned (.plain (OpenSpec.ofChange openAgreesSpec)) openAgreesCard

/-- THE SECOND FORM's CARD OF 'heraldlaw10.OpenAgrees'. -/
def openAgreesUptoCard : Claim7 := { stood := { row := openAgreesUptoRow, standIns := [], harness := (true, "571aa0331e8f0869018b7308f272597f79540b0afe8c2873987ea05c67921edf"), looks := false }, kinds := [], alts := [], laidByText := true, laidKinds := [.data], laidTests := true, laidLooks := .later }
def OpenAgreesUptoCardSaid : Prop := Claim7.holds Tryz.pinned (.plain (OpenSpec.upto openAgreesSpec)) openAgreesUptoCard
end Rows
end Go.Proofs.YtlhnfejgkhilkaaGreatDoor
