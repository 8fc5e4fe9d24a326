/-
  DERIVED. GIVEN WITH THE SEED: THE CARDS: each row of YtjjhimdjhfdmiaaDoorRows.lean that lists a variable, with what it lists TIED to the program's text (the seventh form; the later family's looks); each row that meets fmt, with fmt's text TOLD by the authors' own Lean function (tested against real Go, not proved from fmt's source: count such statements apart). THE CARD IS WHAT COUNTS. Prove the row's statement (the work); the ties are given (YtjjhimdjhfdmiaaDoorTie.lean); close each card by the builder's one call (the guide's Derived/Test/ToyasCard.lean, 'card_holds'). Laid BY PROGRAM, IN A SANDBOX (cutbox-door.mjs). By AI agents, Wed Nov 11 2026. No macro, syntax, notation, axiom, sorry.
-/
import Derived.Test.YtjjhimdjhfdmiaaDoorRows
import GoSem.ClaimSeven
namespace Go.Proofs.YtjjhimdjhfdmiaaDoor
namespace Rows

/-- THE TIED CARD OF 'heraldlaw03.TrieLast'. -/
def trieLastCard : Claim7 := { stood := { row := trieLastRow, standIns := [], harness := (true, "3b0184c68e34bad55c1bfeaee9efd0c7b7d966625c53cc2ac558d7aa5528c7b2"), looks := true }, kinds := [], alts := [], laidByText := true, laidKinds := [.data, .data, .data, .data, .sentinel, .sentinel, .data, .data, .pinned], laidTests := true, laidLooks := .later }
def TrieLastCardSaid : Prop := Claim7.holds Tryd.pinned (.plain (OpenSpec.ofChange trieLastSpec)) trieLastCard

/-- THE TIED CARD OF 'heraldlaw03.TrieMatch'. -/
def trieMatchCard : Claim7 := { stood := { row := trieMatchRow, standIns := [], harness := (true, "3b0184c68e34bad55c1bfeaee9efd0c7b7d966625c53cc2ac558d7aa5528c7b2"), looks := true }, kinds := [], alts := [], laidByText := true, laidKinds := [.data, .data, .data, .data, .sentinel, .sentinel, .data, .data, .pinned], laidTests := true, laidLooks := .later }
def TrieMatchCardSaid : Prop := Claim7.holds Tryd.pinned (.plain (OpenSpec.ofChange trieMatchSpec)) trieMatchCard

/-- THE TIED CARD OF 'heraldlaw03.TrieUnder'. -/
def trieUnderCard : Claim7 := { stood := { row := trieUnderRow, standIns := [], harness := (true, "3b0184c68e34bad55c1bfeaee9efd0c7b7d966625c53cc2ac558d7aa5528c7b2"), looks := true }, kinds := [], alts := [], laidByText := true, laidKinds := [.data, .data, .data, .data, .sentinel, .sentinel, .data, .data, .pinned], laidTests := true, laidLooks := .later }
def TrieUnderCardSaid : Prop := Claim7.holds Tryd.pinned (.plain (OpenSpec.ofChange trieUnderSpec)) trieUnderCard

/-- THE TIED CARD OF 'heraldlaw03.TrieKnown'. -/
def trieKnownCard : Claim7 := { stood := { row := trieKnownRow, standIns := [], harness := (true, "3b0184c68e34bad55c1bfeaee9efd0c7b7d966625c53cc2ac558d7aa5528c7b2"), looks := true }, kinds := [], alts := [], laidByText := true, laidKinds := [.data, .data, .data, .data, .sentinel, .sentinel, .data, .data, .pinned], laidTests := true, laidLooks := .later }
def TrieKnownCardSaid : Prop := Claim7.holds Tryd.pinned (.plain (OpenSpec.ofChange trieKnownSpec)) trieKnownCard

/-- THE SECOND FORM's CARD OF 'heraldlaw03.TrieLast'. -/
def trieLastUptoCard : Claim7 := { stood := { row := trieLastUptoRow, standIns := [], harness := (true, "3b0184c68e34bad55c1bfeaee9efd0c7b7d966625c53cc2ac558d7aa5528c7b2"), looks := true }, kinds := [], alts := [], laidByText := true, laidKinds := [.data, .data, .data, .data, .sentinel, .sentinel, .data, .data, .pinned], laidTests := true, laidLooks := .later }
def TrieLastUptoCardSaid : Prop := Claim7.holds Tryd.pinned (.plain (OpenSpec.upto trieLastSpec)) trieLastUptoCard

/-- THE SECOND FORM's CARD OF 'heraldlaw03.TrieMatch'. -/
def trieMatchUptoCard : Claim7 := { stood := { row := trieMatchUptoRow, standIns := [], harness := (true, "3b0184c68e34bad55c1bfeaee9efd0c7b7d966625c53cc2ac558d7aa5528c7b2"), looks := true }, kinds := [], alts := [], laidByText := true, laidKinds := [.data, .data, .data, .data, .sentinel, .sentinel, .data, .data, .pinned], laidTests := true, laidLooks := .later }
def TrieMatchUptoCardSaid : Prop := Claim7.holds Tryd.pinned (.plain (OpenSpec.upto trieMatchSpec)) trieMatchUptoCard

/-- THE SECOND FORM's CARD OF 'heraldlaw03.TrieUnder'. -/
def trieUnderUptoCard : Claim7 := { stood := { row := trieUnderUptoRow, standIns := [], harness := (true, "3b0184c68e34bad55c1bfeaee9efd0c7b7d966625c53cc2ac558d7aa5528c7b2"), looks := true }, kinds := [], alts := [], laidByText := true, laidKinds := [.data, .data, .data, .data, .sentinel, .sentinel, .data, .data, .pinned], laidTests := true, laidLooks := .later }
def TrieUnderUptoCardSaid : Prop := Claim7.holds Tryd.pinned (.plain (OpenSpec.upto trieUnderSpec)) trieUnderUptoCard

/-- THE SECOND FORM's CARD OF 'heraldlaw03.TrieKnown'. -/
def trieKnownUptoCard : Claim7 := { stood := { row := trieKnownUptoRow, standIns := [], harness := (true, "3b0184c68e34bad55c1bfeaee9efd0c7b7d966625c53cc2ac558d7aa5528c7b2"), looks := true }, kinds := [], alts := [], laidByText := true, laidKinds := [.data, .data, .data, .data, .sentinel, .sentinel, .data, .data, .pinned], laidTests := true, laidLooks := .later }
def TrieKnownUptoCardSaid : Prop := Claim7.holds Tryd.pinned (.plain (OpenSpec.upto trieKnownSpec)) trieKnownUptoCard
end Rows
end Go.Proofs.YtjjhimdjhfdmiaaDoor
