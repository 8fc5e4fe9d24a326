/-
  A world that meets what the rows list: the one that the door's own run leaves, with the one table of Go's that is pinned by name.
-/
import Derived.Test.YtjchobcmbkiilaaGreatDoorCards
import Derived.Test.YtjchobcmbkiilaaGreatDoorTie
import Derived.WalkKit
import Derived.ProofKit
import Derived.OpenShut
import Derived.Deep.DeepHandedRow
import Derived.Deep.DeepWitnessRowRef
import Derived.Lib.LaidTab
import Derived.LaidMore
namespace Go.Proofs.YtjchobcmbkiilaaGreatDoor
open Go.ChangeShapes Go.WideShapes Go.ChangeAt Go.RowKit
/-- The cells of the pinned table. -/
def firstCells : Array Value := (Go.Pinned.utf8FirstZ.map fun (n : Nat) => Value.int .u8 (n : Int)).toArray
/-- The table laid into its block. -/
def putFirst (o : Obj) : Obj := match o with
  | .cells _ t frozen => .cells firstCells t frozen
  | o => o
set_option maxRecDepth 100000 in
theorem laid_met (os : Os) (args : Array Value) : laidMet Tryz.prog Rows.setsStarsRow.laid (({ World.doorLaid Tryz.prog 100 os with heap := (World.doorLaid Tryz.prog 100 os).heap.modify 8 putFirst } : World).forCall (fun _ _ => 0) ⟨#[], args, []⟩).memory :=
  laidMet_of_run' 8 (by kernel_rfl) (by kernel_rfl)
end Go.Proofs.YtjchobcmbkiilaaGreatDoor
