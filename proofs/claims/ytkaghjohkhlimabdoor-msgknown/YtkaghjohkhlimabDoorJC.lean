/-
  What the cards share.
-/
import Derived.Test.YtkaghjohkhlimabDoorK3
import Derived.Test.YtkaghjohkhlimabDoorK1
import Derived.Lib.SmallJoins
import Derived.ShutString
import Derived.ChangeOld
import Derived.Below
import Derived.Carry
import Derived.Deep.SlicePairs
namespace Go.Proofs.YtkaghjohkhlimabDoor
open Go.ChangeShapes Go.WideShapes Go.ChangeAt Go.RowKit Go.Lib Go.Joins Go.Deep
theorem own : ownKnob Tryd.prog.godebug = none := by kernel_rfl
theorem laidOut : laidOutB Tryd.prog = true := by kernel_rfl
theorem looksOff : false = Tryd.pinned.checked.prog.looks [] := by kernel_rfl
theorem st9 : Tryd.prog.wantsStandIn 9 = false := by kernel_rfl
theorem st4 : Tryd.prog.wantsStandIn 4 = false := by kernel_rfl
end Go.Proofs.YtkaghjohkhlimabDoor
