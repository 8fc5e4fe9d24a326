/-
  What the cards share.
-/
import Derived.Test.YtfhapjhkjdifjaaGreatDoorK3
import Derived.Test.YtfhapjhkjdifjaaGreatDoorK1
import Derived.Test.YtfhapjhkjdifjaaGreatDoorFL1
import Derived.Lib.SmallJoins
import Derived.ShutString
import Derived.ChangeOld
import Derived.Below
import Derived.Carry
import Derived.Deep.SlicePairs
namespace Go.Proofs.YtfhapjhkjdifjaaGreatDoor
open Go.ChangeShapes Go.WideShapes Go.ChangeAt Go.RowKit Go.Lib Go.Joins Go.Deep
theorem own : ownKnob Tryz.prog.godebug = none := by kernel_rfl
theorem laidOut : laidOutB Tryz.prog = true := by kernel_rfl
theorem looksOff : false = Tryz.pinned.checked.prog.looks [] := by kernel_rfl
theorem st27 : Tryz.prog.wantsStandIn 27 = false := by kernel_rfl
end Go.Proofs.YtfhapjhkjdifjaaGreatDoor
