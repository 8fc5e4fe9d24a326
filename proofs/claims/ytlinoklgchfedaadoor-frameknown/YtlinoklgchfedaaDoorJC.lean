/-
  What the cards share.
-/
import Derived.Test.YtlinoklgchfedaaDoorT3
import Derived.Test.YtlinoklgchfedaaDoorL1
import Derived.Lib.SmallJoins
import Derived.ShutString
import Derived.ChangeOld
import Derived.Below
import Derived.Carry
import Derived.Deep.SlicePairs
namespace Go.Proofs.YtlinoklgchfedaaDoor
open Go.ChangeShapes Go.WideShapes Go.ChangeAt Go.RowKit Go.Lib Go.Joins Go.Deep
theorem own : ownKnob Tryd.prog.godebug = none := by kernel_rfl
theorem laidOut : laidOutB Tryd.prog = true := by kernel_rfl
theorem looksOff : false = Tryd.pinned.checked.prog.looks [] := by kernel_rfl
theorem st9 : Tryd.prog.wantsStandIn 9 = false := by kernel_rfl
theorem st22 : Tryd.prog.wantsStandIn 22 = false := by kernel_rfl
theorem st37 : Tryd.prog.wantsStandIn 37 = false := by kernel_rfl
theorem st42 : Tryd.prog.wantsStandIn 42 = false := by kernel_rfl
theorem st43 : Tryd.prog.wantsStandIn 43 = false := by kernel_rfl
theorem st47 : Tryd.prog.wantsStandIn 47 = false := by kernel_rfl
end Go.Proofs.YtlinoklgchfedaaDoor
