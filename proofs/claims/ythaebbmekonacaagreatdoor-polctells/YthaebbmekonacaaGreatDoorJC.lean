/-
  What the cards share; bytes that come in.
-/
import Derived.Test.YthaebbmekonacaaGreatDoorT3
import Derived.Test.YthaebbmekonacaaGreatDoorJE
import Derived.Lib.SmallJoins
import Derived.ShutString
import Derived.ChangeOld
import Derived.Below
import Derived.Carry
import Derived.Deep.SlicePairs
import Derived.Deep.Strs
namespace Go.Proofs.YthaebbmekonacaaGreatDoor
open Go.ChangeShapes Go.WideShapes Go.ChangeAt Go.RowKit Go.Lib Go.Joins Go.Deep Go.WideMaps Go.WideElems
theorem own : ownKnob Tryz.prog.godebug = none := by kernel_rfl
theorem laidOut : laidOutB Tryz.prog = true := by kernel_rfl
theorem looksOff : true = Tryz.pinned.checked.prog.looks [] := by kernel_rfl
theorem st9 : Tryz.prog.wantsStandIn 9 = false := by kernel_rfl
theorem st24 : Tryz.prog.wantsStandIn 24 = false := by kernel_rfl
theorem st63 : Tryz.prog.wantsStandIn 63 = false := by kernel_rfl
theorem zs9 : Tryz.prog.cellsOf 9 = 1 := by kernel_rfl
theorem zs3 : Tryz.prog.cellsOf 3 = 1 := by kernel_rfl
theorem zs4 : Tryz.prog.cellsOf 4 = 1 := by kernel_rfl
theorem zs38 : Tryz.prog.cellsOf 38 = 1 := by kernel_rfl
theorem zs22 : Tryz.prog.cellsOf 22 = 1 := by kernel_rfl
theorem zs60 : Tryz.prog.cellsOf 60 = 1 := by kernel_rfl
theorem zs61 : Tryz.prog.cellsOf 61 = 1 := by kernel_rfl
theorem zs37 : Tryz.prog.cellsOf 37 = 4 := by kernel_rfl
theorem zs40 : Tryz.prog.cellsOf 40 = 4 := by kernel_rfl
theorem zs63 : Tryz.prog.cellsOf 63 = 2 := by kernel_rfl
theorem zs24 : Tryz.prog.cellsOf 24 = 3 := by kernel_rfl
end Go.Proofs.YthaebbmekonacaaGreatDoor
