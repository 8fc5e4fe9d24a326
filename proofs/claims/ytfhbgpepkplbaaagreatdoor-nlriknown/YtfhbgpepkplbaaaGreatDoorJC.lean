/-
  What the cards share.
-/
import Derived.Test.YtfhbgpepkplbaaaGreatDoorT3
import Derived.Test.YtfhbgpepkplbaaaGreatDoorL1
import Derived.Lib.SmallJoins
import Derived.ShutString
import Derived.ChangeOld
import Derived.Below
import Derived.Carry
import Derived.Deep.SlicePairs
namespace Go.Proofs.YtfhbgpepkplbaaaGreatDoor
open Go.ChangeShapes Go.WideShapes Go.ChangeAt Go.RowKit Go.Lib Go.Joins Go.Deep
theorem own : ownKnob Tryz.prog.godebug = none := by kernel_rfl
theorem laidOut : laidOutB Tryz.prog = true := by kernel_rfl
theorem looksOff : true = Tryz.pinned.checked.prog.looks [] := by kernel_rfl
theorem st9 : Tryz.prog.wantsStandIn 9 = false := by kernel_rfl
theorem st5 : Tryz.prog.wantsStandIn 5 = false := by kernel_rfl
theorem st4 : Tryz.prog.wantsStandIn 4 = false := by kernel_rfl
theorem u8_bd {n : Int} (h : (Lit.int .u8 n).wf = true) : ∃ k : Nat, n = k ∧ k < 256 := by
  have hb : 0 ≤ n ∧ n ≤ 255 := by simpa [Lit.wf, IntKind.min, IntKind.max, IntKind.signed, IntKind.bits] using h
  exact ⟨n.toNat, by omega, by omega⟩
end Go.Proofs.YtfhbgpepkplbaaaGreatDoor
