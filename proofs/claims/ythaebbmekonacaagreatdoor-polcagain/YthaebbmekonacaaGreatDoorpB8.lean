/-
  The contract of Covers, for every two prefixes.
-/
import Derived.Test.YthaebbmekonacaaGreatDoorpB6
namespace Go.Proofs.YthaebbmekonacaaGreatDoor.Pr
open Go.RowKit
/-- Does the first prefix cover the second one? -/
def covB (fa ra : Int) (sa : ByteArray) (la : Int) (fb rb : Int) (sb : ByteArray) (lb : Int) : Bool :=
  decide (chk fb rb sb lb = 0 ∧ 0 ≤ la ∧ la ≤ lb ∧ fb = fa ∧ rb = ra ∧ msk sb.data.toList la = sa.data.toList)
theorem ret_bool {a b : Bool} (h : a = b) : Ending.returned (.bool a) = .returned (.bool b) := by rw [h]
end Go.Proofs.YthaebbmekonacaaGreatDoor.Pr
