/-
  Terms and policies that come in.
-/
import Derived.Test.YthaebbmekonacaaGreatDoorJEC
import Derived.Test.YthaebbmekonacaaGreatDoorS6
import Derived.SizedLaws
set_option linter.unusedVariables false
set_option linter.unusedSimpArgs false
namespace Go.Proofs.YthaebbmekonacaaGreatDoor
open Go.ChangeShapes Go.WideShapes Go.ChangeAt Go.RowKit Go.Lib Go.Joins Go.Deep Go.WideMaps Go.WideElems
variable {H : Type} {enc : TypeId × Value → H} {w : World} {sp : Nat → Bool} {held : Bool} {fuel : Nat}
/-- What is known of a term that came in. -/
structure FineT (T : Tm) : Prop where
  sm : SmT T
  rm : RoomT T
  nn : ∀ a ∈ T.acs, a.n < 4294967296
theorem FineT.len {T : Tm} (h : FineT T) : LenT T := ⟨h.sm.lc, h.sm.la⟩
end Go.Proofs.YthaebbmekonacaaGreatDoor
