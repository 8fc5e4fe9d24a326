/-
  What the cards have in common.
-/
import Derived.Test.YtbdfigfjoiefiaaDoorJ1
import Derived.Test.YtbdfigfjoiefiaaDoorJ2
import Derived.ShutString
import Derived.ChangeOld
import Derived.Carry
namespace Go.Proofs.YtbdfigfjoiefiaaDoor
open Go.ChangeShapes Go.WideShapes Go.ChangeAt Go.RowKit Go.Lib Go.Joins Go.Deep
theorem own : ownKnob Tryd.prog.godebug = none := by kernel_rfl
theorem laidOut : laidOutB Tryd.prog = true := by kernel_rfl
/-- The weights of the arguments. -/
theorem small_each {H : Type} {ts : List TypeId} {ds : List (DataW H)} (h : (DataW.weightsEach Tryd.prog ts ds).all (· ≤ reachBytes) = true) (j : Nat) (t : TypeId) (d : DataW H) (ht : ts[j]? = some t) (hd : ds[j]? = some d) : Small t d := by
  induction ts generalizing ds j with
  | nil => simp at ht
  | cons t0 ts ih =>
    cases ds with
    | nil => simp at hd
    | cons d0 ds =>
      simp only [DataW.weightsEach, List.all_append, Bool.and_eq_true] at h
      cases j with
      | zero =>
        simp at ht hd
        subst ht hd
        intro x hx
        have := List.all_eq_true.mp h.1 x hx
        simpa using this
      | succ j => exact ih h.2 j (by simpa using ht) (by simpa using hd)
theorem st22 : Tryd.prog.wantsStandIn 22 = false := by kernel_rfl
theorem st4 : Tryd.prog.wantsStandIn 4 = false := by kernel_rfl
theorem st23 : Tryd.prog.wantsStandIn 23 = false := by kernel_rfl
theorem st9 : Tryd.prog.wantsStandIn 9 = false := by kernel_rfl
theorem looksOff : true = Tryd.pinned.checked.prog.looks [] := by kernel_rfl
end Go.Proofs.YtbdfigfjoiefiaaDoor
