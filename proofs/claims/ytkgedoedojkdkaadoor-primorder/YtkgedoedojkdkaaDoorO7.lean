/-
  PrimOrder's first statement: which of its operations may come next.
-/
import Derived.Test.YtkgedoedojkdkaaDoorO6
namespace Go.Proofs.YtkgedoedojkdkaaDoor
open Go.RowKit
/-- The lots of operations of a piece of code, in the order of the text. -/
def opsIn : Code → List (Array Oper)
  | .region _ ops _ => [ops]
  | .seq a b => opsIn a ++ opsIn b
  | .cond _ a b => opsIn a ++ opsIn b
  | .block _ b => opsIn b
  | .loop b => opsIn b
  | .scope b => opsIn b
  | _ => []
/-- The lots of operations of a function. -/
def lots (f : Func) : List (Array Oper) := match f.body with
  | some c => opsIn c
  | none => []
/-- May what is ready come next, and is all done where nothing is? -/
def one6 (o : Array Oper) (l0 l1 l2 l3 l4 l5 l6 l7 l8 l9 l10 l11 : Bool) : Bool :=
  let r := Region.ready .any o #[l0, l1, l2, l3, l4, l5, l6, l7, l8, l9, l10, l11]
  (r.all fun i => cond3 i l0 l1 l2 l3 l4 l5 l6 l7 l8 l9 l10 l11) && (!r.isEmpty || (l0 && l1 && l2 && l3 && l4 && l5 && l6 && l7 && l8 && l9 && l10 && l11))
set_option maxRecDepth 100000
theorem one6_0 : ∀ l4 l5 l6 l7 l8 l9 l10 l11 : Bool, one6 ((lots Tryd.f6).getD 1 #[]) false false false false l4 l5 l6 l7 l8 l9 l10 l11 = true := by decide +kernel
theorem one6_1 : ∀ l4 l5 l6 l7 l8 l9 l10 l11 : Bool, one6 ((lots Tryd.f6).getD 1 #[]) false false false true l4 l5 l6 l7 l8 l9 l10 l11 = true := by decide +kernel
theorem one6_2 : ∀ l4 l5 l6 l7 l8 l9 l10 l11 : Bool, one6 ((lots Tryd.f6).getD 1 #[]) false false true false l4 l5 l6 l7 l8 l9 l10 l11 = true := by decide +kernel
theorem one6_3 : ∀ l4 l5 l6 l7 l8 l9 l10 l11 : Bool, one6 ((lots Tryd.f6).getD 1 #[]) false false true true l4 l5 l6 l7 l8 l9 l10 l11 = true := by decide +kernel
theorem one6_4 : ∀ l4 l5 l6 l7 l8 l9 l10 l11 : Bool, one6 ((lots Tryd.f6).getD 1 #[]) false true false false l4 l5 l6 l7 l8 l9 l10 l11 = true := by decide +kernel
theorem one6_5 : ∀ l4 l5 l6 l7 l8 l9 l10 l11 : Bool, one6 ((lots Tryd.f6).getD 1 #[]) false true false true l4 l5 l6 l7 l8 l9 l10 l11 = true := by decide +kernel
theorem one6_6 : ∀ l4 l5 l6 l7 l8 l9 l10 l11 : Bool, one6 ((lots Tryd.f6).getD 1 #[]) false true true false l4 l5 l6 l7 l8 l9 l10 l11 = true := by decide +kernel
theorem one6_7 : ∀ l4 l5 l6 l7 l8 l9 l10 l11 : Bool, one6 ((lots Tryd.f6).getD 1 #[]) false true true true l4 l5 l6 l7 l8 l9 l10 l11 = true := by decide +kernel
theorem one6_8 : ∀ l4 l5 l6 l7 l8 l9 l10 l11 : Bool, one6 ((lots Tryd.f6).getD 1 #[]) true false false false l4 l5 l6 l7 l8 l9 l10 l11 = true := by decide +kernel
theorem one6_9 : ∀ l4 l5 l6 l7 l8 l9 l10 l11 : Bool, one6 ((lots Tryd.f6).getD 1 #[]) true false false true l4 l5 l6 l7 l8 l9 l10 l11 = true := by decide +kernel
theorem one6_10 : ∀ l4 l5 l6 l7 l8 l9 l10 l11 : Bool, one6 ((lots Tryd.f6).getD 1 #[]) true false true false l4 l5 l6 l7 l8 l9 l10 l11 = true := by decide +kernel
theorem one6_11 : ∀ l4 l5 l6 l7 l8 l9 l10 l11 : Bool, one6 ((lots Tryd.f6).getD 1 #[]) true false true true l4 l5 l6 l7 l8 l9 l10 l11 = true := by decide +kernel
theorem one6_12 : ∀ l4 l5 l6 l7 l8 l9 l10 l11 : Bool, one6 ((lots Tryd.f6).getD 1 #[]) true true false false l4 l5 l6 l7 l8 l9 l10 l11 = true := by decide +kernel
theorem one6_13 : ∀ l4 l5 l6 l7 l8 l9 l10 l11 : Bool, one6 ((lots Tryd.f6).getD 1 #[]) true true false true l4 l5 l6 l7 l8 l9 l10 l11 = true := by decide +kernel
theorem one6_14 : ∀ l4 l5 l6 l7 l8 l9 l10 l11 : Bool, one6 ((lots Tryd.f6).getD 1 #[]) true true true false l4 l5 l6 l7 l8 l9 l10 l11 = true := by decide +kernel
theorem one6_15 : ∀ l4 l5 l6 l7 l8 l9 l10 l11 : Bool, one6 ((lots Tryd.f6).getD 1 #[]) true true true true l4 l5 l6 l7 l8 l9 l10 l11 = true := by decide +kernel
theorem one6_all : ∀ l0 l1 l2 l3 l4 l5 l6 l7 l8 l9 l10 l11 : Bool, one6 ((lots Tryd.f6).getD 1 #[]) l0 l1 l2 l3 l4 l5 l6 l7 l8 l9 l10 l11 = true := by
  intro l0 l1 l2 l3 l4 l5 l6 l7 l8 l9 l10 l11
  cases l0 <;> cases l1 <;> cases l2 <;> cases l3
  · exact one6_0 l4 l5 l6 l7 l8 l9 l10 l11
  · exact one6_1 l4 l5 l6 l7 l8 l9 l10 l11
  · exact one6_2 l4 l5 l6 l7 l8 l9 l10 l11
  · exact one6_3 l4 l5 l6 l7 l8 l9 l10 l11
  · exact one6_4 l4 l5 l6 l7 l8 l9 l10 l11
  · exact one6_5 l4 l5 l6 l7 l8 l9 l10 l11
  · exact one6_6 l4 l5 l6 l7 l8 l9 l10 l11
  · exact one6_7 l4 l5 l6 l7 l8 l9 l10 l11
  · exact one6_8 l4 l5 l6 l7 l8 l9 l10 l11
  · exact one6_9 l4 l5 l6 l7 l8 l9 l10 l11
  · exact one6_10 l4 l5 l6 l7 l8 l9 l10 l11
  · exact one6_11 l4 l5 l6 l7 l8 l9 l10 l11
  · exact one6_12 l4 l5 l6 l7 l8 l9 l10 l11
  · exact one6_13 l4 l5 l6 l7 l8 l9 l10 l11
  · exact one6_14 l4 l5 l6 l7 l8 l9 l10 l11
  · exact one6_15 l4 l5 l6 l7 l8 l9 l10 l11
theorem hr6 : ∀ l0 l1 l2 l3 l4 l5 l6 l7 l8 l9 l10 l11 : Bool, ∀ i ∈ Region.ready .any ((lots Tryd.f6).getD 1 #[]) #[l0, l1, l2, l3, l4, l5, l6, l7, l8, l9, l10, l11], cond3 i l0 l1 l2 l3 l4 l5 l6 l7 l8 l9 l10 l11 = true := by
  intro l0 l1 l2 l3 l4 l5 l6 l7 l8 l9 l10 l11 i hi
  have h := one6_all l0 l1 l2 l3 l4 l5 l6 l7 l8 l9 l10 l11
  unfold one6 at h
  simp only [Bool.and_eq_true] at h
  exact List.all_eq_true.1 h.1 i hi
theorem hf6 : ∀ l0 l1 l2 l3 l4 l5 l6 l7 l8 l9 l10 l11 : Bool, Region.ready .any ((lots Tryd.f6).getD 1 #[]) #[l0, l1, l2, l3, l4, l5, l6, l7, l8, l9, l10, l11] = [] → (l0 && l1 && l2 && l3 && l4 && l5 && l6 && l7 && l8 && l9 && l10 && l11) = true := by
  intro l0 l1 l2 l3 l4 l5 l6 l7 l8 l9 l10 l11 he
  have h := one6_all l0 l1 l2 l3 l4 l5 l6 l7 l8 l9 l10 l11
  unfold one6 at h
  rw [he] at h
  simpa only [List.all_nil, List.isEmpty_nil, Bool.not_true, Bool.false_or, Bool.true_and] using h
end Go.Proofs.YtkgedoedojkdkaaDoor
