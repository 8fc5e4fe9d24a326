/-
  PrimOrder's first statement: which of its operations may come next.
-/
import Derived.Test.YtkgedoedojkdkaaDoorO6
namespace Go.Proofs.YtkgedoedojkdkaaDoor
open Go.RowKit
/-- The operations of the statement, as the program's text has them. -/
def ops6 : Array Oper := #[{ dst := some 13, op := Op.load 43 (Operand.tmp 3), type := 43, pos := "outright.go:45", «after» := #[], guard := none }, { dst := some 14, op := Op.call { callee := Callee.value (Operand.func 30), args := #[Operand.tmp 13], argTypes := #[43] }, type := 24, pos := "outright.go:45", «after» := #[{ «on» := 0, ground := Ground.data }], guard := none }, { dst := some 15, op := Op.load 43 (Operand.tmp 4), type := 43, pos := "outright.go:45", «after» := #[], guard := none }, { dst := some 16, op := Op.call { callee := Callee.value (Operand.func 30), args := #[Operand.tmp 15], argTypes := #[43] }, type := 24, pos := "outright.go:45", «after» := #[{ «on» := 2, ground := Ground.data }, { «on» := 1, ground := Ground.chain }], guard := none }, { dst := some 17, op := Op.load 43 (Operand.tmp 5), type := 43, pos := "outright.go:45", «after» := #[], guard := none }, { dst := some 18, op := Op.call { callee := Callee.value (Operand.func 30), args := #[Operand.tmp 17], argTypes := #[43] }, type := 24, pos := "outright.go:45", «after» := #[{ «on» := 4, ground := Ground.data }, { «on» := 3, ground := Ground.chain }], guard := none }, { dst := some 7, op := Op.alloc 24, type := 0, pos := "outright.go:45", «after» := #[], guard := none }, { dst := some 8, op := Op.alloc 24, type := 0, pos := "outright.go:45", «after» := #[], guard := none }, { dst := some 9, op := Op.alloc 24, type := 0, pos := "outright.go:45", «after» := #[], guard := none }, { dst := none, op := Op.store 24 (Operand.tmp 7) (Operand.tmp 14), type := 0, pos := "outright.go:45", «after» := #[{ «on» := 6, ground := Ground.data }, { «on» := 1, ground := Ground.data }, { «on» := 5, ground := Ground.chain }, { «on» := 0, ground := Ground.phase }, { «on» := 1, ground := Ground.phase }, { «on» := 2, ground := Ground.textOnly Departure.lateStores }, { «on» := 3, ground := Ground.textOnly Departure.lateStoresUnsure }, { «on» := 4, ground := Ground.textOnly Departure.lateStores }, { «on» := 5, ground := Ground.textOnly Departure.lateStoresUnsure }, { «on» := 6, ground := Ground.phase }, { «on» := 7, ground := Ground.phase }, { «on» := 8, ground := Ground.phase }], guard := none }, { dst := none, op := Op.store 24 (Operand.tmp 8) (Operand.tmp 16), type := 0, pos := "outright.go:45", «after» := #[{ «on» := 7, ground := Ground.data }, { «on» := 3, ground := Ground.data }, { «on» := 9, ground := Ground.chain }, { «on» := 0, ground := Ground.phase }, { «on» := 1, ground := Ground.phase }, { «on» := 2, ground := Ground.phase }, { «on» := 3, ground := Ground.phase }, { «on» := 4, ground := Ground.textOnly Departure.lateStores }, { «on» := 5, ground := Ground.textOnly Departure.lateStoresUnsure }, { «on» := 6, ground := Ground.phase }, { «on» := 7, ground := Ground.phase }, { «on» := 8, ground := Ground.phase }, { «on» := 9, ground := Ground.phase }], guard := none }, { dst := none, op := Op.store 24 (Operand.tmp 9) (Operand.tmp 18), type := 0, pos := "outright.go:45", «after» := #[{ «on» := 8, ground := Ground.data }, { «on» := 5, ground := Ground.data }, { «on» := 10, ground := Ground.chain }, { «on» := 0, ground := Ground.phase }, { «on» := 1, ground := Ground.phase }, { «on» := 2, ground := Ground.phase }, { «on» := 3, ground := Ground.phase }, { «on» := 4, ground := Ground.phase }, { «on» := 5, ground := Ground.phase }, { «on» := 6, ground := Ground.phase }, { «on» := 7, ground := Ground.phase }, { «on» := 8, ground := Ground.phase }, { «on» := 9, ground := Ground.phase }, { «on» := 10, ground := Ground.phase }], guard := none }]
def one6 (l0 l1 l2 l3 l4 l5 l6 l7 l8 l9 l10 l11 : Bool) : Bool :=
  let r := Region.ready .any ops6 #[l0, l1, l2, l3, l4, l5, l6, l7, l8, l9, l10, l11]
  (r.all fun i => cond3 i l0 l1 l2 l3 l4 l5 l6 l7 l8 l9 l10 l11) && (!r.isEmpty || (l0 && l1 && l2 && l3 && l4 && l5 && l6 && l7 && l8 && l9 && l10 && l11))
set_option maxRecDepth 100000
theorem one6_0 : ∀ l4 l5 l6 l7 l8 l9 l10 l11 : Bool, one6 false false false false l4 l5 l6 l7 l8 l9 l10 l11 = true := by decide +kernel
theorem one6_1 : ∀ l4 l5 l6 l7 l8 l9 l10 l11 : Bool, one6 false false false true l4 l5 l6 l7 l8 l9 l10 l11 = true := by decide +kernel
theorem one6_2 : ∀ l4 l5 l6 l7 l8 l9 l10 l11 : Bool, one6 false false true false l4 l5 l6 l7 l8 l9 l10 l11 = true := by decide +kernel
theorem one6_3 : ∀ l4 l5 l6 l7 l8 l9 l10 l11 : Bool, one6 false false true true l4 l5 l6 l7 l8 l9 l10 l11 = true := by decide +kernel
theorem one6_4 : ∀ l4 l5 l6 l7 l8 l9 l10 l11 : Bool, one6 false true false false l4 l5 l6 l7 l8 l9 l10 l11 = true := by decide +kernel
theorem one6_5 : ∀ l4 l5 l6 l7 l8 l9 l10 l11 : Bool, one6 false true false true l4 l5 l6 l7 l8 l9 l10 l11 = true := by decide +kernel
theorem one6_6 : ∀ l4 l5 l6 l7 l8 l9 l10 l11 : Bool, one6 false true true false l4 l5 l6 l7 l8 l9 l10 l11 = true := by decide +kernel
theorem one6_7 : ∀ l4 l5 l6 l7 l8 l9 l10 l11 : Bool, one6 false true true true l4 l5 l6 l7 l8 l9 l10 l11 = true := by decide +kernel
theorem one6_8 : ∀ l4 l5 l6 l7 l8 l9 l10 l11 : Bool, one6 true false false false l4 l5 l6 l7 l8 l9 l10 l11 = true := by decide +kernel
theorem one6_9 : ∀ l4 l5 l6 l7 l8 l9 l10 l11 : Bool, one6 true false false true l4 l5 l6 l7 l8 l9 l10 l11 = true := by decide +kernel
theorem one6_10 : ∀ l4 l5 l6 l7 l8 l9 l10 l11 : Bool, one6 true false true false l4 l5 l6 l7 l8 l9 l10 l11 = true := by decide +kernel
theorem one6_11 : ∀ l4 l5 l6 l7 l8 l9 l10 l11 : Bool, one6 true false true true l4 l5 l6 l7 l8 l9 l10 l11 = true := by decide +kernel
theorem one6_12 : ∀ l4 l5 l6 l7 l8 l9 l10 l11 : Bool, one6 true true false false l4 l5 l6 l7 l8 l9 l10 l11 = true := by decide +kernel
theorem one6_13 : ∀ l4 l5 l6 l7 l8 l9 l10 l11 : Bool, one6 true true false true l4 l5 l6 l7 l8 l9 l10 l11 = true := by decide +kernel
theorem one6_14 : ∀ l4 l5 l6 l7 l8 l9 l10 l11 : Bool, one6 true true true false l4 l5 l6 l7 l8 l9 l10 l11 = true := by decide +kernel
theorem one6_15 : ∀ l4 l5 l6 l7 l8 l9 l10 l11 : Bool, one6 true true true true l4 l5 l6 l7 l8 l9 l10 l11 = true := by decide +kernel
theorem one6_all : ∀ l0 l1 l2 l3 l4 l5 l6 l7 l8 l9 l10 l11 : Bool, one6 l0 l1 l2 l3 l4 l5 l6 l7 l8 l9 l10 l11 = true := by
  intro l0 l1 l2 l3 l4 l5 l6 l7 l8 l9 l10 l11
  cases l0 <;> cases l1 <;> cases l2 <;> cases l3
  · exact one6_0 l4 l5 l6 l7 l8 l9 l10 l11
  · exact one6_1 l4 l5 l6 l7 l8 l9 l10 l11
  · exact one6_2 l4 l5 l6 l7 l8 l9 l10 l11
  · exact one6_3 l4 l5 l6 l7 l8 l9 l10 l11
  · exact one6_4 l4 l5 l6 l7 l8 l9 l10 l11
  · exact one6_5 l4 l5 l6 l7 l8 l9 l10 l11
  · exact one6_6 l4 l5 l6 l7 l8 l9 l10 l11
  · exact one6_7 l4 l5 l6 l7 l8 l9 l10 l11
  · exact one6_8 l4 l5 l6 l7 l8 l9 l10 l11
  · exact one6_9 l4 l5 l6 l7 l8 l9 l10 l11
  · exact one6_10 l4 l5 l6 l7 l8 l9 l10 l11
  · exact one6_11 l4 l5 l6 l7 l8 l9 l10 l11
  · exact one6_12 l4 l5 l6 l7 l8 l9 l10 l11
  · exact one6_13 l4 l5 l6 l7 l8 l9 l10 l11
  · exact one6_14 l4 l5 l6 l7 l8 l9 l10 l11
  · exact one6_15 l4 l5 l6 l7 l8 l9 l10 l11
theorem hr6 : ∀ l0 l1 l2 l3 l4 l5 l6 l7 l8 l9 l10 l11 : Bool, ∀ i ∈ Region.ready .any ops6 #[l0, l1, l2, l3, l4, l5, l6, l7, l8, l9, l10, l11], cond3 i l0 l1 l2 l3 l4 l5 l6 l7 l8 l9 l10 l11 = true := by
  intro l0 l1 l2 l3 l4 l5 l6 l7 l8 l9 l10 l11 i hi
  have h := one6_all l0 l1 l2 l3 l4 l5 l6 l7 l8 l9 l10 l11
  unfold one6 at h
  simp only [Bool.and_eq_true] at h
  exact List.all_eq_true.1 h.1 i hi
theorem hf6 : ∀ l0 l1 l2 l3 l4 l5 l6 l7 l8 l9 l10 l11 : Bool, Region.ready .any ops6 #[l0, l1, l2, l3, l4, l5, l6, l7, l8, l9, l10, l11] = [] → (l0 && l1 && l2 && l3 && l4 && l5 && l6 && l7 && l8 && l9 && l10 && l11) = true := by
  intro l0 l1 l2 l3 l4 l5 l6 l7 l8 l9 l10 l11 he
  have h := one6_all l0 l1 l2 l3 l4 l5 l6 l7 l8 l9 l10 l11
  unfold one6 at h
  rw [he] at h
  simpa only [List.all_nil, List.isEmpty_nil, Bool.not_true, Bool.false_or, Bool.true_and] using h
end Go.Proofs.YtkgedoedojkdkaaDoor
