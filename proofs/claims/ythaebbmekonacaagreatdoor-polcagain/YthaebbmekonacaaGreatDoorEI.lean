/-
  errors.Is of a fault.
-/
import Derived.Test.YthaebbmekonacaaGreatDoorRP
import Derived.WalkKit
import Derived.LaidEql
import Derived.Stop.Asserts
import Derived.RowKitTokens
set_option linter.unusedVariables false
set_option linter.unusedSimpArgs false
set_option maxRecDepth 100000
namespace Go.Proofs.YthaebbmekonacaaGreatDoor
open Go.RowKit Go.Extern.Stop Go.Stop Go.Extern
def cmpFn : Array Value → Sem Value := Extern.ReflectliteType.method fun t => do Go.Extern.Rtype.noPackHeld "Comparable" t; pure (.bool (← typeInfo t).comparable)
theorem ei_typeOf (v : Value) (w : World) : (Extern.ReflectliteType.typeOf #[.iface 31 v]).run Tryz.prog w = .ok (.iface 164 (.agg #[.pointer (some ⟨12, 31, none⟩)])) w := by kernel_rfl
theorem ei_cmp (w : World) : ((Extern.ReflectliteType.method fun t => do Go.Extern.Rtype.noPackHeld "Comparable" t; Functor.map (fun a => Value.bool a.comparable) (typeInfo t)) #[.agg #[.pointer (some ⟨12, 31, none⟩)]]).run Tryz.prog w = .ok (.bool true) w := by kernel_rfl
theorem ei_h245 (args : Array Value) (w : World) : (callFunc 245 args).run Tryz.prog w = ((cmpFn args).run Tryz.prog w).andThen fun v w' => .ok (Next.value v) w' :=
  @run_callFunc_extern Tryz.prog 245 _ cmpFn Tryz.func245 (by kernel_rfl) (by kernel_rfl) (by kernel_rfl) (by kernel_rfl) args w
theorem ei_mC (v : Value) (w : World) : (Go.method 402 164 v "Comparable").run Tryz.prog w = .ok (245, v) w := by kernel_rfl
theorem ei_mU (v : Value) (w : World) : (Go.method 402 97 v "Unwrap").run Tryz.prog w = .ok (239, v) w := by kernel_rfl
theorem ei_noIs (v : Value) (xT : TypeId) (w : World) : (Instr.typeAssert (.iface 97 v) xT 166 true).run Tryz.prog w = .ok (.tuple #[.nilIface, .bool false]) w := run_typeAssert_lacksB Tryz.underlying166 (by kernel_rfl) (by kernel_rfl) v xT w
theorem ei_un (v : Value) (xT : TypeId) (w : World) : (Instr.typeAssert (.iface 97 v) xT 169 true).run Tryz.prog w = .ok (.tuple #[.iface 97 v, .bool true]) w := run_typeAssert_hasB Tryz.underlying169 (by kernel_rfl) v xT w
theorem ei_eq (v : Value) (w : World) : (binOp .eql 70 (.iface 97 v) (.iface 31 (.int .i64 9))).run Tryz.prog w = .ok (.bool false) w := run_eql_iface_types 97 31 v _ Tryz.underlying70 (by decide) w
theorem ei_eq2 (w : World) : (binOp .eql 70 (.iface 31 (.int .i64 9)) (.iface 31 (.int .i64 9))).run Tryz.prog w = .ok (.bool true) w := by kernel_rfl
theorem is_flt (b : Nat) (w : World) (h0 : w.cell? ⟨b, 0, none⟩ = some (.int .i64 9)) :
    Calls Tryz.prog 28 #[.iface 97 (.pointer (some ⟨b, 0, none⟩)), .iface 31 (.int .i64 9)] w fun e w' => e = .returned (.bool true) ∧ w' = w := by
  have h8 := @run_callFunc_extern Tryz.prog 58 _ Extern.ReflectliteType.typeOf Tryz.func58 (by kernel_rfl) (by kernel_rfl) (by kernel_rfl) (by kernel_rfl)
  have h32 := ei_h245
  have tT := ei_typeOf
  have cT := ei_cmp
  have nI := ei_noIs
  have uW := ei_un
  have q1 := ei_eq
  have q2 := ei_eq2
  have mC := ei_mC
  have mU := ei_mU
  unfold cmpFn at h32
  go_enter Tryz.func28, Tryz.ntmps28
  go_wp2
  refine wp_loop_rounds 2 ?_
  rw [rounds_succ]
  go_wp2
  rw [rounds_succ]
  go_wp2
  go_ret
  exact ⟨rfl, rfl⟩
end Go.Proofs.YthaebbmekonacaaGreatDoor
