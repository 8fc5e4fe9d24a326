/-
  errors.As at a target of *api.Fault.
-/
import Derived.Test.YthaebbmekonacaaGreatDoorPTT
import Derived.WalkKit
import Derived.LaidEql
import Derived.Stop.Asserts
import Derived.RowKitTokens
import Derived.Test.YthaebbmekonacaaGreatDoorRS
set_option linter.unusedVariables false
set_option linter.unusedSimpArgs false
set_option maxRecDepth 100000
namespace Go.Proofs.YthaebbmekonacaaGreatDoor
open Go.RowKit Go.Extern.Stop Go.Stop Go.Extern
theorem ea_valueOf27 (t : Addr) (w : World) : (ReflectliteValue.unpack (.iface 113 (.pointer (some t)))).run Tryz.prog w
    = .ok (.agg #[.pointer (some ⟨12, 113, none⟩), .pointer (some ⟨w.heap.size, 0, none⟩), .int .u64 150]) (w.alloc (.cells #[.pointer (some t)] 113)) := by kernel_rfl
theorem ea_type27 (a : Addr) (w : World) : (ReflectliteValue.methodAny (ReflectliteValue.valueError "reflectlite.Value.Type" 0) (fun t _ _ _ => ReflectliteType.toType t) #[.agg #[.pointer (some ⟨12, 113, none⟩), .pointer (some a), .int .u64 150]]).run Tryz.prog w
    = .ok (.iface 164 (.agg #[.pointer (some ⟨12, 113, none⟩)])) w := by kernel_rfl
theorem ea_methodKind (h : Value) (w : World) : (Go.method 402 164 (.agg #[h]) "Kind").run Tryz.prog w = .ok (234, h) w := by kernel_rfl
theorem ea_kind27 (w : World) : ((ReflectliteType.abiMethod fun t => Functor.map (fun a : Nat => Value.int IntKind.u8 (a : Int)) (Rtype.kind t)) #[.pointer (some ⟨12, 113, none⟩)]).run Tryz.prog w = .ok (.int .u8 22) w := by kernel_rfl
theorem ea_kind25 (w : World) : ((ReflectliteType.abiMethod fun t => Functor.map (fun a : Nat => Value.int IntKind.u8 (a : Int)) (Rtype.kind t)) #[.pointer (some ⟨12, 97, none⟩)]).run Tryz.prog w = .ok (.int .u8 22) w := by kernel_rfl

theorem ea_parts27 (a : Addr) (w : World) : (ReflectliteValue.parts (.agg #[.pointer (some ⟨12, 113, none⟩), .pointer (some a), .int .u64 150])).run Tryz.prog w = .ok (some (113, a, 150)) w := by kernel_rfl
theorem ea_isNil27 (a p : Addr) (W : World) (ha : W.cell? a = some (.pointer (some p))) :
    (ReflectliteValue.method (ReflectliteValue.valueError "reflectlite.Value.IsNil" 0) ReflectliteValue.isNil #[.agg #[.pointer (some ⟨12, 113, none⟩), .pointer (some a), .int .u64 150]]).run Tryz.prog W = .ok (.bool false) W := by
  refine (Sem.run_bind' _ (ReflectliteValue.parts (.agg #[.pointer (some ⟨12, 113, none⟩), .pointer (some a), .int .u64 150])) _ _).trans ?_
  simp only [Sem.run_bind, ea_parts27, Result.andThen]
  simp [ReflectliteValue.isNil, loadVar, isAgg, underlying, Tryz.underlying113, ha, Result.andThen]

theorem ea_methodElem (h : Value) (w : World) : (Go.method 402 164 (.agg #[h]) "Elem").run Tryz.prog w = .ok (246, .agg #[h]) w := by kernel_rfl
theorem ea_methodImplements (h : Value) (w : World) : (Go.method 402 164 (.agg #[h]) "Implements").run Tryz.prog w = .ok (247, .agg #[h]) w := by kernel_rfl
theorem ea_methodAssignableTo (h : Value) (w : World) : (Go.method 402 164 (.agg #[h]) "AssignableTo").run Tryz.prog w = .ok (244, .agg #[h]) w := by kernel_rfl
theorem ea_elem27 (w : World) : (ReflectliteType.method ReflectliteType.elem #[.agg #[.pointer (some ⟨12, 113, none⟩)]]).run Tryz.prog w = .ok (.iface 164 (.agg #[.pointer (some ⟨12, 97, none⟩)])) w := by kernel_rfl
theorem ea_implements25 (w : World) : (ReflectliteType.relation "Implements" ReflectliteType.implements_ #[.agg #[.pointer (some ⟨12, 97, none⟩)], .iface 164 (.agg #[.pointer (some ⟨12, 70, none⟩)])]).run Tryz.prog w = .ok (.bool true) w := by kernel_rfl
theorem ea_typeOf25 (v : Value) (w : World) : (ReflectliteType.typeOf #[.iface 97 v]).run Tryz.prog w = .ok (.iface 164 (.agg #[.pointer (some ⟨12, 97, none⟩)])) w := by kernel_rfl
theorem ea_assignable25 (w : World) : (ReflectliteType.relation "AssignableTo" ReflectliteType.assignableTo #[.agg #[.pointer (some ⟨12, 97, none⟩)], .iface 164 (.agg #[.pointer (some ⟨12, 97, none⟩)])]).run Tryz.prog w = .ok (.bool true) w := by kernel_rfl
theorem ea_valueOf25 (e : Addr) (w : World) : (ReflectliteValue.unpack (.iface 97 (.pointer (some e)))).run Tryz.prog w
    = .ok (.agg #[.pointer (some ⟨12, 97, none⟩), .pointer (some ⟨w.heap.size, 0, none⟩), .int .u64 150]) (w.alloc (.cells #[.pointer (some e)] 97)) := by kernel_rfl

theorem ea_elemOf27 (w : World) : (Rtype.elem? 113).run Tryz.prog w = .ok (some 97) w := by kernel_rfl
theorem ea_mk25 (p : Addr) (w : World) : (ReflectliteValue.mk 97 p ReflectliteValue.flagAddr).run Tryz.prog w = .ok (.agg #[.pointer (some ⟨12, 97, none⟩), .pointer (some p), .int .u64 406]) w := by kernel_rfl
theorem ea_elemV27 (a p : Addr) (W : World) (ha : W.cell? a = some (.pointer (some p))) :
    (ReflectliteValue.method (ReflectliteValue.valueError "reflectlite.Value.Elem" 0) ReflectliteValue.elem #[.agg #[.pointer (some ⟨12, 113, none⟩), .pointer (some a), .int .u64 150]]).run Tryz.prog W
      = .ok (.agg #[.pointer (some ⟨12, 97, none⟩), .pointer (some p), .int .u64 406]) W := by
  refine (Sem.run_bind' _ (ReflectliteValue.parts (.agg #[.pointer (some ⟨12, 113, none⟩), .pointer (some a), .int .u64 150])) _ _).trans ?_
  simp only [Sem.run_bind, ea_parts27, Result.andThen]
  simp [ReflectliteValue.elem, loadVar, isAgg, underlying, Tryz.underlying113, ha, Result.andThen, ea_elemOf27, ea_mk25]
theorem ea_parts25a (a : Addr) (w : World) : (ReflectliteValue.parts (.agg #[.pointer (some ⟨12, 97, none⟩), .pointer (some a), .int .u64 406])).run Tryz.prog w = .ok (some (97, a, 406)) w := by kernel_rfl
theorem ea_parts25 (a : Addr) (w : World) : (ReflectliteValue.parts (.agg #[.pointer (some ⟨12, 97, none⟩), .pointer (some a), .int .u64 150])).run Tryz.prog w = .ok (some (97, a, 150)) w := by kernel_rfl
theorem ea_direct25 (w : World) : (Rtype.directlyAssignable 97 97).run Tryz.prog w = .ok true w := by kernel_rfl
theorem ea_set25 (ta b e : Addr) (old : Value) (W : World) (hb : W.cell? b = some (.pointer (some e))) (ht : W.cell? ta = some old) (hf : W.frozen? ta = false) :
    (ReflectliteValue.set #[.agg #[.pointer (some ⟨12, 97, none⟩), .pointer (some ta), .int .u64 406], .agg #[.pointer (some ⟨12, 97, none⟩), .pointer (some b), .int .u64 150]]).run Tryz.prog W
      = .ok (.tuple #[]) (W.setCell ta (.pointer (some e))) := by
  refine (Sem.run_bind' _ (ReflectliteValue.parts (.agg #[.pointer (some ⟨12, 97, none⟩), .pointer (some ta), .int .u64 406])) _ _).trans ?_
  simp only [ea_parts25a, Result.andThen]
  refine (Sem.run_bind' _ (ReflectliteValue.parts (.agg #[.pointer (some ⟨12, 97, none⟩), .pointer (some b), .int .u64 150])) _ _).trans ?_
  simp only [Sem.run_bind, ea_parts25a, ea_parts25, Result.andThen]
  simp [ReflectliteValue.flagAddr, loadVar, isAgg, underlying, Tryz.underlying97, hb, Result.andThen, ea_direct25, storeVar, Value.cells, storeCells, Addr.add]
  rw [run_store Tryz.prog W ta _ _ (by rfl)]
  simp [ht, hf]

set_option maxHeartbeats 4000000 in
theorem as_hit (e t : Addr) (old : Value) (w : World) (hg : w.cell? ⟨0, 0, none⟩ = some (.iface 164 (.agg #[.pointer (some ⟨12, 70, none⟩)]))) (ht0 : w.cell? t = some old) (hf0 : w.frozen? t = false) :
    Calls Tryz.prog 55 #[.iface 97 (.pointer (some e)), .iface 113 (.pointer (some t))] w fun ev w' => ev = .returned (.bool true) ∧ w' = ((((w.alloc (.cells #[.pointer (some t)] 113)).alloc (.cells #[.pointer (some ⟨12, 113, none⟩), .pointer (some ⟨w.heap.size, 0, none⟩), .int .u64 150] 154)).alloc (.cells #[.pointer (some ⟨12, 113, none⟩), .pointer (some ⟨w.heap.size, 0, none⟩), .int .u64 150] 154)).alloc (.cells #[.pointer (some e)] 97)).setCell t (.pointer (some e)) := by
  have h6 := @run_callFunc_extern Tryz.prog 99 _ (fun args => ReflectliteValue.unpack (args.getD 0 (.tuple #[]))) Tryz.func99 (by kernel_rfl) (by kernel_rfl) (by kernel_rfl) (by kernel_rfl)
  have h7 := @run_callFunc_extern Tryz.prog 100 _ (ReflectliteValue.methodAny (ReflectliteValue.valueError "reflectlite.Value.Type" 0) (fun t _ _ _ => ReflectliteType.toType t)) Tryz.func100 (by kernel_rfl) (by kernel_rfl) (by kernel_rfl) (by kernel_rfl)
  have h8 := @run_callFunc_extern Tryz.prog 101 _ (ReflectliteValue.method (ReflectliteValue.valueError "reflectlite.Value.IsNil" 0) ReflectliteValue.isNil) Tryz.func101 (by kernel_rfl) (by kernel_rfl) (by kernel_rfl) (by kernel_rfl)
  have h27 := @run_callFunc_extern Tryz.prog 234 _ (ReflectliteType.abiMethod fun t => do pure (.int .u8 (← Rtype.kind t))) Tryz.func234 (by kernel_rfl) (by kernel_rfl) (by kernel_rfl) (by kernel_rfl)
  have h37 := @run_callFunc_extern Tryz.prog 246 _ (ReflectliteType.method ReflectliteType.elem) Tryz.func246 (by kernel_rfl) (by kernel_rfl) (by kernel_rfl) (by kernel_rfl)
  have h38 := @run_callFunc_extern Tryz.prog 247 _ (ReflectliteType.relation "Implements" ReflectliteType.implements_) Tryz.func247 (by kernel_rfl) (by kernel_rfl) (by kernel_rfl) (by kernel_rfl)
  have h10 := @run_callFunc_extern Tryz.prog 58 _ ReflectliteType.typeOf Tryz.func58 (by kernel_rfl) (by kernel_rfl) (by kernel_rfl) (by kernel_rfl)
  have h35 := @run_callFunc_extern Tryz.prog 244 _ (ReflectliteType.relation "AssignableTo" ReflectliteType.assignableTo) Tryz.func244 (by kernel_rfl) (by kernel_rfl) (by kernel_rfl) (by kernel_rfl)
  have h11 := @run_callFunc_extern Tryz.prog 140 _ (ReflectliteValue.method (ReflectliteValue.valueError "reflectlite.Value.Elem" 0) ReflectliteValue.elem) Tryz.func140 (by kernel_rfl) (by kernel_rfl) (by kernel_rfl) (by kernel_rfl)
  have h12 := @run_callFunc_extern Tryz.prog 141 _ ReflectliteValue.set Tryz.func141 (by kernel_rfl) (by kernel_rfl) (by kernel_rfl) (by kernel_rfl)
  have tO := ea_typeOf25
  have mA := ea_methodAssignableTo
  have a25 := ea_assignable25
  have v25 := ea_valueOf25
  have f6 := ea_valueOf27
  have f7 := ea_type27
  have mK := ea_methodKind
  have mE := ea_methodElem
  have mI := ea_methodImplements
  have k27 := ea_kind27
  have k25 := ea_kind25
  have e27 := ea_elem27
  have i25 := ea_implements25
  have n8 := ea_isNil27 ⟨w.heap.size, 0, none⟩ t ((w.alloc (.cells #[.pointer (some t)] 113)).alloc (.cells #[.pointer (some ⟨12, 113, none⟩), .pointer (some ⟨w.heap.size, 0, none⟩), .int .u64 150] 154)) (by simp)
  have hlt : 0 < w.heap.size := by
    rcases Nat.eq_zero_or_pos w.heap.size with h0 | h
    · simp [World.cell?, h0] at hg
    · exact h
  have hg2 : ((w.alloc (.cells #[.pointer (some t)] 113)).alloc (.cells #[.pointer (some ⟨12, 113, none⟩), .pointer (some ⟨w.heap.size, 0, none⟩), .int .u64 150] 154)).cell? ⟨0, 0, none⟩ = some (.iface 164 (.agg #[.pointer (some ⟨12, 70, none⟩)])) := by
    rw [World.cell?_alloc_lt _ _ ⟨0, 0, none⟩ (by simp), World.cell?_alloc_lt _ _ ⟨0, 0, none⟩ hlt]; exact hg
  have htl : t.block < w.heap.size := by
    rcases Nat.lt_or_ge t.block w.heap.size with h | h
    · exact h
    · simp [World.cell?, Array.getElem?_eq_none h] at ht0
  have el := ea_elemV27 ⟨w.heap.size, 0, none⟩ t (((w.alloc (.cells #[.pointer (some t)] 113)).alloc (.cells #[.pointer (some ⟨12, 113, none⟩), .pointer (some ⟨w.heap.size, 0, none⟩), .int .u64 150] 154)).alloc (.cells #[.pointer (some ⟨12, 113, none⟩), .pointer (some ⟨w.heap.size, 0, none⟩), .int .u64 150] 154)) (by rw [World.cell?_alloc_lt _ _ ⟨w.heap.size, 0, none⟩ (by simp; omega)]; simp)
  have st := ea_set25 t ⟨w.heap.size + 1 + 1 + 1, 0, none⟩ e old ((((w.alloc (.cells #[.pointer (some t)] 113)).alloc (.cells #[.pointer (some ⟨12, 113, none⟩), .pointer (some ⟨w.heap.size, 0, none⟩), .int .u64 150] 154)).alloc (.cells #[.pointer (some ⟨12, 113, none⟩), .pointer (some ⟨w.heap.size, 0, none⟩), .int .u64 150] 154)).alloc (.cells #[.pointer (some e)] 97))
    (by rw [World.cell?_alloc_at _ _ _ _ (by simp)]; rfl)
    (by rw [World.cell?_alloc_lt _ _ t (by simp; omega), World.cell?_alloc_lt _ _ t (by simp; omega), World.cell?_alloc_lt _ _ t (by simp; omega), World.cell?_alloc_lt _ _ t htl]; exact ht0)
    (by rw [World.frozen?_alloc_old _ _ t (by simp; omega), World.frozen?_alloc_old _ _ t (by simp; omega), World.frozen?_alloc_old _ _ t (by simp; omega), World.frozen?_alloc_old _ _ t (Nat.ne_of_lt htl)]; exact hf0)
  go_enter Tryz.func55, Tryz.ntmps55
  go_wp2
  refine wp_loop_rounds 1 ?_
  rw [rounds_succ]
  go_wp2
  go_ret
  exact ⟨rfl, rfl⟩
end Go.Proofs.YthaebbmekonacaaGreatDoor

set_option linter.unusedVariables false
set_option linter.unusedSimpArgs false
set_option maxRecDepth 100000
namespace Go.Proofs.YthaebbmekonacaaGreatDoor
open Go.RowKit
/-- What Term answers, the slices its own. -/
def TrO (o : Option Tm) (w w' : World) (e : Ending) : Prop := match o with
  | some T => (∃ vc va, e = .returned (.tuple #[.agg #[vc, va], .nilIface]) ∧ OwnCd w' w.heap.size vc T.cs ∧ OwnAc w' w.heap.size va T.acs) ∧ Below w.heap.size w w'
  | none => BadT w w' e
set_option maxHeartbeats 4000000 in
theorem term_overO (s : List UInt8) (hs : s.length < 140737488351233) (o : Option Tm) (w : World)
    (HT0 : ∀ W1, Below w.heap.size w W1 → ∀ X, Below W1.heap.size W1 X → Rd X (W1.heap.size + 1) W1.heap.size (spl s) → Calls Tryz.prog 49 #[clo (W1.heap.size + 1) W1.heap.size] X fun e w' => TmR o X w' (W1.heap.size + 1) W1.heap.size e) :
    Calls Tryz.prog 23 #[.string ⟨s.toArray⟩] w fun e w' => TrO o w w' e := by
  have hmf : ∀ (fn : Fn) (first cap : Array Value) (w : World), (Instr.makeFunc fn first cap).run Tryz.prog w = .ok (.func fn first cap) w := fun _ _ _ _ => rfl
  obtain ⟨W1, hW1⟩ : ∃ W1, (w.alloc (.cells #[.slice none 0 0, .slice none 0 0] 63)).alloc (.cells #[.nilIface] 70) = W1 := ⟨_, rfl⟩
  have hsz : (w.alloc (.cells #[.slice none 0 0, .slice none 0 0] 63)).heap.size = w.heap.size + 1 := by simp
  have hs1 : W1.heap.size = w.heap.size + 2 := by rw [← hW1]; simp
  have bb1 : Below w.heap.size w W1 := by rw [← hW1]; exact ((Below.refl _ _).alloc (Nat.le_refl _) _).alloc (by rw [hsz]; omega) _
  have d1 : C2 W1 w.heap.size (.slice none 0 0) (.slice none 0 0) := by rw [← hW1]; exact (C2.new w 63 _ _).below ((Below.refl _ _).alloc (Nat.le_refl _) _)
  have n1 : W1.cell? ⟨w.heap.size + 1, 0, none⟩ = some .nilIface := by rw [← hW1, ← hsz, World.cell?_alloc_new]; rfl
  have f1 : W1.frozen? ⟨w.heap.size + 1, 0, none⟩ = false := by rw [← hW1, ← hsz]; exact World.frozen?_alloc_new _ _ _ _
  have HS1 : Hid (W1.heap.size = w.heap.size + 2) := hs1
  have HB1 : Hid (Below w.heap.size w W1) := bb1
  have HD1 : Hid (C2 W1 w.heap.size _ _) := d1
  have HN1 : Hid (_ = _) := n1
  have HF1 : Hid (_ = false) := f1
  have HW : Hid (∀ X, Calls Tryz.prog 50 #[.string ⟨s.toArray⟩] X fun e w' => e = .returned (clo (X.heap.size + 1) X.heap.size) ∧ Rd w' (X.heap.size + 1) X.heap.size (spl s) ∧ Below X.heap.size X w') := fun X => words_any s hs X
  have HT : Hid (∀ X, Below W1.heap.size W1 X → Rd X (W1.heap.size + 1) W1.heap.size (spl s) → _) := HT0 W1 bb1
  generalize spl s = ws at *
  clear hs HT0 hsz hs1 bb1 d1 n1 f1
  go_enter_defers Tryz.func23, Tryz.ntmps23
  go_wp2_with fail
  refine Calls.mono (HW.out W1) ?_
  rintro e W2 ⟨rfl, hr2, hb2⟩
  have HR2 : Hid (_ : Prop) := hr2
  have HB2 : Hid (Below W1.heap.size W1 W2) := hb2
  have HD2 : Hid (C2 W2 w.heap.size _ _) := HD1.out.below hb2
  have HN2 : Hid (W2.cell? ⟨w.heap.size + 1, 0, none⟩ = some .nilIface) := below_cell hb2 HN1.out
  have HF2 : Hid (W2.frozen? ⟨w.heap.size + 1, 0, none⟩ = false) := by unfold Hid; have := HF1.out; unfold World.frozen? at this ⊢; rw [hb2.block _ (lt_of_cell HN1.out)]; exact this
  clear hr2 hb2 HD1 HN1 HF1
  go_wp2_with fail
  refine Calls.mono (HT.out _ HB2.out HR2.out) ?_
  intro e W3 htm
  cases o with
  | some T =>
    obtain ⟨cs, acs⟩ := T
    obtain ⟨⟨vc, va, rfl, hc3, ha3⟩, hl3⟩ := (show (∃ vc va, e = .returned (.agg #[vc, va]) ∧ OwnCd W3 W2.heap.size vc cs ∧ OwnAc W3 W2.heap.size va acs) ∧ Bs2 (W1.heap.size + 1) W1.heap.size W2 W3 from htm)
    clear htm
    have p1 : w.heap.size ≠ W1.heap.size + 1 ∧ w.heap.size ≠ W1.heap.size ∧ w.heap.size + 1 ≠ W1.heap.size + 1 ∧ w.heap.size + 1 ≠ W1.heap.size := by have := HS1.out; exact ⟨by omega, by omega, by omega, by omega⟩
    have d3 := HD2.out.bs2 hl3 p1.1 p1.2.1
    have n3 := hl3.cell HN2.out p1.2.2.1 p1.2.2.2
    have f3 := hl3.frozen (lt_of_cell HN2.out) HF2.out p1.2.2.1 p1.2.2.2
    have hge : w.heap.size + 2 ≤ W2.heap.size := by have := HS1.out; have := HB2.out.size; omega
    obtain ⟨a3, k3, e3, hk3⟩ := own_len hc3
    subst e3
    obtain ⟨a4, k4, e4, hk4⟩ := own_len ha3
    subst e4
    have HBf : Hid (Below w.heap.size w (((W3.setCell ⟨w.heap.size, 0, none⟩ (.slice a3 cs.length k3)).setCell ⟨w.heap.size, 1, none⟩ (.slice a4 acs.length k4)).setCell ⟨w.heap.size + 1, 0, none⟩ .nilIface)) := by
      have b0 : Bs2 (W1.heap.size + 1) W1.heap.size w W3 := (Bs2.of_below HB1.out).trans ((Bs2.of_below HB2.out).trans hl3)
      exact (((b0.set (b := w.heap.size) (i := 0) (v := .slice a3 cs.length k3) (Nat.le_refl _)).set (b := w.heap.size) (i := 1) (v := .slice a4 acs.length k4) (Nat.le_refl _)).set (b := w.heap.size + 1) (i := 0) (v := .nilIface) (by omega)).below (by have := HS1.out; omega) (by have := HS1.out; omega) (Nat.le_refl _)
    have HCf : Hid (OwnCd (((W3.setCell ⟨w.heap.size, 0, none⟩ (.slice a3 cs.length k3)).setCell ⟨w.heap.size, 1, none⟩ (.slice a4 acs.length k4)).setCell ⟨w.heap.size + 1, 0, none⟩ .nilIface) w.heap.size (.slice a3 cs.length k3) cs) := owns_mono (((hc3.set (by omega)).set (by omega)).set (by omega)) (by omega)
    have HAf : Hid (OwnAc (((W3.setCell ⟨w.heap.size, 0, none⟩ (.slice a3 cs.length k3)).setCell ⟨w.heap.size, 1, none⟩ (.slice a4 acs.length k4)).setCell ⟨w.heap.size + 1, 0, none⟩ .nilIface) w.heap.size (.slice a4 acs.length k4) acs) := owns_mono (((ha3.set (by omega)).set (by omega)).set (by omega)) (by omega)
    have HDf : Hid (C2 (((W3.setCell ⟨w.heap.size, 0, none⟩ (.slice a3 cs.length k3)).setCell ⟨w.heap.size, 1, none⟩ (.slice a4 acs.length k4)).setCell ⟨w.heap.size + 1, 0, none⟩ .nilIface) w.heap.size (.slice a3 cs.length k3) (.slice a4 acs.length k4)) := d3.set0.set1.other (by omega)
    have HNf : Hid ((((W3.setCell ⟨w.heap.size, 0, none⟩ (.slice a3 cs.length k3)).setCell ⟨w.heap.size, 1, none⟩ (.slice a4 acs.length k4)).setCell ⟨w.heap.size + 1, 0, none⟩ .nilIface).cell? ⟨w.heap.size + 1, 0, none⟩ = some .nilIface) := World.cell?_setCell_same _ _ _ (u := .nilIface) (by rw [World.cell?_setCell_other _ _ _ _ (by intro e; injection e with e; omega), World.cell?_setCell_other _ _ _ _ (by intro e; injection e with e; omega)]; exact n3)
    have x0 := d3.c0
    have x1 := d3.c1
    have g0 := d3.f 0
    have g1 := d3.f 1
    clear d3 p1 hge hl3 hc3 ha3 HB1 HB2 HD2 HN2 HF2 HT HW HR2
    go_wp2_with fail
    generalize ((W3.setCell ⟨w.heap.size, 0, none⟩ (.slice a3 cs.length k3)).setCell ⟨w.heap.size, 1, none⟩ (.slice a4 acs.length k4)).setCell ⟨w.heap.size + 1, 0, none⟩ .nilIface = WF at *
    refine leaves_cons (f := 48) (args := #[.pointer (some ⟨w.heap.size + 1, 0, none⟩)]) (by simp) (by simp [go_sem]) ?_
    refine (catch_idle ⟨w.heap.size + 1, 0, none⟩ _).mono ?_
    rintro e u' w'' ⟨rfl, rfl, rfl⟩
    have e0 := HDf.out.c0
    have e1 := HDf.out.c1
    have e2 := HNf.out
    have HOK : Hid (TrO (some ⟨cs, acs⟩) w w'' (.returned (.tuple #[.agg #[.slice a3 cs.length k3, .slice a4 acs.length k4], .nilIface]))) := ⟨⟨_, _, rfl, HCf.out, HAf.out⟩, HBf.out⟩
    simp [Leaves, settle, results, Tryz.results23, go_sem, e0, e1, e2]
    exact HOK.out
  | none =>
    obtain ⟨rfl, hl3⟩ := (show Pan W2 W3 (W1.heap.size + 1) W1.heap.size e from htm)
    clear htm
    have p1 : w.heap.size ≠ W1.heap.size + 1 ∧ w.heap.size ≠ W1.heap.size ∧ w.heap.size + 1 ≠ W1.heap.size + 1 ∧ w.heap.size + 1 ≠ W1.heap.size := by have := HS1.out; exact ⟨by omega, by omega, by omega, by omega⟩
    have d3 := HD2.out.bs2 hl3 p1.1 p1.2.1
    have n3 := hl3.cell HN2.out p1.2.2.1 p1.2.2.2
    have f3 := hl3.frozen (lt_of_cell HN2.out) HF2.out p1.2.2.1 p1.2.2.2
    have b0 : Bs2 (W1.heap.size + 1) W1.heap.size w W3 := (Bs2.of_below HB1.out).trans ((Bs2.of_below HB2.out).trans hl3)
    have hbA : Below W3.heap.size W3 (W3.alloc (.cells #[.int .i64 9, .int .i64 0] 101)) := (Below.refl _ _).alloc (Nat.le_refl _) _
    have HBf : Hid (Below w.heap.size w ((W3.alloc (.cells #[.int .i64 9, .int .i64 0] 101)).setCell ⟨w.heap.size + 1, 0, none⟩ (.iface 97 (.pointer (some ⟨W3.heap.size, 0, none⟩))))) := ((b0.trans (Bs2.of_below hbA)).set (by omega)).below (by have := HS1.out; omega) (by have := HS1.out; omega) (Nat.le_refl _)
    have hsz3 : w.heap.size + 1 < W3.heap.size := lt_of_cell n3
    have HPt : Hid (FltAt ((W3.alloc (.cells #[.int .i64 9, .int .i64 0] 101)).setCell ⟨w.heap.size + 1, 0, none⟩ (.iface 97 (.pointer (some ⟨W3.heap.size, 0, none⟩)))) W3.heap.size) := FltAt.new _ _ _ (by omega)
    have HDf : Hid (C2 ((W3.alloc (.cells #[.int .i64 9, .int .i64 0] 101)).setCell ⟨w.heap.size + 1, 0, none⟩ (.iface 97 (.pointer (some ⟨W3.heap.size, 0, none⟩)))) w.heap.size (.slice none 0 0) (.slice none 0 0)) := (d3.below hbA).other (by omega)
    have HNf : Hid (((W3.alloc (.cells #[.int .i64 9, .int .i64 0] 101)).setCell ⟨w.heap.size + 1, 0, none⟩ (.iface 97 (.pointer (some ⟨W3.heap.size, 0, none⟩)))).cell? ⟨w.heap.size + 1, 0, none⟩ = some (.iface 97 (.pointer (some ⟨W3.heap.size, 0, none⟩)))) := World.cell?_setCell_same _ _ _ (below_cell hbA n3)
    have HN3 : Hid (W3.cell? ⟨w.heap.size + 1, 0, none⟩ = some .nilIface) := n3
    have HF3 : Hid (W3.frozen? ⟨w.heap.size + 1, 0, none⟩ = false) := f3
    clear d3 n3 f3 hsz3 p1 hl3 b0 hbA HB1 HB2 HD2 HN2 HF2 HT HW HR2
    go_wp2_with fail
    refine leaves_cons (f := 48) (args := #[.pointer (some ⟨w.heap.size + 1, 0, none⟩)]) (by simp) (by simp [go_sem]) ?_
    refine (catch_pan ⟨w.heap.size + 1, 0, none⟩ _ _ HN3.out HF3.out).mono ?_
    rintro e u' w'' ⟨rfl, rfl, rfl⟩
    generalize (W3.alloc (.cells #[.int .i64 9, .int .i64 0] 101)).setCell ⟨w.heap.size + 1, 0, none⟩ (.iface 97 (.pointer (some ⟨W3.heap.size, 0, none⟩))) = WF at *
    have e0 := HDf.out.c0
    have e1 := HDf.out.c1
    have e2 := HNf.out
    simp [Leaves, settle, results, Tryz.results23, go_sem, e0, e1, e2]
    exact ⟨⟨_, rfl, HPt.out⟩, HBf.out⟩
theorem term_anyO (cm : List UInt8 → Option Nat) (ad : List UInt8 → Option ByteArray) (K : Knows cm ad) (s : List UInt8) (hs : s.length < 140737488351233) (w : World) (he : EnvX w) (hE : ErrsAt w) : Calls Tryz.prog 23 #[.string ⟨s.toArray⟩] w fun e w' => TrO (rdT cm ad (spl s)) w w' e :=
  term_overO s hs _ w fun W1 hb1 X hX hR => readTerm_any cm ad K (spl s) _ _ W1 X ⟨he.below hb1, hX, by omega, Nat.le_refl _⟩ (hE.below hb1) hR
end Go.Proofs.YthaebbmekonacaaGreatDoor
