/-
  Single operations of a region, over a frame that is a letter: a value, nothing, a call; what an alloc, a store, a call of 'of' come to.
-/
import Derived.Test.YtkgedoedojkdkaaDoorO1
import Derived.Test.YtkgedoedojkdkaaDoorB16
import Derived.RegionTactic
import Derived.Laws.Rows
namespace Go.Proofs.YtkgedoedojkdkaaDoor
open Go.RowKit
section
variable {P : Program} {ops : Array Oper} {Q : Exit → Act → World → Prop} {i : Nat} {o : Oper} {K : Act → World → Prop} {a : Act} {w w' : World}
theorem op_value {v : Value} (ho : ops[i]? = some o) (hg : o.guard = none) (hrun : (execOp a.eval o).run P w = .ok (.value v) w') (hK : K (a.put o.dst v) w') : wpOp P ops Q i K a w := by
  refine wpOp_step ho fun K' h => ?_
  rw [if_pos (by simp [Region.wanted, hg])]
  unfold Oper.wp
  rw [hrun]
  exact h _ _ hK
theorem op_skip (ho : ops[i]? = some o) (hg : o.guard = none) (hrun : (execOp a.eval o).run P w = .ok .skip w') (hK : K (a.put o.dst undef) w') : wpOp P ops Q i K a w := by
  refine wpOp_step ho fun K' h => ?_
  rw [if_pos (by simp [Region.wanted, hg])]
  unfold Oper.wp
  rw [hrun]
  exact h _ _ hK
theorem op_enter {f : FuncId} {args : Array Value} (ho : ops[i]? = some o) (hg : o.guard = none) (hrun : (execOp a.eval o).run P w = .ok (.enter f args) w')
    (hc : Calls P f args w' fun e w2 => ∃ v, e = .returned v ∧ K (a.put o.dst v) w2) : wpOp P ops Q i K a w := by
  refine wpOp_step ho fun K' h => ?_
  rw [if_pos (by simp [Region.wanted, hg])]
  unfold Oper.wp
  rw [hrun]
  refine hc.mono ?_
  rintro e w2 ⟨v, rfl, hK⟩
  exact h _ _ hK
end
theorem ex_alloc {o : Oper} (a : Act) (w : World) (ho : o.op = .alloc 24) : (execOp a.eval o).run Tryd.prog w = .ok (.value (.pointer (some ⟨w.heap.size, 0, none⟩))) (w.alloc (.cells #[.int .i64 0, .int .u64 0, .string ⟨#[]⟩, .int .i64 0] 24)) := by
  unfold execOp
  simp only [ho]
  go_simp
theorem ex_call {o : Oper} (a : Act) (w : World) (p : Operand) (v : Value) (ho : o.op = .call { callee := .value (.func 30), args := #[p], argTypes := #[43] }) (hp : a.eval p = v) : (execOp a.eval o).run Tryd.prog w = .ok (.enter 30 #[v]) w := by
  have hf : a.eval (.func 30) = .func (.func 30) #[] #[] := rfl
  generalize a.eval = ev at *
  unfold execOp
  simp only [ho]
  go_simp
theorem ex_load {o : Oper} (a : Act) (w : World) (p : Operand) (b : Nat) (X : Array Value) (fr : Nat × Nat) (ho : o.op = .load 43 p) (hp : a.eval p = .pointer (some ⟨b, 0, none⟩)) (h : w.heap[b]? = some (.cells X 43 fr)) (hi : (Tryd.prog.info? 43).map (·.size) = some X.size) :
    (execOp a.eval o).run Tryd.prog w = .ok (.value (.agg X)) w := by
  unfold execOp
  simp only [ho, hp, Instr.loadAt, Instr.sureAddr, Sem.run_bind, Sem.run_pure, Result.andThen_ok, run_loadVar_row w b 43 43 X fr _ h Tryd.underlying43 rfl hi]
theorem ex_store {o : Oper} (a : Act) (w : World) (p q : Operand) (b : Nat) (f r : Int) (s : ByteArray) (l : Int) (z0 z1 z2 z3 : Value) (ho : o.op = .store 24 p q) (hp : a.eval p = .pointer (some ⟨b, 0, none⟩)) (hq : a.eval q = .agg #[.int .i64 f, .int .u64 r, .string s, .int .i64 l])
    (c0 : w.cell? ⟨b, 0, none⟩ = some z0) (c1 : w.cell? ⟨b, 1, none⟩ = some z1) (c2 : w.cell? ⟨b, 2, none⟩ = some z2) (c3 : w.cell? ⟨b, 3, none⟩ = some z3)
    (f0 : w.frozen? ⟨b, 0, none⟩ = false) (f1 : w.frozen? ⟨b, 1, none⟩ = false) (f2 : w.frozen? ⟨b, 2, none⟩ = false) (f3 : w.frozen? ⟨b, 3, none⟩ = false) :
    (execOp a.eval o).run Tryd.prog w = .ok .skip ((((w.setCell ⟨b, 0, none⟩ (.int .i64 f)).setCell ⟨b, 1, none⟩ (.int .u64 r)).setCell ⟨b, 2, none⟩ (.string s)).setCell ⟨b, 3, none⟩ (.int .i64 l)) := by
  generalize a.eval = ev at *
  unfold execOp
  simp only [ho]
  go_simp
end Go.Proofs.YtkgedoedojkdkaaDoor
