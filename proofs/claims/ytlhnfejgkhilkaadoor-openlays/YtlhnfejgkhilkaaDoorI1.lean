/-
  slices.Insert of one entry into a row of its own: in place, where there is room.
-/
import Derived.Test.YtlhnfejgkhilkaaDoorR4
import Derived.Deep.RegionLaw
import Derived.Lib.Overlaps
import Derived.Lib.AppendZerosOnto
import Derived.Laws.CopyRow
set_option linter.unusedVariables false
set_option linter.unusedSimpArgs false
namespace Go.Proofs.YtlhnfejgkhilkaaDoor
open Go.RowKit
section
variable {P : Program}
/-- copy of entries of any size onto a row that is known whole. -/
theorem run_copyK (w : World) (dT sT ty elem : TypeId) (sz g o dLen dCap : Nat) (a : Addr) (sLen sCap : Nat) (cur : Array Value) (t : TypeId) (cs : List Value)
    (hu : P.underlying dT = some (.slice elem)) (hs : (P.info? elem).map (·.size) = some sz)
    (hg : w.heap[g]? = some (.cells cur t (0, 0))) (hn : cs.length = Nat.min sLen dLen * sz)
    (hsrc : ∀ j v, cs[j]? = some v → w.cell? (a.add j) = some v) (hfit : o + cs.length ≤ cur.size) (h1 : ∀ v ∈ cs, v.oneCell' = true) :
    (Builtin.copy_ #[dT, sT] ty #[.slice (some ⟨g, o, none⟩) dLen dCap, .slice (some a) sLen sCap]).run P w =
      .ok (goInt (Nat.min sLen dLen)) (w.setRow g (cur.toList.take o ++ cs ++ cur.toList.drop (o + cs.length)).toArray) := by
  have hl := run_loadCells_list (P := P) w a cs hsrc
  have hst := run_storeCells_at P g o t cs 0 cur w hg (by simpa using hfit) h1
  cases hq : P.info? elem with
  | none => simp [hq] at hs
  | some i =>
    have hi : i.size = sz := by simpa [hq] using hs
    simp [Builtin.copy_, run_underlying hu, Builtin.lenOf, Builtin.firstCells, sizeOf, typeInfo, hq, hi, ← hn, hl, hst]
theorem wpList_copyK (w : World) {ops : Array Oper} {rest : List Oper} {o : Oper} {a : Act} {Q : Exit → Act → World → Prop} (hgd : o.guard = none) (d s : Operand) (t t' : TypeId)
    (ho : o.op = .call { callee := .builtin .copy, args := #[d, s], argTypes := #[t, t'] }) (v u : Value) (hd : a.eval d = v) (hs : a.eval s = u) {v' : Value} {w' : World}
    (hr : (Builtin.copy_ #[t, t'] o.type #[v, u]).run P w = .ok v' w') (h : wpList P ops Q rest (a.put o.dst v') w') : wpList P ops Q (o :: rest) a w := by
  refine wpList_plain hgd fun K hK => ?_
  unfold Oper.wp
  simp [execOp, ho, resolve, invoke, builtin, hd, hs, hr, Result.andThen]
  exact hK _ _ h
theorem step_copyK {ops : Array Oper} {o : Oper} {a : Act} {w : World} {K : Act → World → Prop} {Q : Exit → Act → World → Prop} {E : Prop}
    (hg : o.guard = none) (d x : Operand) (dT sT : TypeId) (hop : o.op = Op.call { callee := Callee.builtin Builtin.copy, args := #[d, x], argTypes := #[dT, sT] })
    (v u : Value) (hd : a.eval d = v) (hx : a.eval x = u) {v' : Value} {w' : World} (hr : (Builtin.copy_ #[dT, sT] o.type #[v, u]).run P w = .ok v' w') (hK : K (a.put o.dst v') w') :
    if Region.wanted o (yielded ops a.tmps) = true then Oper.wp P o a w K Q else E := by
  have hw : Region.wanted o (yielded ops a.tmps) = true := by simp [Region.wanted, hg]
  rw [if_pos hw]
  unfold Oper.wp
  simp [execOp, hop, resolve, invoke, builtin, hd, hx, hr, Result.andThen]
  exact hK
theorem wpList_appendK (w : World) {ops : Array Oper} {rest : List Oper} {o : Oper} {a : Act} {Q : Exit → Act → World → Prop} (hgd : o.guard = none) (d s : Operand) (t t' : TypeId)
    (ho : o.op = .call { callee := .builtin .append, args := #[d, s], argTypes := #[t, t'] }) (v u : Value) (hd : a.eval d = v) (hs : a.eval s = u) {v' : Value} {w' : World}
    (hr : (Builtin.append_ #[t, t'] o.type #[v, u]).run P w = .ok v' w') (h : wpList P ops Q rest (a.put o.dst v') w') : wpList P ops Q (o :: rest) a w := by
  refine wpList_plain hgd fun K hK => ?_
  unfold Oper.wp
  simp [execOp, ho, resolve, invoke, builtin, hd, hs, hr, Result.andThen]
  exact hK _ _ h
end
/-- The row behind an entry that was put in. -/
theorem row_put {α : Type} (cur xs vs : List α) (n i sz : Nat) (hi : i < n) (hl : (n + 1) * sz ≤ cur.length) (hx : cur.take (n * sz) = xs) (hxl : xs.length = n * sz) (hvl : vs.length = sz) :
    let c1 := cur.take ((i + 1) * sz) ++ xs.drop (i * sz) ++ cur.drop ((i + 1) * sz + (xs.drop (i * sz)).length)
    (c1.take (i * sz) ++ vs ++ c1.drop (i * sz + vs.length)).take ((n + 1) * sz) = xs.take (i * sz) ++ vs ++ xs.drop (i * sz) := by
  intro c1
  have e1 : (n + 1) * sz = n * sz + sz := Nat.succ_mul n sz
  have e2 : (i + 1) * sz = i * sz + sz := Nat.succ_mul i sz
  have e3 : i * sz + sz ≤ n * sz := by rw [← e2]; exact Nat.mul_le_mul_right _ hi
  have hdl : (xs.drop (i * sz)).length = n * sz - i * sz := by rw [List.length_drop, hxl]
  have h1 : c1.take (i * sz) = xs.take (i * sz) := by
    show (cur.take ((i + 1) * sz) ++ xs.drop (i * sz) ++ _).take (i * sz) = _
    rw [List.append_assoc, List.take_append_of_le_length (by rw [List.length_take]; omega), List.take_take, ← hx, List.take_take]
    congr 1
    omega
  have h2 : c1.drop (i * sz + vs.length) = xs.drop (i * sz) ++ cur.drop ((i + 1) * sz + (xs.drop (i * sz)).length) := by
    show (cur.take ((i + 1) * sz) ++ xs.drop (i * sz) ++ _).drop _ = _
    rw [hvl, ← e2, List.append_assoc, List.drop_left' (by rw [List.length_take]; omega)]
  rw [h1, h2, ← List.append_assoc, List.take_append_of_le_length, List.take_of_length_le]
  · simp only [List.length_append, List.length_take, hdl, hvl]; omega
  · simp only [List.length_append, List.length_take, hdl, hvl]; omega
theorem row_put_len {α : Type} (cur xs vs : List α) (n i sz : Nat) (hi : i < n) (hl : (n + 1) * sz ≤ cur.length) (hxl : xs.length = n * sz) (hvl : vs.length = sz) :
    let c1 := cur.take ((i + 1) * sz) ++ xs.drop (i * sz) ++ cur.drop ((i + 1) * sz + (xs.drop (i * sz)).length)
    c1.length = cur.length ∧ (c1.take (i * sz) ++ vs ++ c1.drop (i * sz + vs.length)).length = cur.length := by
  intro c1
  have e1 : (n + 1) * sz = n * sz + sz := Nat.succ_mul n sz
  have e2 : (i + 1) * sz = i * sz + sz := Nat.succ_mul i sz
  have e3 : i * sz + sz ≤ n * sz := by rw [← e2]; exact Nat.mul_le_mul_right _ hi
  have hdl : (xs.drop (i * sz)).length = n * sz - i * sz := by rw [List.length_drop, hxl]
  have h0 : c1.length = cur.length := by
    show (cur.take ((i + 1) * sz) ++ xs.drop (i * sz) ++ _).length = _
    simp only [List.length_append, List.length_take, List.length_drop, hxl]
    omega
  refine ⟨h0, ?_⟩
  simp only [List.length_append, List.length_take, List.length_drop, h0, hvl]
  omega
theorem take_of_take {α : Type} {cur xs : List α} {m : Nat} (hx : cur.take m = xs) (hxl : xs.length = m) (j : Nat) (v : α) (hj : xs[j]? = some v) : cur[j]? = some v := by
  have hlt := (List.getElem?_eq_some_iff.mp hj).1
  rw [← hx, List.getElem?_take, if_pos (by omega)] at hj
  exact hj
theorem shape_row {w : World} {b : Nat} {C : Array Value} {t : TypeId} (h : w.heap[b]? = some (.cells C t (0, 0))) : w.shape? b = some (t, C.size) := by
  simp [World.shape?, h]
end Go.Proofs.YtlhnfejgkhilkaaDoor
