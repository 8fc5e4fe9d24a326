/-
  slices.Insert of one entry into a row of its own: in place, where there is room.
-/
import Derived.Test.YtlhnfejgkhilkaaGreatDoorR4
import Derived.Deep.RegionLaw
import Derived.Lib.Overlaps
import Derived.Lib.AppendZerosOnto
import Derived.Laws.CopyRow
set_option linter.unusedVariables false
set_option linter.unusedSimpArgs false
namespace Go.Proofs.YtlhnfejgkhilkaaGreatDoor
open Go.RowKit
section
variable {P : Program}
/-- copy of entries of any size onto a row that is known whole. -/
theorem run_copyK (w : World) (dT sT ty elem : TypeId) (sz g o dLen dCap : Nat) (a : Addr) (sLen sCap : Nat) (cur : Array Value) (t : TypeId) (cs : List Value)
    (hu : P.underlying dT = some (.slice elem)) (hs : (P.info? elem).map (·.size) = some sz)
    (hg : w.heap[g]? = some (.cells cur t (0, 0))) (hn : cs.length = Nat.min sLen dLen * sz)
    (hsrc : ∀ j v, cs[j]? = some v → w.cell? (a.add j) = some v) (hfit : o + cs.length ≤ cur.size) (h1 : ∀ v ∈ cs, v.oneCell' = true) :
    (Builtin.copy_ #[dT, sT] ty #[.slice (some ⟨g, o, none⟩) dLen dCap, .slice (some a) sLen sCap]).run P w =
      .ok (goInt (Nat.min sLen dLen)) (w.setRow g (cur.toList.take o ++ cs ++ cur.toList.drop (o + cs.length)).toArray) := by
  have hl := run_loadCells_list (P := P) w a cs hsrc
  have hst := run_storeCells_at P g o t cs 0 cur w hg (by simpa using hfit) h1
  cases hq : P.info? elem with
  | none => simp [hq] at hs
  | some i =>
    have hi : i.size = sz := by simpa [hq] using hs
    simp [Builtin.copy_, run_underlying hu, Builtin.lenOf, Builtin.firstCells, sizeOf, typeInfo, hq, hi, ← hn, hl, hst]
theorem wpList_copyK (w : World) {ops : Array Oper} {rest : List Oper} {o : Oper} {a : Act} {Q : Exit → Act → World → Prop} (hgd : o.guard = none) (d s : Operand) (t t' : TypeId)
    (ho : o.op = .call { callee := .builtin .copy, args := #[d, s], argTypes := #[t, t'] }) (v u : Value) (hd : a.eval d = v) (hs : a.eval s = u) {v' : Value} {w' : World}
    (hr : (Builtin.copy_ #[t, t'] o.type #[v, u]).run P w = .ok v' w') (h : wpList P ops Q rest (a.put o.dst v') w') : wpList P ops Q (o :: rest) a w := by
  refine wpList_plain hgd fun K hK => ?_
  unfold Oper.wp
  simp [execOp, ho, resolve, invoke, builtin, hd, hs, hr, Result.andThen]
  exact hK _ _ h
theorem step_copyK {ops : Array Oper} {o : Oper} {a : Act} {w : World} {K : Act → World → Prop} {Q : Exit → Act → World → Prop} {E : Prop}
    (hg : o.guard = none) (d x : Operand) (dT sT : TypeId) (hop : o.op = Op.call { callee := Callee.builtin Builtin.copy, args := #[d, x], argTypes := #[dT, sT] })
    (v u : Value) (hd : a.eval d = v) (hx : a.eval x = u) {v' : Value} {w' : World} (hr : (Builtin.copy_ #[dT, sT] o.type #[v, u]).run P w = .ok v' w') (hK : K (a.put o.dst v') w') :
    if Region.wanted o (yielded ops a.tmps) = true then Oper.wp P o a w K Q else E := by
  have hw : Region.wanted o (yielded ops a.tmps) = true := by simp [Region.wanted, hg]
  rw [if_pos hw]
  unfold Oper.wp
  simp [execOp, hop, resolve, invoke, builtin, hd, hx, hr, Result.andThen]
  exact hK
theorem wpList_appendK (w : World) {ops : Array Oper} {rest : List Oper} {o : Oper} {a : Act} {Q : Exit → Act → World → Prop} (hgd : o.guard = none) (d s : Operand) (t t' : TypeId)
    (ho : o.op = .call { callee := .builtin .append, args := #[d, s], argTypes := #[t, t'] }) (v u : Value) (hd : a.eval d = v) (hs : a.eval s = u) {v' : Value} {w' : World}
    (hr : (Builtin.append_ #[t, t'] o.type #[v, u]).run P w = .ok v' w') (h : wpList P ops Q rest (a.put o.dst v') w') : wpList P ops Q (o :: rest) a w := by
  refine wpList_plain hgd fun K hK => ?_
  unfold Oper.wp
  simp [execOp, ho, resolve, invoke, builtin, hd, hs, hr, Result.andThen]
  exact hK _ _ h
end
/-- The row behind an entry that was put in. -/
theorem row_put {α : Type} (cur xs vs : List α) (n i sz : Nat) (hi : i < n) (hl : (n + 1) * sz ≤ cur.length) (hx : cur.take (n * sz) = xs) (hxl : xs.length = n * sz) (hvl : vs.length = sz) :
    let c1 := cur.take ((i + 1) * sz) ++ xs.drop (i * sz) ++ cur.drop ((i + 1) * sz + (xs.drop (i * sz)).length)
    (c1.take (i * sz) ++ vs ++ c1.drop (i * sz + vs.length)).take ((n + 1) * sz) = xs.take (i * sz) ++ vs ++ xs.drop (i * sz) := by
  intro c1
  have e1 : (n + 1) * sz = n * sz + sz := Nat.succ_mul n sz
  have e2 : (i + 1) * sz = i * sz + sz := Nat.succ_mul i sz
  have e3 : i * sz + sz ≤ n * sz := by rw [← e2]; exact Nat.mul_le_mul_right _ hi
  have hdl : (xs.drop (i * sz)).length = n * sz - i * sz := by rw [List.length_drop, hxl]
  have h1 : c1.take (i * sz) = xs.take (i * sz) := by
    show (cur.take ((i + 1) * sz) ++ xs.drop (i * sz) ++ _).take (i * sz) = _
    rw [List.append_assoc, List.take_append_of_le_length (by rw [List.length_take]; omega), List.take_take, ← hx, List.take_take]
    congr 1
    omega
  have h2 : c1.drop (i * sz + vs.length) = xs.drop (i * sz) ++ cur.drop ((i + 1) * sz + (xs.drop (i * sz)).length) := by
    show (cur.take ((i + 1) * sz) ++ xs.drop (i * sz) ++ _).drop _ = _
    rw [hvl, ← e2, List.append_assoc, List.drop_left' (by rw [List.length_take]; omega)]
  rw [h1, h2, ← List.append_assoc, List.take_append_of_le_length, List.take_of_length_le]
  · simp only [List.length_append, List.length_take, hdl, hvl]; omega
  · simp only [List.length_append, List.length_take, hdl, hvl]; omega
theorem row_put_len {α : Type} (cur xs vs : List α) (n i sz : Nat) (hi : i < n) (hl : (n + 1) * sz ≤ cur.length) (hxl : xs.length = n * sz) (hvl : vs.length = sz) :
    let c1 := cur.take ((i + 1) * sz) ++ xs.drop (i * sz) ++ cur.drop ((i + 1) * sz + (xs.drop (i * sz)).length)
    c1.length = cur.length ∧ (c1.take (i * sz) ++ vs ++ c1.drop (i * sz + vs.length)).length = cur.length := by
  intro c1
  have e1 : (n + 1) * sz = n * sz + sz := Nat.succ_mul n sz
  have e2 : (i + 1) * sz = i * sz + sz := Nat.succ_mul i sz
  have e3 : i * sz + sz ≤ n * sz := by rw [← e2]; exact Nat.mul_le_mul_right _ hi
  have hdl : (xs.drop (i * sz)).length = n * sz - i * sz := by rw [List.length_drop, hxl]
  have h0 : c1.length = cur.length := by
    show (cur.take ((i + 1) * sz) ++ xs.drop (i * sz) ++ _).length = _
    simp only [List.length_append, List.length_take, List.length_drop, hxl]
    omega
  refine ⟨h0, ?_⟩
  simp only [List.length_append, List.length_take, List.length_drop, h0, hvl]
  omega
theorem take_of_take {α : Type} {cur xs : List α} {m : Nat} (hx : cur.take m = xs) (hxl : xs.length = m) (j : Nat) (v : α) (hj : xs[j]? = some v) : cur[j]? = some v := by
  have hlt := (List.getElem?_eq_some_iff.mp hj).1
  rw [← hx, List.getElem?_take, if_pos (by omega)] at hj
  exact hj
theorem shape_row {w : World} {b : Nat} {C : Array Value} {t : TypeId} (h : w.heap[b]? = some (.cells C t (0, 0))) : w.shape? b = some (t, C.size) := by
  simp [World.shape?, h]
end Go.Proofs.YtlhnfejgkhilkaaGreatDoor

set_option linter.unusedVariables false
set_option linter.unusedSimpArgs false
namespace Go.Proofs.YtlhnfejgkhilkaaGreatDoor
open Go.RowKit
theorem sizeE_int : (Tryz.prog.info? 3).map (·.size) = some 1 := by kernel_rfl
theorem szE_int (w : World) : (Go.sizeOf 3).run Tryz.prog w = .ok 1 w := by kernel_rfl
set_option maxHeartbeats 6400000 in
set_option maxRecDepth 100000 in
theorem insRoom_int (g n c i vb : Nat) (cur xs vs : List Value) (w : World) (hi : i < n) (hroom : n + 1 ≤ c) (hc : c ≤ 9223372036854775807) (hn : n ≤ 1000) (hvb : vb ≠ g)
    (hg : w.heap[g]? = some (.cells cur.toArray 3 (0, 0))) (hcs : cur.length = c * 1) (hx : cur.take (n) = xs) (hxl : xs.length = n)
    (hv : w.heap[vb]? = some (.cells vs.toArray 3 (0, 0))) (hvl : vs.length = 1) (h1x : ∀ v ∈ xs, v.oneCell' = true) (h1v : ∀ v ∈ vs, v.oneCell' = true) :
    Calls Tryz.prog 84 #[.slice (some ⟨g, 0, none⟩) n c, .int .i64 i, .slice (some ⟨vb, 0, none⟩) 1 1] w fun e w' =>
      e = .returned (.slice (some ⟨g, 0, none⟩) (n + 1) c) ∧ ∃ cur' : Array Value, w'.heap[g]? = some (.cells cur' 3 (0, 0)) ∧ cur'.size = c * 1 ∧ cur'.toList.take ((n + 1)) = xs.take (i) ++ vs ++ xs.drop (i) ∧ Beside g w w' := by
  have hz2 : ¬ ((i : Int) = (n : Int)) := by omega
  have hdl : (xs.drop (i)).length = (n - i) * 1 := by rw [List.length_drop, hxl]; omega
  have hcl : (n + 1) ≤ cur.length := by omega
  have hvz : ∀ W : World, W.heap[vb]? = some (.cells vs.toArray 3 (0, 0)) → ∀ j v, vs[j]? = some v → W.cell? (Addr.add ⟨vb, 0, none⟩ j) = some v := fun W hW j v hj => by
    rw [show Addr.add ⟨vb, 0, none⟩ j = ⟨vb, j, none⟩ from by unfold Addr.add; by_cases e : j = 0 <;> simp [e]]
    exact cl_row hW (by simpa using hj)
  have hov : ∀ lb cb, (callFunc 93 #[.slice (some ⟨vb, 0, none⟩) 1 1, .slice (some ⟨g, i + 1, none⟩) lb cb]).run Tryz.prog w = .ok (.value (.bool false)) w := fun lb cb => by
    rw [run_callFunc_extern Tryz.func93 (by kernel_rfl) (by kernel_rfl) (by kernel_rfl) (e := Extern.SlicesOverlaps.overlaps #[23, 23] #[4]) (by kernel_rfl),
      Lib.run_overlaps_apart w 23 4 3 Tryz.underlying23 1 szE_int ⟨vb, 0, none⟩ ⟨g, i + 1, none⟩ 1 1 lb cb hvb 3 3 vs.length cur.length (by rw [shape_row hv]; simp) (by rw [shape_row hg]; simp) (by omega) (fz_row hv) (fz_row hv)]
    rfl
  have hcp1 : ∀ ty dc sc, (Builtin.copy_ #[23, 23] ty #[.slice (some ⟨g, i + 1, none⟩) (n - i) dc, .slice (some ⟨g, i, none⟩) (n + 1 - i) sc]).run Tryz.prog w.drew = .ok (goInt ((n - i : Nat) : Int)) (w.drew.setRow g (cur.take (i + 1) ++ xs.drop (i) ++ cur.drop (i + 1 + (xs.drop (i)).length)).toArray) := fun ty dc sc => by
    have := run_copyK (P := Tryz.prog) w.drew 23 23 ty 3 1 g (i + 1) (n - i) dc ⟨g, i, none⟩ (n + 1 - i) sc cur.toArray 3 (xs.drop (i)) Tryz.underlying23 sizeE_int hg (by rw [hdl]; congr 1; simp only [Nat.min_def]; split <;> omega)
      (fun j v hj => by
        rw [show Addr.add ⟨g, i, none⟩ j = ⟨g, i + j, none⟩ from by unfold Addr.add; by_cases e : j = 0 <;> simp [e]]
        refine cl_row (w := w.drew) (t := 3) (cs := cur.toArray) hg ?_
        rw [List.getElem?_drop] at hj
        simpa using take_of_take hx hxl _ v hj)
      (by rw [hdl]; simp; omega) (fun v hv' => h1x v (List.mem_of_mem_drop hv'))
    rw [show Nat.min (n + 1 - i) (n - i) = n - i from by simp only [Nat.min_def]; split <;> omega] at this
    exact this
  obtain ⟨c1, hc1⟩ : ∃ c1, c1 = cur.take (i + 1) ++ xs.drop (i) ++ cur.drop (i + 1 + (xs.drop (i)).length) := ⟨_, rfl⟩
  obtain ⟨hl1, hl2⟩ := row_put_len cur xs vs n i 1 hi (by omega) (by omega) hvl
  have hfin := row_put cur xs vs n i 1 hi (by omega) (by simpa using hx) (by omega) hvl
  simp only [Nat.mul_one] at hl1 hl2 hfin
  simp only [← hc1] at hcp1 hl1 hl2 hfin
  have hg1 : (w.drew.setRow g c1.toArray).heap[g]? = some (.cells c1.toArray 3 (0, 0)) := row_same w.drew g cur.toArray c1.toArray hg
  have hv1 : (w.drew.setRow g c1.toArray).heap[vb]? = some (.cells vs.toArray 3 (0, 0)) := (row_other w.drew g vb c1.toArray hvb).trans hv
  have hcp2 : ∀ ty dc, (Builtin.copy_ #[23, 23] ty #[.slice (some ⟨g, i, none⟩) (n + 1 - i) dc, .slice (some ⟨vb, 0, none⟩) 1 1]).run Tryz.prog (w.drew.setRow g c1.toArray) = .ok (goInt 1) ((w.drew.setRow g c1.toArray).setRow g (c1.take (i) ++ vs ++ c1.drop (i + vs.length)).toArray) := fun ty dc => by
    have := run_copyK (P := Tryz.prog) (w.drew.setRow g c1.toArray) 23 23 ty 3 1 g (i) (n + 1 - i) dc ⟨vb, 0, none⟩ 1 1 c1.toArray 3 vs Tryz.underlying23 sizeE_int hg1 (by rw [hvl, show Nat.min 1 (n + 1 - i) = 1 from by simp only [Nat.min_def]; split <;> omega])
      (hvz _ hv1) (by simp; omega) h1v
    rw [show Nat.min 1 (n + 1 - i) = 1 from by simp only [Nat.min_def]; split <;> omega] at this
    exact this
  have hb2 : Beside g w ((w.drew.setRow g c1.toArray).setRow g (c1.take (i) ++ vs ++ c1.drop (i + vs.length)).toArray) :=
    ((Beside.of_below (Below.refl _ _).drew (Nat.le_refl _)).trans (Beside.setRow (w := w.drew) hg)).trans (Beside.setRow hg1)
  have hg2 := row_same (w.drew.setRow g c1.toArray) g c1.toArray (c1.take (i) ++ vs ++ c1.drop (i + vs.length)).toArray hg1
  generalize (c1.take (i) ++ vs ++ c1.drop (i + vs.length)) = c2 at *
  have HEND : Hid (∃ cur' : Array Value, ((w.drew.setRow g c1.toArray).setRow g c2.toArray).heap[g]? = some (.cells cur' 3 (0, 0)) ∧ cur'.size = c * 1 ∧ cur'.toList.take ((n + 1)) = xs.take (i) ++ vs ++ xs.drop (i) ∧ Beside g w ((w.drew.setRow g c1.toArray).setRow g c2.toArray)) := ⟨c2.toArray, hg2, by simp [hl2, hcs], hfin, hb2⟩
  clear hg2 hb2 hfin hl1 hl2 hc1 hg1 hv1 hvz hdl hcl hg hv hx hxl hcs hvl h1x h1v
  have hw1 : IntKind.i64.wrap ((i : Int) + 1) = (i : Int) + 1 := by rw [IntKind.wrap_i64]; omega
  have hb4 : ¬ (c = i) := by omega
  have hb2 : ¬ (c = i + 1) := by omega
  have htn : ((i : Int) + 1).toNat = i + 1 := by omega
  have hq1 : (0 : Int) ≤ (i : Int) + 1 := by omega
  have hq2 : i ≤ n := by omega
  have hq3 : (i : Int) ≤ (n : Int) + 1 := by omega
  have hq4 : (i : Int) + 1 ≤ (n : Int) + 1 := by omega
  have hq5 : n + 1 - (i + 1) = n - i := by omega
  go_enter Tryz.func84, Tryz.ntmps84
  go_wp2_with (simp only [hov])
  go_region_law (refine step_copyK rfl _ _ 23 23 rfl _ _ (by simp [Act.eval, Act.put]) (by simp [Act.eval, Act.put]) (hcp1 _ _ _) ?_)
  go_wp2_with (at_builtin; refine wpList_copyK _ rfl _ _ 23 23 rfl _ _ rfl rfl (hcp2 _ _) ?_)
  go_ret
  exact ⟨rfl, HEND.out⟩
end Go.Proofs.YtlhnfejgkhilkaaGreatDoor

set_option linter.unusedVariables false
set_option linter.unusedSimpArgs false
namespace Go.Proofs.YtlhnfejgkhilkaaGreatDoor
open Go.RowKit
theorem sizeE_kept : (Tryz.prog.info? 40).map (·.size) = some 2 := by kernel_rfl
theorem szE_kept (w : World) : (Go.sizeOf 40).run Tryz.prog w = .ok 2 w := by kernel_rfl
set_option maxHeartbeats 6400000 in
set_option maxRecDepth 100000 in
theorem insRoom_kept (g n c i vb : Nat) (cur xs vs : List Value) (w : World) (hi : i < n) (hroom : n + 1 ≤ c) (hc : c ≤ 9223372036854775807) (hn : n ≤ 1000) (hvb : vb ≠ g)
    (hg : w.heap[g]? = some (.cells cur.toArray 40 (0, 0))) (hcs : cur.length = c * 2) (hx : cur.take (n * 2) = xs) (hxl : xs.length = n * 2)
    (hv : w.heap[vb]? = some (.cells vs.toArray 40 (0, 0))) (hvl : vs.length = 2) (h1x : ∀ v ∈ xs, v.oneCell' = true) (h1v : ∀ v ∈ vs, v.oneCell' = true) :
    Calls Tryz.prog 87 #[.slice (some ⟨g, 0, none⟩) n c, .int .i64 i, .slice (some ⟨vb, 0, none⟩) 1 1] w fun e w' =>
      e = .returned (.slice (some ⟨g, 0, none⟩) (n + 1) c) ∧ ∃ cur' : Array Value, w'.heap[g]? = some (.cells cur' 40 (0, 0)) ∧ cur'.size = c * 2 ∧ cur'.toList.take ((n + 1) * 2) = xs.take (i * 2) ++ vs ++ xs.drop (i * 2) ∧ Beside g w w' := by
  have hz2 : ¬ ((i : Int) = (n : Int)) := by omega
  have hdl : (xs.drop (i * 2)).length = (n - i) * 2 := by rw [List.length_drop, hxl]; omega
  have hcl : (n + 1) * 2 ≤ cur.length := by omega
  have hvz : ∀ W : World, W.heap[vb]? = some (.cells vs.toArray 40 (0, 0)) → ∀ j v, vs[j]? = some v → W.cell? (Addr.add ⟨vb, 0, none⟩ j) = some v := fun W hW j v hj => by
    rw [show Addr.add ⟨vb, 0, none⟩ j = ⟨vb, j, none⟩ from by unfold Addr.add; by_cases e : j = 0 <;> simp [e]]
    exact cl_row hW (by simpa using hj)
  have hov : ∀ lb cb, (callFunc 95 #[.slice (some ⟨vb, 0, none⟩) 1 1, .slice (some ⟨g, (i + 1) * 2, none⟩) lb cb]).run Tryz.prog w = .ok (.value (.bool false)) w := fun lb cb => by
    rw [run_callFunc_extern Tryz.func95 (by kernel_rfl) (by kernel_rfl) (by kernel_rfl) (e := Extern.SlicesOverlaps.overlaps #[25, 25] #[4]) (by kernel_rfl),
      Lib.run_overlaps_apart w 25 4 40 Tryz.underlying25 2 szE_kept ⟨vb, 0, none⟩ ⟨g, (i + 1) * 2, none⟩ 1 1 lb cb hvb 40 40 vs.length cur.length (by rw [shape_row hv]; simp) (by rw [shape_row hg]; simp) (by omega) (fz_row hv) (fz_row hv)]
    rfl
  have hcp1 : ∀ ty dc sc, (Builtin.copy_ #[25, 25] ty #[.slice (some ⟨g, (i + 1) * 2, none⟩) (n - i) dc, .slice (some ⟨g, i * 2, none⟩) (n + 1 - i) sc]).run Tryz.prog w.drew = .ok (goInt ((n - i : Nat) : Int)) (w.drew.setRow g (cur.take ((i + 1) * 2) ++ xs.drop (i * 2) ++ cur.drop ((i + 1) * 2 + (xs.drop (i * 2)).length)).toArray) := fun ty dc sc => by
    have := run_copyK (P := Tryz.prog) w.drew 25 25 ty 40 2 g ((i + 1) * 2) (n - i) dc ⟨g, i * 2, none⟩ (n + 1 - i) sc cur.toArray 40 (xs.drop (i * 2)) Tryz.underlying25 sizeE_kept hg (by rw [hdl]; congr 1; simp only [Nat.min_def]; split <;> omega)
      (fun j v hj => by
        rw [show Addr.add ⟨g, i * 2, none⟩ j = ⟨g, i * 2 + j, none⟩ from by unfold Addr.add; by_cases e : j = 0 <;> simp [e]]
        refine cl_row (w := w.drew) (t := 40) (cs := cur.toArray) hg ?_
        rw [List.getElem?_drop] at hj
        simpa using take_of_take hx hxl _ v hj)
      (by rw [hdl]; simp; omega) (fun v hv' => h1x v (List.mem_of_mem_drop hv'))
    rw [show Nat.min (n + 1 - i) (n - i) = n - i from by simp only [Nat.min_def]; split <;> omega] at this
    exact this
  obtain ⟨c1, hc1⟩ : ∃ c1, c1 = cur.take ((i + 1) * 2) ++ xs.drop (i * 2) ++ cur.drop ((i + 1) * 2 + (xs.drop (i * 2)).length) := ⟨_, rfl⟩
  obtain ⟨hl1, hl2⟩ := row_put_len cur xs vs n i 2 hi (by omega) (by omega) hvl
  have hfin := row_put cur xs vs n i 2 hi (by omega) (by simpa using hx) (by omega) hvl
  simp only [← hc1] at hcp1 hl1 hl2 hfin
  have hg1 : (w.drew.setRow g c1.toArray).heap[g]? = some (.cells c1.toArray 40 (0, 0)) := row_same w.drew g cur.toArray c1.toArray hg
  have hv1 : (w.drew.setRow g c1.toArray).heap[vb]? = some (.cells vs.toArray 40 (0, 0)) := (row_other w.drew g vb c1.toArray hvb).trans hv
  have hcp2 : ∀ ty dc, (Builtin.copy_ #[25, 25] ty #[.slice (some ⟨g, i * 2, none⟩) (n + 1 - i) dc, .slice (some ⟨vb, 0, none⟩) 1 1]).run Tryz.prog (w.drew.setRow g c1.toArray) = .ok (goInt 1) ((w.drew.setRow g c1.toArray).setRow g (c1.take (i * 2) ++ vs ++ c1.drop (i * 2 + vs.length)).toArray) := fun ty dc => by
    have := run_copyK (P := Tryz.prog) (w.drew.setRow g c1.toArray) 25 25 ty 40 2 g (i * 2) (n + 1 - i) dc ⟨vb, 0, none⟩ 1 1 c1.toArray 40 vs Tryz.underlying25 sizeE_kept hg1 (by rw [hvl, show Nat.min 1 (n + 1 - i) = 1 from by simp only [Nat.min_def]; split <;> omega])
      (hvz _ hv1) (by simp; omega) h1v
    rw [show Nat.min 1 (n + 1 - i) = 1 from by simp only [Nat.min_def]; split <;> omega] at this
    exact this
  have hb2 : Beside g w ((w.drew.setRow g c1.toArray).setRow g (c1.take (i * 2) ++ vs ++ c1.drop (i * 2 + vs.length)).toArray) :=
    ((Beside.of_below (Below.refl _ _).drew (Nat.le_refl _)).trans (Beside.setRow (w := w.drew) hg)).trans (Beside.setRow hg1)
  have hg2 := row_same (w.drew.setRow g c1.toArray) g c1.toArray (c1.take (i * 2) ++ vs ++ c1.drop (i * 2 + vs.length)).toArray hg1
  generalize (c1.take (i * 2) ++ vs ++ c1.drop (i * 2 + vs.length)) = c2 at *
  have HEND : Hid (∃ cur' : Array Value, ((w.drew.setRow g c1.toArray).setRow g c2.toArray).heap[g]? = some (.cells cur' 40 (0, 0)) ∧ cur'.size = c * 2 ∧ cur'.toList.take ((n + 1) * 2) = xs.take (i * 2) ++ vs ++ xs.drop (i * 2) ∧ Beside g w ((w.drew.setRow g c1.toArray).setRow g c2.toArray)) := ⟨c2.toArray, hg2, by simp [hl2, hcs], hfin, hb2⟩
  clear hg2 hb2 hfin hl1 hl2 hc1 hg1 hv1 hvz hdl hcl hg hv hx hxl hcs hvl h1x h1v
  have hw1 : IntKind.i64.wrap ((i : Int) + 1) = (i : Int) + 1 := by rw [IntKind.wrap_i64]; omega
  have hb4 : ¬ (c = i) := by omega
  have hb2 : ¬ (c = i + 1) := by omega
  have htn : ((i : Int) + 1).toNat = i + 1 := by omega
  have hq1 : (0 : Int) ≤ (i : Int) + 1 := by omega
  have hq2 : i ≤ n := by omega
  have hq3 : (i : Int) ≤ (n : Int) + 1 := by omega
  have hq4 : (i : Int) + 1 ≤ (n : Int) + 1 := by omega
  have hq5 : n + 1 - (i + 1) = n - i := by omega
  go_enter Tryz.func87, Tryz.ntmps87
  go_wp2_with (simp only [hov])
  go_region_law (refine step_copyK rfl _ _ 25 25 rfl _ _ (by simp [Act.eval, Act.put]) (by simp [Act.eval, Act.put]) (hcp1 _ _ _) ?_)
  go_wp2_with (at_builtin; refine wpList_copyK _ rfl _ _ 25 25 rfl _ _ rfl rfl (hcp2 _ _) ?_)
  go_ret
  exact ⟨rfl, HEND.out⟩
end Go.Proofs.YtlhnfejgkhilkaaGreatDoor

set_option linter.unusedVariables false
set_option linter.unusedSimpArgs false
namespace Go.Proofs.YtlhnfejgkhilkaaGreatDoor
open Go.RowKit
theorem sizeE_add : (Tryz.prog.info? 52).map (·.size) = some 3 := by kernel_rfl
theorem szE_add (w : World) : (Go.sizeOf 52).run Tryz.prog w = .ok 3 w := by kernel_rfl
set_option maxHeartbeats 6400000 in
set_option maxRecDepth 100000 in
theorem insRoom_add (g n c i vb : Nat) (cur xs vs : List Value) (w : World) (hi : i < n) (hroom : n + 1 ≤ c) (hc : c ≤ 9223372036854775807) (hn : n ≤ 1000) (hvb : vb ≠ g)
    (hg : w.heap[g]? = some (.cells cur.toArray 52 (0, 0))) (hcs : cur.length = c * 3) (hx : cur.take (n * 3) = xs) (hxl : xs.length = n * 3)
    (hv : w.heap[vb]? = some (.cells vs.toArray 52 (0, 0))) (hvl : vs.length = 3) (h1x : ∀ v ∈ xs, v.oneCell' = true) (h1v : ∀ v ∈ vs, v.oneCell' = true) :
    Calls Tryz.prog 90 #[.slice (some ⟨g, 0, none⟩) n c, .int .i64 i, .slice (some ⟨vb, 0, none⟩) 1 1] w fun e w' =>
      e = .returned (.slice (some ⟨g, 0, none⟩) (n + 1) c) ∧ ∃ cur' : Array Value, w'.heap[g]? = some (.cells cur' 52 (0, 0)) ∧ cur'.size = c * 3 ∧ cur'.toList.take ((n + 1) * 3) = xs.take (i * 3) ++ vs ++ xs.drop (i * 3) ∧ Beside g w w' := by
  have hz2 : ¬ ((i : Int) = (n : Int)) := by omega
  have hdl : (xs.drop (i * 3)).length = (n - i) * 3 := by rw [List.length_drop, hxl]; omega
  have hcl : (n + 1) * 3 ≤ cur.length := by omega
  have hvz : ∀ W : World, W.heap[vb]? = some (.cells vs.toArray 52 (0, 0)) → ∀ j v, vs[j]? = some v → W.cell? (Addr.add ⟨vb, 0, none⟩ j) = some v := fun W hW j v hj => by
    rw [show Addr.add ⟨vb, 0, none⟩ j = ⟨vb, j, none⟩ from by unfold Addr.add; by_cases e : j = 0 <;> simp [e]]
    exact cl_row hW (by simpa using hj)
  have hov : ∀ lb cb, (callFunc 97 #[.slice (some ⟨vb, 0, none⟩) 1 1, .slice (some ⟨g, (i + 1) * 3, none⟩) lb cb]).run Tryz.prog w = .ok (.value (.bool false)) w := fun lb cb => by
    rw [run_callFunc_extern Tryz.func97 (by kernel_rfl) (by kernel_rfl) (by kernel_rfl) (e := Extern.SlicesOverlaps.overlaps #[24, 24] #[4]) (by kernel_rfl),
      Lib.run_overlaps_apart w 24 4 52 Tryz.underlying24 3 szE_add ⟨vb, 0, none⟩ ⟨g, (i + 1) * 3, none⟩ 1 1 lb cb hvb 52 52 vs.length cur.length (by rw [shape_row hv]; simp) (by rw [shape_row hg]; simp) (by omega) (fz_row hv) (fz_row hv)]
    rfl
  have hcp1 : ∀ ty dc sc, (Builtin.copy_ #[24, 24] ty #[.slice (some ⟨g, (i + 1) * 3, none⟩) (n - i) dc, .slice (some ⟨g, i * 3, none⟩) (n + 1 - i) sc]).run Tryz.prog w.drew = .ok (goInt ((n - i : Nat) : Int)) (w.drew.setRow g (cur.take ((i + 1) * 3) ++ xs.drop (i * 3) ++ cur.drop ((i + 1) * 3 + (xs.drop (i * 3)).length)).toArray) := fun ty dc sc => by
    have := run_copyK (P := Tryz.prog) w.drew 24 24 ty 52 3 g ((i + 1) * 3) (n - i) dc ⟨g, i * 3, none⟩ (n + 1 - i) sc cur.toArray 52 (xs.drop (i * 3)) Tryz.underlying24 sizeE_add hg (by rw [hdl]; congr 1; simp only [Nat.min_def]; split <;> omega)
      (fun j v hj => by
        rw [show Addr.add ⟨g, i * 3, none⟩ j = ⟨g, i * 3 + j, none⟩ from by unfold Addr.add; by_cases e : j = 0 <;> simp [e]]
        refine cl_row (w := w.drew) (t := 52) (cs := cur.toArray) hg ?_
        rw [List.getElem?_drop] at hj
        simpa using take_of_take hx hxl _ v hj)
      (by rw [hdl]; simp; omega) (fun v hv' => h1x v (List.mem_of_mem_drop hv'))
    rw [show Nat.min (n + 1 - i) (n - i) = n - i from by simp only [Nat.min_def]; split <;> omega] at this
    exact this
  obtain ⟨c1, hc1⟩ : ∃ c1, c1 = cur.take ((i + 1) * 3) ++ xs.drop (i * 3) ++ cur.drop ((i + 1) * 3 + (xs.drop (i * 3)).length) := ⟨_, rfl⟩
  obtain ⟨hl1, hl2⟩ := row_put_len cur xs vs n i 3 hi (by omega) (by omega) hvl
  have hfin := row_put cur xs vs n i 3 hi (by omega) (by simpa using hx) (by omega) hvl
  simp only [← hc1] at hcp1 hl1 hl2 hfin
  have hg1 : (w.drew.setRow g c1.toArray).heap[g]? = some (.cells c1.toArray 52 (0, 0)) := row_same w.drew g cur.toArray c1.toArray hg
  have hv1 : (w.drew.setRow g c1.toArray).heap[vb]? = some (.cells vs.toArray 52 (0, 0)) := (row_other w.drew g vb c1.toArray hvb).trans hv
  have hcp2 : ∀ ty dc, (Builtin.copy_ #[24, 24] ty #[.slice (some ⟨g, i * 3, none⟩) (n + 1 - i) dc, .slice (some ⟨vb, 0, none⟩) 1 1]).run Tryz.prog (w.drew.setRow g c1.toArray) = .ok (goInt 1) ((w.drew.setRow g c1.toArray).setRow g (c1.take (i * 3) ++ vs ++ c1.drop (i * 3 + vs.length)).toArray) := fun ty dc => by
    have := run_copyK (P := Tryz.prog) (w.drew.setRow g c1.toArray) 24 24 ty 52 3 g (i * 3) (n + 1 - i) dc ⟨vb, 0, none⟩ 1 1 c1.toArray 52 vs Tryz.underlying24 sizeE_add hg1 (by rw [hvl, show Nat.min 1 (n + 1 - i) = 1 from by simp only [Nat.min_def]; split <;> omega])
      (hvz _ hv1) (by simp; omega) h1v
    rw [show Nat.min 1 (n + 1 - i) = 1 from by simp only [Nat.min_def]; split <;> omega] at this
    exact this
  have hb2 : Beside g w ((w.drew.setRow g c1.toArray).setRow g (c1.take (i * 3) ++ vs ++ c1.drop (i * 3 + vs.length)).toArray) :=
    ((Beside.of_below (Below.refl _ _).drew (Nat.le_refl _)).trans (Beside.setRow (w := w.drew) hg)).trans (Beside.setRow hg1)
  have hg2 := row_same (w.drew.setRow g c1.toArray) g c1.toArray (c1.take (i * 3) ++ vs ++ c1.drop (i * 3 + vs.length)).toArray hg1
  generalize (c1.take (i * 3) ++ vs ++ c1.drop (i * 3 + vs.length)) = c2 at *
  have HEND : Hid (∃ cur' : Array Value, ((w.drew.setRow g c1.toArray).setRow g c2.toArray).heap[g]? = some (.cells cur' 52 (0, 0)) ∧ cur'.size = c * 3 ∧ cur'.toList.take ((n + 1) * 3) = xs.take (i * 3) ++ vs ++ xs.drop (i * 3) ∧ Beside g w ((w.drew.setRow g c1.toArray).setRow g c2.toArray)) := ⟨c2.toArray, hg2, by simp [hl2, hcs], hfin, hb2⟩
  clear hg2 hb2 hfin hl1 hl2 hc1 hg1 hv1 hvz hdl hcl hg hv hx hxl hcs hvl h1x h1v
  have hw1 : IntKind.i64.wrap ((i : Int) + 1) = (i : Int) + 1 := by rw [IntKind.wrap_i64]; omega
  have hb4 : ¬ (c = i) := by omega
  have hb2 : ¬ (c = i + 1) := by omega
  have htn : ((i : Int) + 1).toNat = i + 1 := by omega
  have hq1 : (0 : Int) ≤ (i : Int) + 1 := by omega
  have hq2 : i ≤ n := by omega
  have hq3 : (i : Int) ≤ (n : Int) + 1 := by omega
  have hq4 : (i : Int) + 1 ≤ (n : Int) + 1 := by omega
  have hq5 : n + 1 - (i + 1) = n - i := by omega
  go_enter Tryz.func90, Tryz.ntmps90
  go_wp2_with (simp only [hov])
  go_region_law (refine step_copyK rfl _ _ 24 24 rfl _ _ (by simp [Act.eval, Act.put]) (by simp [Act.eval, Act.put]) (hcp1 _ _ _) ?_)
  go_wp2_with (at_builtin; refine wpList_copyK _ rfl _ _ 24 24 rfl _ _ rfl rfl (hcp2 _ _) ?_)
  go_ret
  exact ⟨rfl, HEND.out⟩
end Go.Proofs.YtlhnfejgkhilkaaGreatDoor
