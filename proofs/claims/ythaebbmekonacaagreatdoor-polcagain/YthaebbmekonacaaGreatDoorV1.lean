/-
  Rows of one's own: atoms, ASs; appends.
-/
import Derived.Test.YthaebbmekonacaaGreatDoorZ6
import Derived.Deep.Upon
set_option linter.unusedSimpArgs false
set_option maxRecDepth 100000
namespace Go.Proofs.YthaebbmekonacaaGreatDoor
open Go.RowKit
theorem owns_lt {w : World} {base : Nat} {e : TypeId} {size : Nat} {v : Value} {n : Nat} {xs : List Value} (h : w.ownsRow base e size v n xs) : ∀ g, v.ownBlock = some g → base ≤ g ∧ g < w.heap.size := by
  intro g hg
  obtain ⟨_, ⟨h1, _⟩ | ⟨g', cap, cur, e1, h1, h2, _⟩⟩ := h
  · rw [h1] at hg; cases hg
  · rw [e1] at hg
    simp only [Value.ownBlock] at hg
    injection hg with hg
    subst hg
    exact ⟨h1, (Array.getElem?_eq_some_iff.1 h2).1⟩
theorem owns_heap' {w w' : World} {base : Nat} {e : TypeId} {size : Nat} {v : Value} {n : Nat} {xs : List Value} (h : w.ownsRow base e size v n xs) (hh : ∀ g, v.ownBlock = some g → w'.heap[g]? = w.heap[g]?) : w'.ownsRow base e size v n xs := by
  obtain ⟨h0, ⟨h1, h2⟩ | ⟨g, cap, cur, e1, h1, h2, h3⟩⟩ := h
  · exact ⟨h0, Or.inl ⟨h1, h2⟩⟩
  · refine ⟨h0, Or.inr ⟨g, cap, cur, e1, h1, ?_, h3⟩⟩
    rw [hh g (by rw [e1]; rfl)]; exact h2
theorem owns_below {w w' : World} {base : Nat} {e : TypeId} {size : Nat} {v : Value} {n : Nat} {xs : List Value} (h : w.ownsRow base e size v n xs) (hb : Below w.heap.size w w') : w'.ownsRow base e size v n xs :=
  owns_heap' h fun g hg => hb.block g (owns_lt h g hg).2
theorem owns_mono {w : World} {base b' : Nat} {e : TypeId} {size : Nat} {v : Value} {n : Nat} {xs : List Value} (h : w.ownsRow base e size v n xs) (hb : b' ≤ base) : w.ownsRow b' e size v n xs := by
  obtain ⟨h0, h1 | ⟨g, cap, cur, e1, h1, h2⟩⟩ := h
  · exact ⟨h0, Or.inl h1⟩
  · exact ⟨h0, Or.inr ⟨g, cap, cur, e1, Nat.le_trans hb h1, h2⟩⟩
/-- What an append leaves: all below base is as it was. -/
theorem below_own {w w' : World} {base : Nat} {e : TypeId} {size : Nat} {v : Value} {n : Nat} {xs : List Value} (h : w.ownsRow base e size v n xs) (hg : w.grownBy w' v.ownBlock) (hb : base ≤ w.heap.size) : Below base w w' :=
  ⟨hg.os, hg.tape, hg.output, hg.size, fun k hk => hg.block k (by omega) (fun e => by have := (owns_lt h k e.symm).1; omega)⟩
theorem own_cell {w : World} {base : Nat} {e : TypeId} {size : Nat} {g cap n : Nat} {l : List Value} (h : w.ownsRow base e size (.slice (some ⟨g, 0, none⟩) n cap) n l) (t : Nat) (ht : t < n * size) : w.cell? ⟨g, t, none⟩ = l[t]? := by
  obtain ⟨h0, ⟨h1, h2⟩ | ⟨g', cap', cur, e, hg, hk, h1, h2, h3, h4⟩⟩ := h
  · cases h1
  · injection e with e _ _
    injection e with e
    injection e with e
    subst e
    have hsz : t < cur.size := by rw [h3]; exact Nat.lt_of_lt_of_le ht (Nat.mul_le_mul_right size h1)
    rw [← h4, List.getElem?_take_of_lt ht]
    simp [World.cell?, hk]
theorem own_len {w : World} {base : Nat} {e : TypeId} {size : Nat} {v : Value} {n : Nat} {xs : List Value} (h : w.ownsRow base e size v n xs) : ∃ ad c, v = .slice ad n c ∧ n ≤ c := by
  obtain ⟨_, ⟨h1, h2⟩ | ⟨g, cap, cur, h, _, _, hc, _⟩⟩ := h
  · exact ⟨none, 0, by rw [h1, h2], by omega⟩
  · exact ⟨_, _, h, hc⟩
theorem info_parts {P : Program} {e : TypeId} {z : Value} {size bytes : Nat} (h : (P.info? e).map (fun i => (i.zero, i.size, i.bytes)) = some (some z, size, bytes)) : ∃ i, P.info? e = some i ∧ i.zero = some z ∧ i.size = size ∧ i.bytes = bytes := by
  cases hi : P.info? e with
  | none => rw [hi] at h; simp at h
  | some i =>
    rw [hi] at h
    simp at h
    exact ⟨i, rfl, h.1, h.2.1, h.2.2⟩
theorem add_off (g off j : Nat) : Addr.add ⟨g, off, none⟩ j = ⟨g, off + j, none⟩ := by unfold Addr.add; by_cases e : j = 0 <;> simp [e]
theorem src_none {P : Program} {size : Nat} {tx e' : TypeId} (w : World) (hk : P.underlying tx = some (.slice e')) (ad : Option Addr) (c : Nat) : Src P size tx (.slice ad 0 c) 0 [] w := by
  cases ad with
  | none => exact Src.ofNil w hk c
  | some a => exact Src.ofSlice w hk a 0 c [] (by simp) (by simp) (by simp)
theorem wpList_append_run (w : World) {ops : Array Oper} {rest : List Oper} {o : Oper} {a : Act} {Q : Exit → Act → World → Prop} (hgd : o.guard = none) (s x : Operand) (t : TypeId)
    (ho : o.op = .call { callee := .builtin .append, args := #[s, x], argTypes := #[t, t] }) (v u : Value) (hs : a.eval s = v) (hx : a.eval x = u) {r : Value} {w' : World}
    (hr : (Builtin.append_ #[t, t] o.type #[v, u]).run Tryz.prog w = .ok r w') (h : wpList Tryz.prog ops Q rest (a.put o.dst r) w') : wpList Tryz.prog ops Q (o :: rest) a w :=
  wpList_plain hgd fun _ hK => by
    unfold Oper.wp
    simp only [execOp, ho, resolve, invoke, builtin, Sem.run_bind, Sem.run_pure, Result.andThen_ok, List.map_toArray, List.map_cons, List.map_nil, hs, hx, hr]
    exact hK _ _ h
def cellsA (l : List Atm) : List Value := l.flatMap fun (a : Atm) => [.int .i64 a.1, .int .u32 (a.2 : Int)]
def OwnA (w : World) (base : Nat) (v : Value) (l : List Atm) : Prop := w.ownsRow base 55 2 v l.length (cellsA l)
theorem info53 : (Tryz.prog.info? 55).map (fun i => (i.zero, i.size, i.bytes)) = some (some (.agg #[.int .i64 0, .int .u32 0]), 2, 16) := by kernel_rfl
theorem cellsA_len (l : List Atm) : (cellsA l).length = l.length * 2 := by
  induction l with
  | nil => rfl
  | cons a r ih => simp [cellsA] at *; omega
theorem cellsA_one (l : List Atm) : ∀ u ∈ cellsA l, u.oneCell' = true := by
  intro u hu
  obtain ⟨x, _, hx⟩ := List.mem_flatMap.1 hu
  simp at hx
  rcases hx with h | h <;> subst h <;> rfl
theorem cellsA_app (l m : List Atm) : cellsA (l ++ m) = cellsA l ++ cellsA m := by simp [cellsA]
theorem cellsA_at (l : List Atm) : ∀ (k : Nat) (hk : k < l.length), (cellsA l)[k * 2]? = some (.int .i64 l[k].1) ∧ (cellsA l)[k * 2 + 1]? = some (.int .u32 (l[k].2 : Int)) := by
  induction l with
  | nil => intro k hk; simp at hk
  | cons a r ih =>
    intro k hk
    have e : cellsA (a :: r) = [.int .i64 a.1, .int .u32 (a.2 : Int)] ++ cellsA r := by simp [cellsA]
    cases k with
    | zero => rw [e]; exact ⟨rfl, rfl⟩
    | succ k =>
      have := ih k (by simpa using hk)
      rw [e]
      refine ⟨?_, ?_⟩
      · rw [List.getElem?_append_right (by simp; omega), show (k + 1) * 2 - [Value.int .i64 a.1, Value.int .u32 (a.2 : Int)].length = k * 2 by simp; omega]; exact this.1
      · rw [List.getElem?_append_right (by simp; omega), show (k + 1) * 2 + 1 - [Value.int .i64 a.1, Value.int .u32 (a.2 : Int)].length = k * 2 + 1 by simp; omega]; exact this.2
theorem OwnA.at {w : World} {base : Nat} {v : Value} {l : List Atm} (h : OwnA w base v l) : AtAt w v l := by
  obtain ⟨_, ⟨h1, h2⟩ | ⟨g, cap, cur, e, _, _, hc, _⟩⟩ := id h
  · exact ⟨none, 0, 0, 0, by rw [h1, h2], Or.inr h2, by omega, fun j hj => by omega⟩
  · subst e
    refine ⟨_, g, 0, cap, rfl, Or.inl rfl, hc, fun j hj => ?_⟩
    have d := cellsA_at l j hj
    rw [show 0 + j * 2 = j * 2 by omega, own_cell h (j * 2) (by omega), own_cell h (j * 2 + 1) (by omega)]
    exact d
theorem srcA {w : World} {g off : Nat} {m : List Atm} (h : ∀ j (h : j < m.length), w.cell? ⟨g, off + j * 2, none⟩ = some (.int .i64 m[j].1) ∧ w.cell? ⟨g, off + j * 2 + 1, none⟩ = some (.int .u32 (m[j].2 : Int))) (j : Nat) (u : Value) (hj : (cellsA m)[j]? = some u) : w.cell? (Addr.add ⟨g, off, none⟩ j) = some u := by
  have hjl : j < m.length * 2 := by rw [← cellsA_len]; exact (List.getElem?_eq_some_iff.1 hj).1
  rw [add_off]
  have hk : j / 2 < m.length := by omega
  obtain ⟨c0, c1⟩ := h (j / 2) hk
  obtain ⟨d0, d1⟩ := cellsA_at m (j / 2) hk
  have h4 : j % 2 = 0 ∨ j % 2 = 1 := by omega
  rcases h4 with h4 | h4
  · have e : j = j / 2 * 2 := by omega
    rw [e] at hj; rw [d0] at hj; rw [e, c0]; exact hj
  · have e : j = j / 2 * 2 + 1 := by omega
    rw [e] at hj; rw [d1] at hj; rw [e, ← Nat.add_assoc, c1]; exact hj
/-- A slice's are put behind others. -/
theorem wpList_append_A (w : World) {ops : Array Oper} {rest : List Oper} {o : Oper} {a : Act} {Q : Exit → Act → World → Prop} (hgd : o.guard = none) (s x : Operand)
    (ho : o.op = .call { callee := .builtin .append, args := #[s, x], argTypes := #[53, 53] }) (base : Nat) (v v2 : Value) (l m : List Atm) (hs : a.eval s = v) (hx : a.eval x = v2)
    (h1 : OwnA w base v l) (h2 : AtAt w v2 m) (hlen : l.length + m.length ≤ 1000000) (hbase : base ≤ w.heap.size)
    (h : ∀ v' w', OwnA w' base v' (l ++ m) → Below base w w' → wpList Tryz.prog ops Q rest (a.put o.dst v') w') : wpList Tryz.prog ops Q (o :: rest) a w := by
  obtain ⟨i0, hi, hz0, hz1, hz2⟩ := info_parts info53
  have h1' := h1
  obtain ⟨ad2, g, off, cap, e, had, hc, hcs⟩ := h2
  subst e
  by_cases hm : m = []
  · subst hm
    obtain ⟨ad, c, ev, hle⟩ := own_len h1
    rw [ev] at hs h1'
    have hr := run_append_nothing (P := Tryz.prog) w 53 53 o.type 55 i0 Tryz.underlying53 hi ad l.length c hle (.slice ad2 0 cap) (by rw [hz1]; exact src_none w Tryz.underlying53 ad2 cap)
    refine wpList_append_run w hgd s x 53 ho _ _ hs hx hr (h _ w ?_ (Below.refl _ _))
    rw [List.append_nil]; exact h1'
  · have hm0 : 0 < m.length := List.length_pos_iff.2 hm
    obtain rfl : ad2 = some ⟨g, off, none⟩ := by
      rcases had with e | e
      · exact e
      · omega
    refine wpList_append_own w hgd s x 53 ho base 55 i0 (.agg #[.int .i64 0, .int .u32 0]) 2 16 Tryz.underlying53 hi hz0 hz1 hz2 rfl (by decide) v l.length (cellsA l) hs h1 ⟨g, off, none⟩ m.length cap (cellsA m) hx (cellsA_len m) (fun j u hj => srcA hcs j u hj) (cellsA_one m) (by unfold maxLen; omega) (by omega) hbase ?_
    intro v' w' ho' hg' _
    refine h v' w' ?_ (below_own h1 hg' hbase)
    unfold OwnA
    rw [cellsA_app, List.length_append]
    exact ho'
theorem OwnA.nil (w : World) (base : Nat) : OwnA w base (.slice none 0 0) [] := ⟨rfl, Or.inl ⟨rfl, rfl⟩⟩
theorem OwnA.below {w w' : World} {base : Nat} {v : Value} {l : List Atm} (h : OwnA w base v l) (hb : Below w.heap.size w w') : OwnA w' base v l := owns_below h hb
def cellsU (l : List Nat) : List Value := l.flatMap fun (a : Nat) => [.int .u32 (a : Int)]
def OwnU (w : World) (base : Nat) (v : Value) (l : List Nat) : Prop := w.ownsRow base 38 1 v l.length (cellsU l)
theorem info50 : (Tryz.prog.info? 38).map (fun i => (i.zero, i.size, i.bytes)) = some (some (.int .u32 0), 1, 4) := by kernel_rfl
theorem cellsU_len (l : List Nat) : (cellsU l).length = l.length * 1 := by
  induction l with
  | nil => rfl
  | cons a r ih => simp [cellsU] at *; omega
theorem cellsU_one (l : List Nat) : ∀ u ∈ cellsU l, u.oneCell' = true := by
  intro u hu
  obtain ⟨x, _, hx⟩ := List.mem_flatMap.1 hu
  simp at hx
  subst hx; rfl
theorem cellsU_app (l m : List Nat) : cellsU (l ++ m) = cellsU l ++ cellsU m := by simp [cellsU]
theorem cellsU_at (l : List Nat) : ∀ (k : Nat) (hk : k < l.length), (cellsU l)[k]? = some (.int .u32 (l[k] : Int)) := by
  induction l with
  | nil => intro k hk; simp at hk
  | cons a r ih =>
    intro k hk
    have e : cellsU (a :: r) = [.int .u32 (a : Int)] ++ cellsU r := by simp [cellsU]
    cases k with
    | zero => rw [e]; rfl
    | succ k =>
      have := ih k (by simpa using hk)
      rw [e]
      rw [List.getElem?_append_right (by simp), show (k + 1) - [Value.int .u32 (a : Int)].length = k by simp]; exact this
theorem OwnU.at {w : World} {base : Nat} {v : Value} {l : List Nat} (h : OwnU w base v l) : ASAt w v l := by
  obtain ⟨_, ⟨h1, h2⟩ | ⟨g, cap, cur, e, _, _, hc, _⟩⟩ := id h
  · exact ⟨none, 0, 0, 0, by rw [h1, h2], Or.inr h2, by omega, fun j hj => by omega⟩
  · subst e
    refine ⟨_, g, 0, cap, rfl, Or.inl rfl, hc, fun j hj => ?_⟩
    have d := cellsU_at l j hj
    rw [show 0 + j = j by omega, own_cell h j (by omega)]
    exact d
theorem srcU {w : World} {g off : Nat} {m : List Nat} (h : ∀ j (h : j < m.length), w.cell? ⟨g, off + j, none⟩ = some (.int .u32 (m[j] : Int))) (j : Nat) (u : Value) (hj : (cellsU m)[j]? = some u) : w.cell? (Addr.add ⟨g, off, none⟩ j) = some u := by
  have hjl : j < m.length * 1 := by rw [← cellsU_len]; exact (List.getElem?_eq_some_iff.1 hj).1
  rw [add_off]
  have hk : j < m.length := by omega
  rw [cellsU_at m j hk] at hj
  rw [h j hk]; exact hj
/-- A slice's are put behind others. -/
theorem wpList_append_U (w : World) {ops : Array Oper} {rest : List Oper} {o : Oper} {a : Act} {Q : Exit → Act → World → Prop} (hgd : o.guard = none) (s x : Operand)
    (ho : o.op = .call { callee := .builtin .append, args := #[s, x], argTypes := #[44, 44] }) (base : Nat) (v v2 : Value) (l m : List Nat) (hs : a.eval s = v) (hx : a.eval x = v2)
    (h1 : OwnU w base v l) (h2 : ASAt w v2 m) (hlen : l.length + m.length ≤ 1000000) (hbase : base ≤ w.heap.size)
    (h : ∀ v' w', OwnU w' base v' (l ++ m) → Below base w w' → wpList Tryz.prog ops Q rest (a.put o.dst v') w') : wpList Tryz.prog ops Q (o :: rest) a w := by
  obtain ⟨i0, hi, hz0, hz1, hz2⟩ := info_parts info50
  have h1' := h1
  obtain ⟨ad2, g, off, cap, e, had, hc, hcs⟩ := h2
  subst e
  by_cases hm : m = []
  · subst hm
    obtain ⟨ad, c, ev, hle⟩ := own_len h1
    rw [ev] at hs h1'
    have hr := run_append_nothing (P := Tryz.prog) w 44 44 o.type 38 i0 Tryz.underlying44 hi ad l.length c hle (.slice ad2 0 cap) (by rw [hz1]; exact src_none w Tryz.underlying44 ad2 cap)
    refine wpList_append_run w hgd s x 44 ho _ _ hs hx hr (h _ w ?_ (Below.refl _ _))
    rw [List.append_nil]; exact h1'
  · have hm0 : 0 < m.length := List.length_pos_iff.2 hm
    obtain rfl : ad2 = some ⟨g, off, none⟩ := by
      rcases had with e | e
      · exact e
      · omega
    refine wpList_append_own w hgd s x 44 ho base 38 i0 (.int .u32 0) 1 4 Tryz.underlying44 hi hz0 hz1 hz2 rfl (by decide) v l.length (cellsU l) hs h1 ⟨g, off, none⟩ m.length cap (cellsU m) hx (cellsU_len m) (fun j u hj => srcU hcs j u hj) (cellsU_one m) (by unfold maxLen; omega) (by omega) hbase ?_
    intro v' w' ho' hg' _
    refine h v' w' ?_ (below_own h1 hg' hbase)
    unfold OwnU
    rw [cellsU_app, List.length_append]
    exact ho'
theorem OwnU.nil (w : World) (base : Nat) : OwnU w base (.slice none 0 0) [] := ⟨rfl, Or.inl ⟨rfl, rfl⟩⟩
theorem OwnU.below {w w' : World} {base : Nat} {v : Value} {l : List Nat} (h : OwnU w base v l) (hb : Below w.heap.size w w') : OwnU w' base v l := owns_below h hb
end Go.Proofs.YthaebbmekonacaaGreatDoor
