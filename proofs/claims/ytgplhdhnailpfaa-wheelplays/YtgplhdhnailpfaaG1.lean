/-
  Timers appended to timers; which one of two is ahead; filled for every list.
-/
import Derived.Test.YtgplhdhnailpfaaF5
import Derived.Deep.Upon
set_option linter.unusedSimpArgs false
set_option maxRecDepth 100000
namespace Go.Proofs.Ytgplhdhnailpfaa
open Go.RowKit Go.Maps
theorem cellsF_len (l : List Fd) : (cellsF l).length = l.length * 4 := by
  induction l with
  | nil => rfl
  | cons a r ih => simp [cellsF, encF] at *; omega
theorem cellsF_one (l : List Fd) : ∀ u ∈ cellsF l, u.oneCell' = true := by
  intro u hu
  obtain ⟨x, _, hx⟩ := List.mem_flatMap.1 hu
  exact four_f x u hx
theorem cellsF_app (l m : List Fd) : cellsF (l ++ m) = cellsF l ++ cellsF m := by simp [cellsF]
theorem own_len {w : World} {base : Nat} {v : Value} {l : List Fd} (h : OwnF w base v l) : ∃ ad c, v = .slice ad l.length c ∧ l.length ≤ c := by
  obtain ⟨_, ⟨h1, h2⟩ | ⟨g, cap, cur, h, _, _, hc, _⟩⟩ := h
  · exact ⟨none, 0, by rw [h1, h2], by omega⟩
  · exact ⟨_, _, h, hc⟩
theorem wpList_append_run (w : World) {ops : Array Oper} {rest : List Oper} {o : Oper} {a : Act} {Q : Exit → Act → World → Prop} (hgd : o.guard = none) (s x : Operand) (t : TypeId)
    (ho : o.op = .call { callee := .builtin .append, args := #[s, x], argTypes := #[t, t] }) (v u : Value) (hs : a.eval s = v) (hx : a.eval x = u) {r : Value} {w' : World}
    (hr : (Builtin.append_ #[t, t] o.type #[v, u]).run Try.prog w = .ok r w') (h : wpList Try.prog ops Q rest (a.put o.dst r) w') : wpList Try.prog ops Q (o :: rest) a w :=
  wpList_plain hgd fun _ hK => by
    unfold Oper.wp
    simp only [execOp, ho, resolve, invoke, builtin, Sem.run_bind, Sem.run_pure, Result.andThen_ok, List.map_toArray, List.map_cons, List.map_nil, hs, hx, hr]
    exact hK _ _ h
/-- Timers in a row of their own are put behind others. -/
theorem wpList_append_two (w : World) {ops : Array Oper} {rest : List Oper} {o : Oper} {a : Act} {Q : Exit → Act → World → Prop} (hgd : o.guard = none) (s x : Operand)
    (ho : o.op = .call { callee := .builtin .append, args := #[s, x], argTypes := #[25, 25] }) (base base2 : Nat) (v v2 : Value) (l m : List Fd) (hs : a.eval s = v) (hx : a.eval x = v2)
    (h1 : OwnF w base v l) (h2 : OwnF w base2 v2 m) (hlen : l.length + m.length ≤ 100000) (hbase : base ≤ w.heap.size)
    (h : ∀ v' w', OwnF w' base v' (l ++ m) → w.grownBy w' v.ownBlock → wpList Try.prog ops Q rest (a.put o.dst v') w') : wpList Try.prog ops Q (o :: rest) a w := by
  obtain ⟨i0, hi, hz0, hz1, hz2⟩ := info_parts info48
  have h1' := h1
  obtain ⟨_, ⟨e, hm0⟩ | ⟨g, cap, cur, e, hg, hk, hc, hc2, hc3, hc4⟩⟩ := id h2
  · have hm : m = [] := List.length_eq_zero_iff.1 hm0
    subst hm
    subst e
    obtain ⟨ad, c, ev, hle⟩ := own_len h1
    rw [ev] at hs h1' h
    have hr := run_append_nothing (P := Try.prog) w 25 25 o.type 48 i0 Try.underlying25 hi ad l.length c hle (.slice none 0 0) (by rw [hz1]; exact Src.ofNil w Try.underlying25 0)
    refine wpList_append_run w hgd s x 25 ho _ _ hs hx hr (h _ w ?_ (World.grownBy.refl _ _))
    rw [List.append_nil]; exact h1'
  · subst e
    refine wpList_append_own w hgd s x 25 ho base 48 i0 (.agg #[.int .u64 0, .int .i64 0, .string ⟨#[]⟩, .int .i64 0]) 4 40 Try.underlying25 hi hz0 hz1 hz2 rfl (by decide) v l.length (cellsF l) hs h1 ⟨g, 0, none⟩ m.length cap (cellsF m) hx (cellsF_len m) (fun j u hj => ?_) (cellsF_one m) (by unfold maxLen; omega) (by omega) hbase ?_
    · have hjl : j < m.length * 4 := by rw [← cellsF_len]; exact (List.getElem?_eq_some_iff.1 hj).1
      rw [show Addr.add ⟨g, 0, none⟩ j = ⟨g, j, none⟩ by unfold Addr.add; by_cases e : j = 0 <;> simp [e]]
      rw [own_cellF h2 j hjl]
      exact hj
    · intro v' w' ho' hg' _
      refine h v' w' ?_ hg'
      unfold OwnF
      rw [cellsF_app, List.length_append]
      exact ho'
/-- A timer's four cells at a place. -/
structure FdAt (w : World) (g k : Nat) (x : Fd) : Prop where
  c0 : w.cell? ⟨g, k * 4, none⟩ = some (.int .u64 (x.at' : Int))
  c1 : w.cell? ⟨g, k * 4 + 1, none⟩ = some (.int .i64 x.key.kind)
  c2 : w.cell? ⟨g, k * 4 + 2, none⟩ = some (.string x.key.peer)
  c3 : w.cell? ⟨g, k * 4 + 3, none⟩ = some (.int .i64 x.key.fam)
theorem FdAt.below {w w' : World} {g k : Nat} {x : Fd} (h : FdAt w g k x) (hb : Below w.heap.size w w') : FdAt w' g k x := ⟨cell2 hb h.c0, cell2 hb h.c1, cell2 hb h.c2, cell2 hb h.c3⟩
theorem cells_at (l : List Fd) : ∀ (k : Nat) (hk : k < l.length), (cellsF l)[k * 4]? = some (.int .u64 (l[k].at' : Int)) ∧ (cellsF l)[k * 4 + 1]? = some (.int .i64 l[k].key.kind) ∧ (cellsF l)[k * 4 + 2]? = some (.string l[k].key.peer) ∧ (cellsF l)[k * 4 + 3]? = some (.int .i64 l[k].key.fam) := by
  induction l with
  | nil => intro k hk; simp at hk
  | cons a r ih =>
    intro k hk
    have e : cellsF (a :: r) = encF a ++ cellsF r := by simp [cellsF]
    have hl : (encF a).length = 4 := rfl
    cases k with
    | zero => rw [e]; exact ⟨rfl, rfl, rfl, rfl⟩
    | succ k =>
      have := ih k (by simpa using hk)
      rw [e]
      refine ⟨?_, ?_, ?_, ?_⟩
      · rw [List.getElem?_append_right (by rw [hl]; omega), hl, show (k + 1) * 4 - 4 = k * 4 by omega]; exact this.1
      · rw [List.getElem?_append_right (by rw [hl]; omega), hl, show (k + 1) * 4 + 1 - 4 = k * 4 + 1 by omega]; exact this.2.1
      · rw [List.getElem?_append_right (by rw [hl]; omega), hl, show (k + 1) * 4 + 2 - 4 = k * 4 + 2 by omega]; exact this.2.2.1
      · rw [List.getElem?_append_right (by rw [hl]; omega), hl, show (k + 1) * 4 + 3 - 4 = k * 4 + 3 by omega]; exact this.2.2.2
theorem own_at {w : World} {base g cap : Nat} {l : List Fd} (h : OwnF w base (.slice (some ⟨g, 0, none⟩) l.length cap) l) (k : Nat) (hk : k < l.length) : FdAt w g k l[k] := by
  obtain ⟨h0, h1, h2, h3⟩ := cells_at l k hk
  exact ⟨(own_cellF h _ (by omega)).trans h0, (own_cellF h _ (by omega)).trans h1, (own_cellF h _ (by omega)).trans h2, (own_cellF h _ (by omega)).trans h3⟩
theorem own_some {w : World} {base : Nat} {v : Value} {l : List Fd} (h : OwnF w base v l) (hl : l ≠ []) : ∃ g cap, v = .slice (some ⟨g, 0, none⟩) l.length cap := by
  obtain ⟨_, ⟨_, h0⟩ | ⟨g, cap, cur, h, _⟩⟩ := h
  · exact absurd (List.length_eq_zero_iff.1 h0) hl
  · exact ⟨g, cap, h⟩
theorem filled_none (w : World) (a : Option Addr) (cap : Nat) (t : Bool) : Calls Try.prog 23 #[.slice a 0 cap, .bool t] w fun e w' => e = .returned (.pointer (some ⟨w.heap.size + 1, 0, none⟩)) ∧ WhAt w' (w.heap.size + 1) w.heap.size [] ∧ Below w.heap.size w w' := by
  go_enter Try.func23, Try.ntmps23
  go_wp2_with fail
  refine (new_any _).mono ?_
  rintro e w1 ⟨rfl, hw1, hb1⟩
  go_wp2_with fail
  refine wp_loop_rounds 1 ?_
  rw [rounds_succ]
  go_wp2
  go_ret
  exact ⟨rfl, hw1, hb1⟩
/-- Timers by small numbers that come in. -/
structure ArgS (w : World) (v : Value) (l : List St) : Prop where
  shape : ∃ a cap, v = .slice a l.length cap
  cell : l ≠ [] → ∃ bk off cap, v = .slice (some ⟨bk, off, none⟩) l.length cap ∧ SetsAt w bk off l
  len : l.length ≤ maxLen
theorem ArgS.kept {w w' : World} {v : Value} {l : List St} (h : ArgS w v l) (hb : Below w.heap.size w w') : ArgS w' v l :=
  ⟨h.shape, fun hn => by obtain ⟨bk, off, cap, e, hs⟩ := h.cell hn; exact ⟨bk, off, cap, e, hs.below hb⟩, h.len⟩
/-- The timers of a filled wheel. -/
def fillF (l : List St) : List Fd := fillA (l.take 60)
theorem take_min (l : List St) : l.take (min l.length 60) = l.take 60 := by
  by_cases h : l.length ≤ 60
  · rw [Nat.min_eq_left h, List.take_of_length_le (Nat.le_refl _), List.take_of_length_le h]
  · rw [Nat.min_eq_right (by omega)]
theorem filled_any (w : World) (v : Value) (l : List St) (t : Bool) (h : ArgS w v l) : Calls Try.prog 23 #[v, .bool t] w fun e w' => e = .returned (.pointer (some ⟨w.heap.size + 1, 0, none⟩)) ∧ WhAt w' (w.heap.size + 1) w.heap.size (fillF l) ∧ Below w.heap.size w w' := by
  by_cases hn : l = []
  · subst hn
    obtain ⟨a, cap, rfl⟩ := h.shape
    exact filled_none w a cap t
  · obtain ⟨bk, off, cap, rfl, hs⟩ := h.cell hn
    have hp : 0 < l.length := List.length_pos_iff.2 hn
    cases t
    · have := filledA_any w bk off l.length cap (min l.length 60) l rfl rfl (by omega) h.len hs
      rw [take_min] at this
      exact this
    · have := filledB_any w bk off l.length cap (min l.length 60) l rfl rfl (by omega) h.len hs
      rw [take_min, ← fill_same] at this
      exact this
theorem fillF_whl (l : List St) : Whl (fillF l) ∧ (fillF l).length ≤ 60 := by
  obtain ⟨h1, h2⟩ := fillA_whl (l.take 60)
  have h3 : (l.take 60).length ≤ 60 := List.length_take_le _ _
  exact ⟨h1, by unfold fillF; omega⟩
theorem fillF_tick (l : List St) : ∀ x ∈ fillF l, x.at' ≤ 255 := by
  intro ⟨t, k⟩ hx
  have h := (mem_fillA _ t k).1 hx
  unfold firstT at h
  obtain ⟨y, _, e⟩ := Option.map_eq_some_iff.1 h
  have := y.ok
  show t ≤ 255
  omega
end Go.Proofs.Ytgplhdhnailpfaa
