/-
  The reference's Arm.
-/
import Derived.Test.YtgplhdhnailpfaaL2
import Derived.Test.YtgplhdhnailpfaaL3
import Derived.Test.YtgplhdhnailpfaaL4
set_option linter.unusedSimpArgs false
set_option maxRecDepth 100000
namespace Go.Proofs.Ytgplhdhnailpfaa
open Go.RowKit Go.Maps
/-- A timer put in behind all that are not behind it. -/
theorem place_eq {R : List Fd} (h : InOrder R) {x : Fd} (hne : ∀ y ∈ R, y ≠ x) (n : Nat) (hn : n ≤ R.length) (h1 : ∀ j (hj : j < R.length), n ≤ j → flt x R[j]) (h2 : n = 0 ∨ ∃ hlt : n - 1 < R.length, ¬ flt x (R[n - 1]'hlt)) : R.take n ++ [x] ++ R.drop n = insF x R := by
  have hb : ∀ a ∈ R.take n, flt a x := by
    intro a ha
    rcases h2 with h2 | ⟨hlt, h2⟩
    · subst h2; simp at ha
    · have hl : flt (R[n - 1]'hlt) x := by
        by_cases h3 : flt (R[n - 1]'hlt) x
        · exact h3
        · exact absurd (flt_total h3 h2) (hne _ (List.getElem_mem hlt))
      obtain ⟨i, hi, e⟩ := List.getElem_of_mem ha
      rw [List.getElem_take] at e
      rw [List.length_take] at hi
      subst e
      by_cases h4 : i = n - 1
      · subst h4; exact hl
      · exact flt_trans (ord_get h i (n - 1) (by omega) hlt) hl
  have ha : ∀ a ∈ R.drop n, flt x a := by
    intro a ha
    obtain ⟨i, hi, e⟩ := List.getElem_of_mem ha
    rw [List.getElem_drop] at e
    rw [List.length_drop] at hi
    subst e
    exact h1 (n + i) (by omega) (by omega)
  have hR : R.take n ++ R.drop n = R := List.take_append_drop n R
  have hord : (R.take n ++ R.drop n).Pairwise flt := by rw [hR]; exact h
  obtain ⟨o1, o2, o3⟩ := List.pairwise_append.1 hord
  refine order_unique ?_ (order_insF h hne) (fun z => ?_)
  · unfold InOrder
    rw [List.append_assoc]
    refine List.pairwise_append.2 ⟨o1, List.pairwise_cons.2 ⟨ha, o2⟩, fun a h5 b h6 => ?_⟩
    rcases List.mem_cons.1 h6 with rfl | h6
    · exact hb a h5
    · exact o3 a h5 b h6
  · rw [mem_insF]
    conv => rhs; rw [← hR]
    simp only [List.mem_append, List.mem_singleton]
    constructor
    · rintro ((h | h) | h) <;> simp [h]
    · rintro (h | h | h) <;> simp [h]
theorem wpList_slice_h (w : World) {ops : Array Oper} {rest : List Oper} {o : Oper} {a : Act} {Q : Exit → Act → World → Prop} (hgd : o.guard = none) (s x : Operand)
    (ho : o.op = .slice 25 s none (some x) none) (v u : Value) (hs : a.eval s = v) (hx : a.eval x = u) {r : Value}
    (hr : (Instr.slice 25 v none (some u) none).run Try.prog w = .ok r w) (h : wpList Try.prog ops Q rest (a.put o.dst r) w) : wpList Try.prog ops Q (o :: rest) a w :=
  wpList_plain hgd fun _ hK => by
    unfold Oper.wp
    simp only [execOp, ho, Option.map_some, Option.map_none, hs, hx, Sem.run_bind, Sem.run_pure, run_sliceAt_slice w 25 _ _ _ _ Try.underlying25, hr, Result.andThen_ok]
    exact hK _ _ h
theorem wpList_slice_l (w : World) {ops : Array Oper} {rest : List Oper} {o : Oper} {a : Act} {Q : Exit → Act → World → Prop} (hgd : o.guard = none) (s x : Operand)
    (ho : o.op = .slice 25 s (some x) none none) (v u : Value) (hs : a.eval s = v) (hx : a.eval x = u) {r : Value}
    (hr : (Instr.slice 25 v (some u) none none).run Try.prog w = .ok r w) (h : wpList Try.prog ops Q rest (a.put o.dst r) w) : wpList Try.prog ops Q (o :: rest) a w :=
  wpList_plain hgd fun _ hK => by
    unfold Oper.wp
    simp only [execOp, ho, Option.map_some, Option.map_none, hs, hx, Sem.run_bind, Sem.run_pure, run_sliceAt_slice w 25 _ _ _ _ Try.underlying25, hr, Result.andThen_ok]
    exact hK _ _ h
/-- Timers that can be put behind others. -/
def SrcF (w : World) (v : Value) (m : List Fd) : Prop := (v = .slice none 0 0 ∧ m = []) ∨ ∃ g off cap, v = .slice (some ⟨g, off, none⟩) m.length cap ∧ ∀ j (h : j < m.length), FoAt w g (off + j * 4) m[j]
theorem SrcF.below {w w' : World} {v : Value} {m : List Fd} (h : SrcF w v m) (hb : Below w.heap.size w w') : SrcF w' v m := by
  rcases h with h | ⟨g, off, cap, e, h⟩
  · exact Or.inl h
  · exact Or.inr ⟨g, off, cap, e, fun j hj => (h j hj).below hb⟩
theorem SrcF.keep {w w' : World} {v : Value} {m : List Fd} (h : SrcF w v m) (hh : ∀ g o x, FoAt w g o x → FoAt w' g o x) : SrcF w' v m := by
  rcases h with h | ⟨g, off, cap, e, h⟩
  · exact Or.inl h
  · exact Or.inr ⟨g, off, cap, e, fun j hj => hh _ _ _ (h j hj)⟩
theorem src_cell {w : World} {g off : Nat} {m : List Fd} (h : ∀ j (h : j < m.length), FoAt w g (off + j * 4) m[j]) (j : Nat) (u : Value) (hj : (cellsF m)[j]? = some u) : w.cell? (Addr.add ⟨g, off, none⟩ j) = some u := by
  have hjl : j < m.length * 4 := by rw [← cellsF_len]; exact (List.getElem?_eq_some_iff.1 hj).1
  have ea : Addr.add ⟨g, off, none⟩ j = ⟨g, off + j, none⟩ := by unfold Addr.add; by_cases e : j = 0 <;> simp [e]
  rw [ea]
  have hk : j / 4 < m.length := by omega
  obtain ⟨c0, c1, c2, c3⟩ := h (j / 4) hk
  obtain ⟨d0, d1, d2, d3⟩ := cells_at m (j / 4) hk
  have h4 : j % 4 = 0 ∨ j % 4 = 1 ∨ j % 4 = 2 ∨ j % 4 = 3 := by omega
  rcases h4 with h4 | h4 | h4 | h4
  · have e : j = j / 4 * 4 := by omega
    rw [e] at hj; rw [d0] at hj; rw [e, c0]; exact hj
  · have e : j = j / 4 * 4 + 1 := by omega
    rw [e] at hj; rw [d1] at hj; rw [e, ← Nat.add_assoc, c1]; exact hj
  · have e : j = j / 4 * 4 + 2 := by omega
    rw [e] at hj; rw [d2] at hj; rw [e, ← Nat.add_assoc, c2]; exact hj
  · have e : j = j / 4 * 4 + 3 := by omega
    rw [e] at hj; rw [d3] at hj; rw [e, ← Nat.add_assoc, c3]; exact hj
/-- Timers of a slice are put behind others. -/
theorem wpList_append_src (w : World) {ops : Array Oper} {rest : List Oper} {o : Oper} {a : Act} {Q : Exit → Act → World → Prop} (hgd : o.guard = none) (s x : Operand)
    (ho : o.op = .call { callee := .builtin .append, args := #[s, x], argTypes := #[25, 25] }) (base : Nat) (v v2 : Value) (l m : List Fd) (hs : a.eval s = v) (hx : a.eval x = v2)
    (h1 : OwnF w base v l) (h2 : SrcF w v2 m) (hlen : l.length + m.length ≤ 100000) (hbase : base ≤ w.heap.size)
    (h : ∀ v' w', OwnF w' base v' (l ++ m) → w.grownBy w' v.ownBlock → wpList Try.prog ops Q rest (a.put o.dst v') w') : wpList Try.prog ops Q (o :: rest) a w := by
  obtain ⟨i0, hi, hz0, hz1, hz2⟩ := info_parts info48
  have h1' := h1
  rcases h2 with ⟨e, hm⟩ | ⟨g, off, cap, e, hcs⟩
  · subst hm
    subst e
    obtain ⟨ad, c, ev, hle⟩ := own_len h1
    rw [ev] at hs h1' h
    have hr := run_append_nothing (P := Try.prog) w 25 25 o.type 48 i0 Try.underlying25 hi ad l.length c hle (.slice none 0 0) (by rw [hz1]; exact Src.ofNil w Try.underlying25 0)
    refine wpList_append_run w hgd s x 25 ho _ _ hs hx hr (h _ w ?_ (World.grownBy.refl _ _))
    rw [List.append_nil]; exact h1'
  · subst e
    refine wpList_append_own w hgd s x 25 ho base 48 i0 (.agg #[.int .u64 0, .int .i64 0, .string ⟨#[]⟩, .int .i64 0]) 4 40 Try.underlying25 hi hz0 hz1 hz2 rfl (by decide) v l.length (cellsF l) hs h1 ⟨g, off, none⟩ m.length cap (cellsF m) hx (cellsF_len m) (fun j u hj => src_cell hcs j u hj) (cellsF_one m) (by unfold maxLen; omega) (by omega) hbase ?_
    intro v' w' ho' hg' _
    refine h v' w' ?_ hg'
    unfold OwnF
    rw [cellsF_app, List.length_append]
    exact ho'
theorem own_form {w : World} {base : Nat} {v : Value} {l : List Fd} (h : OwnF w base v l) : (v = .slice none 0 0 ∧ l = []) ∨ ∃ g cap, v = .slice (some ⟨g, 0, none⟩) l.length cap ∧ l.length ≤ cap := by
  obtain ⟨_, ⟨h1, h2⟩ | ⟨g, cap, cur, h, _, _, hc, _⟩⟩ := h
  · exact Or.inl ⟨h1, List.length_eq_zero_iff.1 h2⟩
  · exact Or.inr ⟨g, cap, h, hc⟩
theorem src_h {w : World} {base c : Nat} {ad : Option Addr} {l : List Fd} (h : OwnF w base (.slice ad l.length c) l) (n : Nat) (hn : n ≤ l.length) : SrcF w (sliced ad 0 n c 4) (l.take n) := by
  have hl : (l.take n).length = n := by rw [List.length_take]; omega
  rcases own_form h with ⟨e, e2⟩ | ⟨g, cap, e, hc⟩
  · subst e2
    injection e with e1 _ e3
    subst e1 e3
    have : n = 0 := by simpa using hn
    subst this
    exact Or.inl ⟨rfl, rfl⟩
  · injection e with e1 _ e3
    subst e1 e3
    refine Or.inr ⟨g, 0, c, ?_, fun j hj => ?_⟩
    · rw [hl]; simp [sliced, Addr.add]
    · rw [List.getElem_take, Nat.zero_add]
      have := own_at h j (by omega)
      exact ⟨this.c0, this.c1, this.c2, this.c3⟩
theorem src_l {w : World} {base c : Nat} {ad : Option Addr} {l : List Fd} (h : OwnF w base (.slice ad l.length c) l) (n : Nat) (hn : n ≤ l.length) : SrcF w (sliced ad n l.length c 4) (l.drop n) := by
  have hl : (l.drop n).length = l.length - n := by rw [List.length_drop]
  rcases own_form h with ⟨e, e2⟩ | ⟨g, cap, e, hc⟩
  · subst e2
    injection e with e1 _ e3
    subst e1 e3
    have : n = 0 := by simpa using hn
    subst this
    exact Or.inl ⟨rfl, rfl⟩
  · injection e with e1 _ e3
    subst e1 e3
    by_cases hcn : c = n
    · have hd : l.drop n = [] := List.drop_of_length_le (by omega)
      refine Or.inr ⟨g, 0, c - n, ?_, fun j hj => ?_⟩
      · rw [hl]; unfold sliced; rw [if_pos hcn]
      · rw [hd] at hj; simp at hj
    · refine Or.inr ⟨g, n * 4, c - n, ?_, fun j hj => ?_⟩
      · rw [hl]; unfold sliced; rw [if_neg hcn]
        simp only [Option.map_some, Addr.add]
        by_cases h4 : n * 4 = 0 <;> simp [h4]
      · rw [List.getElem_drop, show n * 4 + j * 4 = (n + j) * 4 by omega]
        have := own_at h (n + j) (by omega)
        exact ⟨this.c0, this.c1, this.c2, this.c3⟩
end Go.Proofs.Ytgplhdhnailpfaa
