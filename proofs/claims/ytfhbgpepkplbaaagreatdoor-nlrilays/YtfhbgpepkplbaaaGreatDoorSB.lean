/-
  The reference's Put.
-/
import Derived.Test.YtfhbgpepkplbaaaGreatDoorSA
import Derived.Deep.QuietTactic
import Derived.BigQuiet
import Derived.Deep.RegionHeld
import Derived.Deep.Upon
set_option linter.unusedSimpArgs false
set_option maxRecDepth 100000
namespace Go.Proofs.YtfhbgpepkplbaaaGreatDoor
open Go.RowKit Go.Sort
theorem ordN_get {L : List Nl} (h : InOrd L) (j k : Nat) (hjk : j < k) (hk : k < L.length) : nlt (L[j]'(by omega)) L[k] := List.pairwise_iff_getElem.1 h j k (by omega) hk hjk
/-- One put in behind all that are ahead of it. -/
theorem place_eqN {R : List Nl} (h : InOrd R) {x : Nl} (n : Nat) (hn : n ≤ R.length) (h1 : ∀ j (hj : j < R.length), n ≤ j → nlt x R[j]) (h2 : n = 0 ∨ ∃ hlt : n - 1 < R.length, nlt (R[n - 1]'hlt) x) : R.take n ++ [x] ++ R.drop n = insN x R := by
  have hb : ∀ a ∈ R.take n, nlt a x := by
    intro a ha
    rcases h2 with h2 | ⟨hlt, h2⟩
    · subst h2; simp at ha
    · obtain ⟨i, hi, e⟩ := List.getElem_of_mem ha
      rw [List.getElem_take] at e
      rw [List.length_take] at hi
      subst e
      by_cases h4 : i = n - 1
      · subst h4; exact h2
      · exact nlt_trans (ordN_get h i (n - 1) (by omega) hlt) h2
  have ha : ∀ a ∈ R.drop n, nlt x a := by
    intro a ha
    obtain ⟨i, hi, e⟩ := List.getElem_of_mem ha
    rw [List.getElem_drop] at e
    rw [List.length_drop] at hi
    subst e
    exact h1 (n + i) (by omega) (by omega)
  have hR : R.take n ++ R.drop n = R := List.take_append_drop n R
  have hord : (R.take n ++ R.drop n).Pairwise nlt := by rw [hR]; exact h
  obtain ⟨o1, o2, o3⟩ := List.pairwise_append.1 hord
  refine ord_unique ?_ (ord_insN h) (fun z => ?_)
  · unfold InOrd
    rw [List.append_assoc]
    refine List.pairwise_append.2 ⟨o1, List.pairwise_cons.2 ⟨ha, o2⟩, fun a h5 b h6 => ?_⟩
    rcases List.mem_cons.1 h6 with rfl | h6
    · exact hb a h5
    · exact o3 a h5 b h6
  · rw [mem_insN]
    conv => rhs; rw [← hR]
    simp only [List.mem_append, List.mem_singleton]
    constructor
    · rintro ((h | h) | h) <;> simp [h]
    · rintro (h | h | h) <;> simp [h]
theorem insN_in {R : List Nl} (h : InOrd R) {x : Nl} (hx : x ∈ R) : insN x R = R :=
  ord_unique (ord_insN h) h (fun z => by rw [mem_insN]; constructor; (rintro (e | e); exact e ▸ hx; exact e); exact Or.inr)
theorem slice_hN (w : World) (a : Option Addr) (len cap n : Nat) (h : n ≤ cap) : (Instr.slice 35 (.slice a len cap) none (some (.int .i64 (n : Int))) none).run Tryz.prog w = .ok (sliced a 0 n cap 6) w := by
  rw [run_slice_h (P := Tryz.prog) w 35 a len cap Tryz.underlying35 .i64 (n : Int) (by omega) (by omega)]
  rfl
theorem slice_lN (w : World) (a : Option Addr) (len cap n : Nat) (h : n ≤ len) : (Instr.slice 35 (.slice a len cap) (some (.int .i64 (n : Int))) none none).run Tryz.prog w = .ok (sliced a n len cap 6) w := by
  rw [run_slice_l (P := Tryz.prog) w 35 a len cap Tryz.underlying35 .i64 (n : Int) (by omega) (by omega)]
  rfl
theorem wpList_slice_hN (w : World) {ops : Array Oper} {rest : List Oper} {o : Oper} {a : Act} {Q : Exit → Act → World → Prop} (hgd : o.guard = none) (s x : Operand)
    (ho : o.op = .slice 35 s none (some x) none) (v u : Value) (hs : a.eval s = v) (hx : a.eval x = u) {r : Value}
    (hr : (Instr.slice 35 v none (some u) none).run Tryz.prog w = .ok r w) (h : wpList Tryz.prog ops Q rest (a.put o.dst r) w) : wpList Tryz.prog ops Q (o :: rest) a w :=
  wpList_plain hgd fun _ hK => by
    unfold Oper.wp
    simp only [execOp, ho, Option.map_some, Option.map_none, hs, hx, Sem.run_bind, Sem.run_pure, run_sliceAt_slice w 35 _ _ _ _ Tryz.underlying35, hr, Result.andThen_ok]
    exact hK _ _ h
theorem wpList_slice_lN (w : World) {ops : Array Oper} {rest : List Oper} {o : Oper} {a : Act} {Q : Exit → Act → World → Prop} (hgd : o.guard = none) (s x : Operand)
    (ho : o.op = .slice 35 s (some x) none none) (v u : Value) (hs : a.eval s = v) (hx : a.eval x = u) {r : Value}
    (hr : (Instr.slice 35 v (some u) none none).run Tryz.prog w = .ok r w) (h : wpList Tryz.prog ops Q rest (a.put o.dst r) w) : wpList Tryz.prog ops Q (o :: rest) a w :=
  wpList_plain hgd fun _ hK => by
    unfold Oper.wp
    simp only [execOp, ho, Option.map_some, Option.map_none, hs, hx, Sem.run_bind, Sem.run_pure, run_sliceAt_slice w 35 _ _ _ _ Tryz.underlying35, hr, Result.andThen_ok]
    exact hK _ _ h
/-- Told prefixes that can be put behind others. -/
def SrcN (w : World) (v : Value) (m : List Nl) : Prop := (v = .slice none 0 0 ∧ m = []) ∨ ∃ g off cap, v = .slice (some ⟨g, off, none⟩) m.length cap ∧ RowN w g off m
theorem cellsN_app (l m : List Nl) : cellsN (l ++ m) = cellsN l ++ cellsN m := by simp [cellsN]
theorem ownN_len {w : World} {base : Nat} {v : Value} {l : List Nl} (h : OwnN w base v l) : ∃ ad c, v = .slice ad l.length c ∧ l.length ≤ c := by
  obtain ⟨_, ⟨h1, h2⟩ | ⟨g, cap, cur, h, _, _, hc, _⟩⟩ := h
  · exact ⟨none, 0, by rw [h1, h2], by omega⟩
  · exact ⟨_, _, h, hc⟩
theorem wpList_append_runN (w : World) {ops : Array Oper} {rest : List Oper} {o : Oper} {a : Act} {Q : Exit → Act → World → Prop} (hgd : o.guard = none) (s x : Operand) (t : TypeId)
    (ho : o.op = .call { callee := .builtin .append, args := #[s, x], argTypes := #[t, t] }) (v u : Value) (hs : a.eval s = v) (hx : a.eval x = u) {r : Value} {w' : World}
    (hr : (Builtin.append_ #[t, t] o.type #[v, u]).run Tryz.prog w = .ok r w') (h : wpList Tryz.prog ops Q rest (a.put o.dst r) w') : wpList Tryz.prog ops Q (o :: rest) a w :=
  wpList_plain hgd fun _ hK => by
    unfold Oper.wp
    simp only [execOp, ho, resolve, invoke, builtin, Sem.run_bind, Sem.run_pure, Result.andThen_ok, List.map_toArray, List.map_cons, List.map_nil, hs, hx, hr]
    exact hK _ _ h
theorem wpList_append_srcN (w : World) {ops : Array Oper} {rest : List Oper} {o : Oper} {a : Act} {Q : Exit → Act → World → Prop} (hgd : o.guard = none) (s x : Operand)
    (ho : o.op = .call { callee := .builtin .append, args := #[s, x], argTypes := #[35, 35] }) (base : Nat) (v v2 : Value) (l m : List Nl) (hs : a.eval s = v) (hx : a.eval x = v2)
    (h1 : OwnN w base v l) (h2 : SrcN w v2 m) (hlen : l.length + m.length ≤ 100000) (hbase : base ≤ w.heap.size)
    (h : ∀ v' w', OwnN w' base v' (l ++ m) → w.grownBy w' v.ownBlock → wpList Tryz.prog ops Q rest (a.put o.dst v') w') : wpList Tryz.prog ops Q (o :: rest) a w := by
  obtain ⟨i0, hi, hz0, hz1, hz2⟩ := info_parts info27
  have h1' := h1
  rcases h2 with ⟨e, hm⟩ | ⟨g, off, cap, e, hcs⟩
  · subst hm
    subst e
    obtain ⟨ad, c, ev, hle⟩ := ownN_len h1
    rw [ev] at hs h1' h
    have hr := run_append_nothing (P := Tryz.prog) w 35 35 o.type 27 i0 Tryz.underlying35 hi ad l.length c hle (.slice none 0 0) (by rw [hz1]; exact Src.ofNil w Tryz.underlying35 0)
    refine wpList_append_runN w hgd s x 35 ho _ _ hs hx hr (h _ w ?_ (World.grownBy.refl _ _))
    rw [List.append_nil]; exact h1'
  · subst e
    refine wpList_append_own w hgd s x 35 ho base 27 i0 (.agg #[.int .i64 0, .int .u64 0, .string ⟨#[]⟩, .int .i64 0, .int .u32 0, .int .u32 0]) 6 48 Tryz.underlying35 hi hz0 hz1 hz2 rfl (by decide) v l.length (cellsN l) hs h1 ⟨g, off, none⟩ m.length cap (cellsN m) hx (cellsN_len m) hcs.cells (cellsN_one m) (by unfold maxLen; omega) (by omega) hbase ?_
    intro v' w' ho' hg' _
    refine h v' w' ?_ hg'
    unfold OwnN
    rw [cellsN_app, List.length_append]
    exact ho'
theorem ownN_form {w : World} {base : Nat} {v : Value} {l : List Nl} (h : OwnN w base v l) : (v = .slice none 0 0 ∧ l = []) ∨ ∃ g cap, v = .slice (some ⟨g, 0, none⟩) l.length cap ∧ l.length ≤ cap := by
  obtain ⟨_, ⟨h1, h2⟩ | ⟨g, cap, cur, h, _, _, hc, _⟩⟩ := h
  · exact Or.inl ⟨h1, List.length_eq_zero_iff.1 h2⟩
  · exact Or.inr ⟨g, cap, h, hc⟩
theorem src_hN {w : World} {base c : Nat} {ad : Option Addr} {l : List Nl} (h : OwnN w base (.slice ad l.length c) l) (n : Nat) (hn : n ≤ l.length) : SrcN w (sliced ad 0 n c 6) (l.take n) := by
  have hl : (l.take n).length = n := by rw [List.length_take]; omega
  rcases ownN_form h with ⟨e, e2⟩ | ⟨g, cap, e, hc⟩
  · subst e2
    injection e with e1 _ e3
    subst e1 e3
    have : n = 0 := by simpa using hn
    subst this
    exact Or.inl ⟨rfl, rfl⟩
  · injection e with e1 _ e3
    subst e1 e3
    refine Or.inr ⟨g, 0, c, ?_, fun j hj => ?_⟩
    · rw [hl]; simp [sliced, Addr.add]
    · rw [List.getElem_take, Nat.zero_add]
      exact (MemL.own h).cells j (by omega)
theorem src_lN {w : World} {base c : Nat} {ad : Option Addr} {l : List Nl} (h : OwnN w base (.slice ad l.length c) l) (n : Nat) (hn : n ≤ l.length) : SrcN w (sliced ad n l.length c 6) (l.drop n) := by
  have hl : (l.drop n).length = l.length - n := by rw [List.length_drop]
  rcases ownN_form h with ⟨e, e2⟩ | ⟨g, cap, e, hc⟩
  · subst e2
    injection e with e1 _ e3
    subst e1 e3
    have : n = 0 := by simpa using hn
    subst this
    exact Or.inl ⟨rfl, rfl⟩
  · injection e with e1 _ e3
    subst e1 e3
    by_cases hcn : c = n
    · have hd : l.drop n = [] := List.drop_of_length_le (by omega)
      refine Or.inr ⟨g, 0, c - n, ?_, fun j hj => ?_⟩
      · rw [hl]; unfold sliced; rw [if_pos hcn]
      · rw [hd] at hj; simp at hj
    · refine Or.inr ⟨g, n * 6, c - n, ?_, fun j hj => ?_⟩
      · rw [hl]; unfold sliced; rw [if_neg hcn]
        simp only [Option.map_some, Addr.add]
        by_cases h4 : n * 6 = 0 <;> simp [h4]
      · rw [List.getElem_drop, show n * 6 + j * 6 = (n + j) * 6 by omega]
        exact (MemL.own h).cells (n + j) (by omega)
/-- A told prefix in a box. -/
structure BoxN (w : World) (b : Nat) (n : Nl) : Prop where
  c0 : w.cell? ⟨b, 0, none⟩ = some (.int .i64 n.f)
  c1 : w.cell? ⟨b, 1, none⟩ = some (.int .u64 n.r)
  c2 : w.cell? ⟨b, 2, none⟩ = some (.string n.s)
  c3 : w.cell? ⟨b, 3, none⟩ = some (.int .i64 n.l)
  c4 : w.cell? ⟨b, 4, none⟩ = some (.int .u32 n.id)
  c5 : w.cell? ⟨b, 5, none⟩ = some (.int .u32 n.lb)
theorem BoxN.below {w w' : World} {b : Nat} {n : Nl} (h : BoxN w b n) (hb : Below w.heap.size w w') : BoxN w' b n := ⟨cell2 hb h.c0, cell2 hb h.c1, cell2 hb h.c2, cell2 hb h.c3, cell2 hb h.c4, cell2 hb h.c5⟩
theorem BoxN.kept {w w' : World} {b : Nat} {r : Option Nat} {n : Nl} (h : BoxN w b n) (hg : w.grownBy w' r) (hne : some b ≠ r) : BoxN w' b n := ⟨hg.cell h.c0 hne, hg.cell h.c1 hne, hg.cell h.c2 hne, hg.cell h.c3 hne, hg.cell h.c4 hne, hg.cell h.c5 hne⟩
theorem BoxN.new (w : World) (n : Nl) : BoxN (w.alloc (.cells #[.int .i64 n.f, .int .u64 n.r, .string n.s, .int .i64 n.l, .int .u32 n.id, .int .u32 n.lb] 27)) w.heap.size n := ⟨by simp, by simp, by simp, by simp, by simp, by simp⟩
theorem news6N (w : World) (a b c d e f : Value) (t : TypeId) : ∀ (j : Nat) (u : Value), [a, b, c, d, e, f][j]? = some u → (w.alloc (.cells #[a, b, c, d, e, f] t)).cell? (Addr.add ⟨w.heap.size, 0, none⟩ j) = some u := by
  intro j u hj
  rcases j with _ | _ | _ | _ | _ | _ | j
  · simp at hj; subst hj; simp [Addr.add]
  · simp at hj; subst hj; simp [Addr.add]
  · simp at hj; subst hj; simp [Addr.add]
  · simp at hj; subst hj; simp [Addr.add]
  · simp at hj; subst hj; simp [Addr.add]
  · simp at hj; subst hj; simp [Addr.add]
  · simp at hj
end Go.Proofs.YtfhbgpepkplbaaaGreatDoor
set_option linter.unusedSimpArgs false
set_option maxRecDepth 100000
namespace Go.Proofs.YtfhbgpepkplbaaaGreatDoor
open Go.RowKit Go.Sort
def HeldN (S : World → Prop) (w : World) : Prop := S w
set_option maxHeartbeats 8000000 in
theorem rput_any {w : World} {v : Value} {R : List Nl} (h : OwnN w 0 v R) (hord : InOrd R) (n : Nl) (hz : n.s.size ≤ maxLen) (hzs : ∀ m ∈ R, m.s.size ≤ maxLen) (hl : R.length ≤ 1000) :
    Calls Tryz.prog 41 #[v, .agg #[.int .i64 n.f, .int .u64 n.r, .string n.s, .int .i64 n.l, .int .u32 n.id, .int .u32 n.lb]] w fun e w' => ∃ u, e = .returned u ∧ OwnN w' 0 u (insN n R) ∧ Below w.heap.size w w' := by
  obtain ⟨i0, hi, hz0, hz1, hz2⟩ := info_parts info27
  obtain ⟨adr, cr, rfl, hcr⟩ := ownN_len h
  have HOW : Hid (OwnN w 0 (.slice adr R.length cr) R) := h
  have HCR : Hid (R.length ≤ cr) := hcr
  have HL : Hid (R.length ≤ 1000) := hl
  have hlI : (R.length : Int) ≤ 1000 := by omega
  have HPL : Hid (∀ k, k ≤ R.length → (∀ j (hj : j < R.length), k ≤ j → nlt n R[j]) → (k = 0 ∨ ∃ hlt : k - 1 < R.length, nlt (R[k - 1]'hlt) n) → R.take k ++ [n] ++ R.drop k = insN n R) := fun k hk h1 h2 => place_eqN hord k hk h1 h2
  have HIN : Hid (n ∈ R → insN n R = R) := insN_in hord
  have HC : Hid (∀ y ∈ R, ∀ W, Calls Tryz.prog 12 #[.agg #[.int .i64 n.f, .int .u64 n.r, .string n.s, .int .i64 n.l, .int .u32 n.id, .int .u32 n.lb], .agg #[.int .i64 y.f, .int .u64 y.r, .string y.s, .int .i64 y.l, .int .u32 y.id, .int .u32 y.lb]] W fun e w' => e = .returned (.int .i64 (cmpN n y)) ∧ Below W.heap.size W w') := fun y hy W => rncmp_any _ _ _ _ _ _ _ _ _ _ _ _ W hz (hzs y hy)
  generalize insN n R = IN at *
  clear h hz hzs hcr hl hord
  go_enter Tryz.func41, Tryz.ntmps41
  go_wp2
  have HW0' : Hid (OwnN (w.alloc (.cells #[.int .i64 n.f, .int .u64 n.r, .string n.s, .int .i64 n.l, .int .u32 n.id, .int .u32 n.lb] 27)) 0 (.slice adr R.length cr) R ∧ BoxN (w.alloc (.cells #[.int .i64 n.f, .int .u64 n.r, .string n.s, .int .i64 n.l, .int .u32 n.id, .int .u32 n.lb] 27)) w.heap.size n ∧ Below w.heap.size w (w.alloc (.cells #[.int .i64 n.f, .int .u64 n.r, .string n.s, .int .i64 n.l, .int .u32 n.id, .int .u32 n.lb] 27)) ∧ w.heap.size < (w.alloc (.cells #[.int .i64 n.f, .int .u64 n.r, .string n.s, .int .i64 n.l, .int .u32 n.id, .int .u32 n.lb] 27)).heap.size) := ⟨owns_below HOW.out ((Below.refl _ _).alloc (Nat.le_refl _) _), BoxN.new w n, (Below.refl _ _).alloc (Nat.le_refl _) _, by simp⟩
  generalize w.alloc (.cells #[.int .i64 n.f, .int .u64 n.r, .string n.s, .int .i64 n.l, .int .u32 n.id, .int .u32 n.lb] 27) = w0 at *
  have HW0 : Hid (_ ∧ _ ∧ _ ∧ _) := HW0'.out
  clear HW0'
  go_loopw [5] (fun i wr => ∃ k : Nat, k ≤ R.length ∧ i = .int .i64 k ∧ Below w0.heap.size w0 wr ∧ ∀ j (hj : j < R.length), k ≤ j → nlt n R[j]) (fun i _ => (intOf i).toNat)
  case atStart => exact ⟨R.length, Nat.le_refl _, rfl, Below.refl _ _, fun j hj h => absurd hj (by omega)⟩
  case round =>
    obtain ⟨k, hk, rfl, hbel, hall⟩ := hrel
    have HBWr : Hid (Below w0.heap.size w0 wr) := hbel
    have HNL : Hid (k ≤ R.length) := hk
    clear hbel
    by_cases hk0 : k = 0
    · subst hk0
      have HEQ : Hid (_ = IN) := HPL.out 0 (Nat.zero_le _) hall (Or.inl rfl)
      clear hall hk
      go_wp2
      go_quiet (fail)
      go_wp2
      have HBW1 : Hid (Below w0.heap.size w0 (wr.drewN nq)) := ⟨HBWr.out.os, HBWr.out.tape, HBWr.out.output, HBWr.out.size, HBWr.out.block⟩
      generalize wr.drewN nq = wr2 at *
      go_quiet (fail)
      have HBW : Hid (Below w0.heap.size w0 (wr2.drewN nq)) := ⟨HBW1.out.os, HBW1.out.tape, HBW1.out.output, HBW1.out.size, HBW1.out.block⟩
      generalize wr2.drewN nq = w5 at *
      have HO5 : Hid (OwnN w5 0 (.slice adr R.length cr) R ∧ BoxN w5 w.heap.size n ∧ Below w.heap.size w w5 ∧ w.heap.size < w5.heap.size) := ⟨owns_below HW0.out.1 HBW.out, HW0.out.2.1.below HBW.out, HW0.out.2.2.1.trans (HBW.out.mono HW0.out.2.2.1.size), Nat.lt_of_lt_of_le HW0.out.2.2.2 HBW.out.size⟩
      obtain ⟨z1, hz1'⟩ : ∃ z, z = sliced adr 0 0 cr 6 := ⟨_, rfl⟩
      obtain ⟨z2, hz2'⟩ : ∃ z, z = sliced adr 0 R.length cr 6 := ⟨_, rfl⟩
      have HZ1 : Hid (∀ W, (Instr.slice 35 (.slice adr R.length cr) none (some (.int .i64 (0 : Int))) none).run Tryz.prog W = .ok z1 W) := fun W => by rw [hz1']; exact slice_hN W adr R.length cr 0 (by have h1 := HCR.out; have h2 := HNL.out; omega)
      have HZ2 : Hid (∀ W, (Instr.slice 35 (.slice adr R.length cr) (some (.int .i64 (0 : Int))) none none).run Tryz.prog W = .ok z2 W) := fun W => by rw [hz2']; exact slice_lN W adr R.length cr 0 HNL.out
      have HR1 : Hid (∀ W base, OwnN W base (.slice adr R.length cr) R → SrcN W z1 (R.take 0)) := fun W base h => by rw [hz1']; exact src_hN h 0 HNL.out
      have HR2 : Hid (∀ W base, OwnN W base (.slice adr R.length cr) R → SrcN W z2 (R.drop 0)) := fun W base h => by rw [hz2']; exact src_lN h 0 HNL.out
      have HLT : Hid ((R.take 0).length ≤ 1000 ∧ (R.take 0).length + 1 + (R.drop 0).length ≤ 2000) := by
        have h2 := HL.out
        unfold Hid
        rw [List.length_take, List.length_drop]
        omega
      have HRB : Hid (∀ r, Value.ownBlock (.slice adr R.length cr) = some r → r < w.heap.size) := fun r e => (owns_lt HOW.out r e).2
      generalize R.take 0 = R1 at *
      generalize R.drop 0 = R2 at *
      clear hz1' hz2'
      go_wp2_with (first
        | (refine wpList_slice_hN _ rfl _ _ rfl _ _ rfl rfl (HZ1.out _) ?_)
        | (refine wpList_slice_lN _ rfl _ _ rfl _ _ rfl rfl (HZ2.out _) ?_)
        | (at_builtin; refine wpList_append_srcN _ rfl _ _ rfl w5.heap.size (.slice none 0 0) z1 [] R1 rfl rfl (World.ownsRow_nil _ _ _ _) (HR1.out _ _ HO5.out.1) (by have h1 := HLT.out.1; simp; omega) (Nat.le_refl _) ?_
           intro v6 w6 ho6 hg6
           have HP6 : Hid (OwnN w6 0 (.slice adr R.length cr) R ∧ BoxN w6 w.heap.size n ∧ Below w.heap.size w w6) := ⟨owns_heap' HO5.out.1 (fun r e => hg6.block r (owns_lt HO5.out.1 r e).2 (fun e2 => by cases e2)), HO5.out.2.1.kept hg6 (fun e => by cases e), HO5.out.2.2.1.grown hg6 HO5.out.2.2.1.size (fun j e => by cases e)⟩
           obtain ⟨e0, e1, e2', e3, e4, e5⟩ := HP6.out.2.1
           have hs6 := hg6.size)
        | (at_builtin; refine wpList_append_own _ rfl _ _ 35 rfl w5.heap.size 27 i0 (.agg #[.int .i64 0, .int .u64 0, .string ⟨#[]⟩, .int .i64 0, .int .u32 0, .int .u32 0]) 6 48 Tryz.underlying35 hi hz0 hz1 hz2 rfl (by decide) v6 _ _ rfl (World.ownsRow.alloc ho6 _) ⟨w6.heap.size, 0, none⟩ 1 1 [.int .i64 n.f, .int .u64 n.r, .string n.s, .int .i64 n.l, .int .u32 n.id, .int .u32 n.lb] rfl rfl (news6N w6 _ _ _ _ _ _ 27) (csN_one n) (by have h1 := HLT.out.1; unfold maxLen; simp; omega) (by have h1 := HLT.out.1; simp; omega) (Nat.le_trans hs6 (by simp)) ?_
           intro v7 w7 ho7 hg7 _
           have HV6 : Hid (∀ r, v6.ownBlock = some r → w5.heap.size ≤ r) := fun r e => (owns_lt ho6 r e).1
           have HO7 : Hid (OwnN w7 w5.heap.size v7 (R1 ++ [n])) := by
             unfold Hid OwnN; rw [cellsN_snoc, List.length_append]; exact ho7
           have HP7 : Hid (OwnN w7 0 (.slice adr R.length cr) R ∧ Below w.heap.size w w7) := ⟨owns_heap' (owns_below HP6.out.1 ((Below.refl _ _).alloc (Nat.le_refl _) _)) (fun r e => hg7.block r (Nat.lt_of_lt_of_le (owns_lt HP6.out.1 r e).2 (by simp)) (fun e2 => by have h1 := HV6.out r e2.symm; have h2 := HRB.out r e; have h3 := HO5.out.2.2.2; omega)), (HP6.out.2.2.alloc HP6.out.2.2.size _).grown hg7 (HP6.out.2.2.alloc HP6.out.2.2.size _).size (fun j e => by have h1 := HV6.out j e; have h3 := HO5.out.2.2.2; omega)⟩
           have hs7 := hg7.size)
        | (at_builtin; refine wpList_append_srcN _ rfl _ _ rfl w5.heap.size v7 z2 (R1 ++ [n]) R2 rfl rfl HO7.out (HR2.out _ _ HP7.out.1) (by have h1 := HLT.out.2; simp; omega) (Nat.le_trans hs6 (Nat.le_trans (by simp) hs7)) ?_
           intro v8 w8 ho8 hg8
           have HV7 : Hid (∀ r, v7.ownBlock = some r → w5.heap.size ≤ r) := fun r e => (owns_lt HO7.out r e).1
           have HB8 : Hid (Below w.heap.size w w8) := HP7.out.2.grown hg8 HP7.out.2.size (fun j e => by have h1 := HV7.out j e; have h3 := HO5.out.2.2.2; omega))
        | go_in)
      go_ret
      exact ⟨_, rfl, by rw [← HEQ.out]; exact owns_mono ho8 (Nat.zero_le _), HB8.out⟩
    · obtain ⟨m, hkm⟩ : ∃ m, k = m + 1 := ⟨k - 1, by omega⟩
      have hmr : m < R.length := by omega
      have hmI : (m : Int) < (R.length : Int) := by omega
      have hsub : (k : Int) - 1 = (m : Int) := by omega
      have hm0 : (0 : Int) ≤ (m : Int) := by omega
      have hpos : (0 : Int) < (k : Int) := by omega
      have hpos2 : decide (0 < k) = true := by simp; omega
      have hwm : IntKind.i64.wrap (m : Int) = (m : Int) := by simp [IntKind.wrap, IntKind.bits, IntKind.signed]; omega
      have hwk : IntKind.i64.wrap ((k : Int) - 1) = (m : Int) := by rw [hsub]; exact hwm
      have HKM : Hid (k = m + 1 ∧ m + 1 ≤ R.length) := ⟨hkm, by omega⟩
      obtain ⟨g, rfl⟩ : ∃ g, adr = some ⟨g, 0, none⟩ := by
        rcases ownN_form HOW.out with ⟨e, e2⟩ | ⟨g, cap, e, _⟩
        · rw [e2] at hmr; simp at hmr
        · injection e with e _ _
          exact ⟨g, e⟩
      have HRM : Hid (∀ W, Below w0.heap.size w0 W → W.cell? ⟨g, m * 6, none⟩ = some (.int .i64 R[m].f) ∧ W.cell? ⟨g, m * 6 + 1, none⟩ = some (.int .u64 R[m].r) ∧ W.cell? ⟨g, m * 6 + 2, none⟩ = some (.string R[m].s) ∧ W.cell? ⟨g, m * 6 + 3, none⟩ = some (.int .i64 R[m].l) ∧ W.cell? ⟨g, m * 6 + 4, none⟩ = some (.int .u32 R[m].id) ∧ W.cell? ⟨g, m * 6 + 5, none⟩ = some (.int .u32 R[m].lb)) := fun W hb => (MemL.own (owns_below HW0.out.1 hb)).cells m hmr
      have HAH : Hid (∀ W, _) := fun W => HC.out R[m] (List.getElem_mem hmr) W
      have HST : Hid (nlt R[m] n → R.take k ++ [n] ++ R.drop k = IN) := fun h => by
        refine HPL.out k hk hall (Or.inr ⟨by omega, ?_⟩)
        have e : R[k - 1]'(by omega) = R[m] := by congr 1; omega
        rw [e]; exact h
      have HEN : Hid (R[m] = n → IN = R) := fun h => HIN.out (h ▸ List.getElem_mem hmr)
      have HALL : Hid (cmpN n R[m] < 0 → ∀ j (hj : j < R.length), m ≤ j → nlt n R[j]) := fun h j hj hmj => by
        by_cases e : j = m
        · subst e; exact (cmpN_neg _ _).1 h
        · exact hall j hj (by omega)
      have HNO : Hid (¬ cmpN n R[m] < 0 → eqN R[m] n = false → nlt R[m] n) := fun h h2 => by
        have h3 : ¬ nlt n R[m] := fun x => h ((cmpN_neg _ _).2 x)
        by_cases h4 : nlt R[m] n
        · exact h4
        · have := nlt_total h4 h3
          rw [(eqN_iff _ _).2 this] at h2
          cases h2
      generalize R[m] = y at *
      generalize cmpN n y = cc at *
      obtain ⟨y0, y1, y2, y3, y4, y5⟩ := HRM.out wr HBWr.out
      obtain ⟨x0, x1, x2, x3, x4, x5⟩ := HW0.out.2.1.below HBWr.out
      have HK0 : Hid (∀ W W', Below w0.heap.size w0 W → Below W.heap.size W W' → Below w0.heap.size w0 W') := fun W W' h1 h2 => h1.trans (h2.mono h1.size)
      obtain ⟨S, hS⟩ : ∃ S : World → Prop, S = fun W => Below w0.heap.size w0 W := ⟨_, rfl⟩
      have hs0 : HeldN S wr.drew := by unfold HeldN; rw [hS]; exact HBWr.out.drew
      have HSB : Hid (∀ a c, HeldN S a → Below a.heap.size a c → HeldN S c) := fun a c h hb => by unfold HeldN at *; rw [hS] at *; exact HK0.out a c h hb
      have HSO : Hid (∀ a, HeldN S a → Below w0.heap.size w0 a) := fun a h => by unfold HeldN at h; rw [hS] at h; exact h
      have k0 : ∀ a, HeldN S a → a.cell? ⟨g, m * 6, none⟩ = some (.int .i64 y.f) := fun a h => (HRM.out a (HSO.out a h)).1
      have k1 : ∀ a, HeldN S a → a.cell? ⟨g, m * 6 + 1, none⟩ = some (.int .u64 y.r) := fun a h => (HRM.out a (HSO.out a h)).2.1
      have k2 : ∀ a, HeldN S a → a.cell? ⟨g, m * 6 + 2, none⟩ = some (.string y.s) := fun a h => (HRM.out a (HSO.out a h)).2.2.1
      have k3 : ∀ a, HeldN S a → a.cell? ⟨g, m * 6 + 3, none⟩ = some (.int .i64 y.l) := fun a h => (HRM.out a (HSO.out a h)).2.2.2.1
      have k4 : ∀ a, HeldN S a → a.cell? ⟨g, m * 6 + 4, none⟩ = some (.int .u32 y.id) := fun a h => (HRM.out a (HSO.out a h)).2.2.2.2.1
      have k5 : ∀ a, HeldN S a → a.cell? ⟨g, m * 6 + 5, none⟩ = some (.int .u32 y.lb) := fun a h => (HRM.out a (HSO.out a h)).2.2.2.2.2
      have j0 : ∀ a, HeldN S a → a.cell? ⟨w.heap.size, 0, none⟩ = some (.int .i64 n.f) := fun a h => (HW0.out.2.1.below (HSO.out a h)).c0
      have j1 : ∀ a, HeldN S a → a.cell? ⟨w.heap.size, 1, none⟩ = some (.int .u64 n.r) := fun a h => (HW0.out.2.1.below (HSO.out a h)).c1
      have j2 : ∀ a, HeldN S a → a.cell? ⟨w.heap.size, 2, none⟩ = some (.string n.s) := fun a h => (HW0.out.2.1.below (HSO.out a h)).c2
      have j3 : ∀ a, HeldN S a → a.cell? ⟨w.heap.size, 3, none⟩ = some (.int .i64 n.l) := fun a h => (HW0.out.2.1.below (HSO.out a h)).c3
      have j4 : ∀ a, HeldN S a → a.cell? ⟨w.heap.size, 4, none⟩ = some (.int .u32 n.id) := fun a h => (HW0.out.2.1.below (HSO.out a h)).c4
      have j5 : ∀ a, HeldN S a → a.cell? ⟨w.heap.size, 5, none⟩ = some (.int .u32 n.lb) := fun a h => (HW0.out.2.1.below (HSO.out a h)).c5
      clear hS hkm hk0 hall hk x0 x1 x2 x3 x4 x5 y0 y1 y2 y3 y4 y5
      by_cases hcc : cc < 0
      · have HAL : Hid (_ : Prop) := HALL.out hcc
        have hcd : decide (cc < 0) = true := by simpa using hcc
        clear HALL HST HEN HNO
        go_wp2
        go_region_held (fun w' => HeldN S w') (with_reducible assumption)
          (first | (go_at_call 12; refine Calls.mono (HAH.out _) ?_; rintro e wa ⟨rfl, hbA⟩; have hsA := HSB.out _ _ hs0 hbA))
        have HBW : Hid (Below w0.heap.size w0 wa) := HSO.out _ hsA
        clear hbA hsA hs0 HAH HSB HSO k0 k1 k2 k3 k4 k5 j0 j1 j2 j3 j4 j5 HRM
        go_wp2
        go_roundw
        case rel => exact ⟨m, by have := HKM.out; omega, by first | rfl | (rw [hsub]) | go_num, HBW.out, HAL.out⟩
        case measure => have := HKM.out; simp [intOf]; omega
      · have hcd : decide (cc < 0) = false := by simpa using hcc
        have HNO' : Hid (_ → _) := HNO.out hcc
        clear HALL HNO
        go_wp2
        go_region_held (fun w' => HeldN S w') (with_reducible assumption)
          (first | (go_at_call 12; refine Calls.mono (HAH.out _) ?_; rintro e wa ⟨rfl, hbA⟩; have hsA := HSB.out _ _ hs0 hbA))
        have HBWa : Hid (Below w0.heap.size w0 wa) := HSO.out _ hsA
        obtain ⟨y0, y1, y2, y3, y4, y5⟩ := HRM.out wa HBWa.out
        obtain ⟨x0, x1, x2, x3, x4, x5⟩ := HW0.out.2.1.below HBWa.out
        clear hbA hsA hs0 HAH HSB HSO k0 k1 k2 k3 k4 k5 j0 j1 j2 j3 j4 j5 HRM hcc hcd
        rcases nl_cases y n with he | ⟨he, q1⟩ | ⟨he, q1, q2⟩ | ⟨he, q1, q2, q3⟩ | ⟨he, q1, q2, q3, q4⟩ | ⟨he, q1, q2, q3, q4, q5⟩ | ⟨he, q1, q2, q3, q4, q5, q6⟩
        · have HEN' : Hid (IN = R) := HEN.out he
          subst he
          go_wp2
          go_quiet (fail)
          go_wp2
          go_ret
          exact ⟨_, rfl, by rw [HEN'.out]; exact owns_below HOW.out (HW0.out.2.2.1.trans (Below.mono ⟨HBWa.out.os, HBWa.out.tape, HBWa.out.output, HBWa.out.size, HBWa.out.block⟩ HW0.out.2.2.1.size)), HW0.out.2.2.1.trans (Below.mono ⟨HBWa.out.os, HBWa.out.tape, HBWa.out.output, HBWa.out.size, HBWa.out.block⟩ HW0.out.2.2.1.size)⟩
        all_goals
          have HEQ : Hid (_ = IN) := HST.out (HNO'.out he)
          clear HST HNO' HEN he
          go_wp2
          go_quiet (fail)
          (try clear q1)
          (try clear q2)
          (try clear q3)
          (try clear q4)
          (try clear q5)
          (try clear q6)
          have HBW : Hid (Below w0.heap.size w0 (wa.drewN nq)) := ⟨HBWa.out.os, HBWa.out.tape, HBWa.out.output, HBWa.out.size, HBWa.out.block⟩
          clear x0 x1 x2 x3 x4 x5 y0 y1 y2 y3 y4 y5 hpos hpos2 hsub hwk hwm
          generalize wa.drewN nq = w5 at *
          have HO5 : Hid (OwnN w5 0 (.slice (some ⟨g, 0, none⟩) R.length cr) R ∧ BoxN w5 w.heap.size n ∧ Below w.heap.size w w5 ∧ w.heap.size < w5.heap.size) := ⟨owns_below HW0.out.1 HBW.out, HW0.out.2.1.below HBW.out, HW0.out.2.2.1.trans (HBW.out.mono HW0.out.2.2.1.size), Nat.lt_of_lt_of_le HW0.out.2.2.2 HBW.out.size⟩
          obtain ⟨z1, hz1'⟩ : ∃ z, z = sliced (some ⟨g, 0, none⟩) 0 k cr 6 := ⟨_, rfl⟩
          obtain ⟨z2, hz2'⟩ : ∃ z, z = sliced (some ⟨g, 0, none⟩) k R.length cr 6 := ⟨_, rfl⟩
          have HZ1 : Hid (∀ W, (Instr.slice 35 (.slice (some ⟨g, 0, none⟩) R.length cr) none (some (.int .i64 (k : Int))) none).run Tryz.prog W = .ok z1 W) := fun W => by rw [hz1']; exact slice_hN W (some ⟨g, 0, none⟩) R.length cr k (by have h1 := HCR.out; have h2 := HNL.out; omega)
          have HZ2 : Hid (∀ W, (Instr.slice 35 (.slice (some ⟨g, 0, none⟩) R.length cr) (some (.int .i64 (k : Int))) none none).run Tryz.prog W = .ok z2 W) := fun W => by rw [hz2']; exact slice_lN W (some ⟨g, 0, none⟩) R.length cr k HNL.out
          have HR1 : Hid (∀ W base, OwnN W base (.slice (some ⟨g, 0, none⟩) R.length cr) R → SrcN W z1 (R.take k)) := fun W base h => by rw [hz1']; exact src_hN h k HNL.out
          have HR2 : Hid (∀ W base, OwnN W base (.slice (some ⟨g, 0, none⟩) R.length cr) R → SrcN W z2 (R.drop k)) := fun W base h => by rw [hz2']; exact src_lN h k HNL.out
          have HLT : Hid ((R.take k).length ≤ 1000 ∧ (R.take k).length + 1 + (R.drop k).length ≤ 2000) := by
            have h2 := HL.out
            unfold Hid
            rw [List.length_take, List.length_drop]
            omega
          have HRB : Hid (∀ r, Value.ownBlock (.slice (some ⟨g, 0, none⟩) R.length cr) = some r → r < w.heap.size) := fun r e => (owns_lt HOW.out r e).2
          generalize R.take k = R1 at *
          generalize R.drop k = R2 at *
          clear hz1' hz2'
          go_wp2_with (first
            | (refine wpList_slice_hN _ rfl _ _ rfl _ _ rfl rfl (HZ1.out _) ?_)
            | (refine wpList_slice_lN _ rfl _ _ rfl _ _ rfl rfl (HZ2.out _) ?_)
            | (at_builtin; refine wpList_append_srcN _ rfl _ _ rfl w5.heap.size (.slice none 0 0) z1 [] R1 rfl rfl (World.ownsRow_nil _ _ _ _) (HR1.out _ _ HO5.out.1) (by have h1 := HLT.out.1; simp; omega) (Nat.le_refl _) ?_
               intro v6 w6 ho6 hg6
               have HP6 : Hid (OwnN w6 0 (.slice (some ⟨g, 0, none⟩) R.length cr) R ∧ BoxN w6 w.heap.size n ∧ Below w.heap.size w w6) := ⟨owns_heap' HO5.out.1 (fun r e => hg6.block r (owns_lt HO5.out.1 r e).2 (fun e2 => by cases e2)), HO5.out.2.1.kept hg6 (fun e => by cases e), HO5.out.2.2.1.grown hg6 HO5.out.2.2.1.size (fun j e => by cases e)⟩
               obtain ⟨e0, e1, e2', e3, e4, e5⟩ := HP6.out.2.1
               have hs6 := hg6.size)
            | (at_builtin; refine wpList_append_own _ rfl _ _ 35 rfl w5.heap.size 27 i0 (.agg #[.int .i64 0, .int .u64 0, .string ⟨#[]⟩, .int .i64 0, .int .u32 0, .int .u32 0]) 6 48 Tryz.underlying35 hi hz0 hz1 hz2 rfl (by decide) v6 _ _ rfl (World.ownsRow.alloc ho6 _) ⟨w6.heap.size, 0, none⟩ 1 1 [.int .i64 n.f, .int .u64 n.r, .string n.s, .int .i64 n.l, .int .u32 n.id, .int .u32 n.lb] rfl rfl (news6N w6 _ _ _ _ _ _ 27) (csN_one n) (by have h1 := HLT.out.1; unfold maxLen; simp; omega) (by have h1 := HLT.out.1; simp; omega) (Nat.le_trans hs6 (by simp)) ?_
               intro v7 w7 ho7 hg7 _
               have HV6 : Hid (∀ r, v6.ownBlock = some r → w5.heap.size ≤ r) := fun r e => (owns_lt ho6 r e).1
               have HO7 : Hid (OwnN w7 w5.heap.size v7 (R1 ++ [n])) := by
                 unfold Hid OwnN; rw [cellsN_snoc, List.length_append]; exact ho7
               have HP7 : Hid (OwnN w7 0 (.slice (some ⟨g, 0, none⟩) R.length cr) R ∧ Below w.heap.size w w7) := ⟨owns_heap' (owns_below HP6.out.1 ((Below.refl _ _).alloc (Nat.le_refl _) _)) (fun r e => hg7.block r (Nat.lt_of_lt_of_le (owns_lt HP6.out.1 r e).2 (by simp)) (fun e2 => by have h1 := HV6.out r e2.symm; have h2 := HRB.out r e; have h3 := HO5.out.2.2.2; omega)), (HP6.out.2.2.alloc HP6.out.2.2.size _).grown hg7 (HP6.out.2.2.alloc HP6.out.2.2.size _).size (fun j e => by have h1 := HV6.out j e; have h3 := HO5.out.2.2.2; omega)⟩
               have hs7 := hg7.size)
            | (at_builtin; refine wpList_append_srcN _ rfl _ _ rfl w5.heap.size v7 z2 (R1 ++ [n]) R2 rfl rfl HO7.out (HR2.out _ _ HP7.out.1) (by have h1 := HLT.out.2; simp; omega) (Nat.le_trans hs6 (Nat.le_trans (by simp) hs7)) ?_
               intro v8 w8 ho8 hg8
               have HV7 : Hid (∀ r, v7.ownBlock = some r → w5.heap.size ≤ r) := fun r e => (owns_lt HO7.out r e).1
               have HB8 : Hid (Below w.heap.size w w8) := HP7.out.2.grown hg8 HP7.out.2.size (fun j e => by have h1 := HV7.out j e; have h3 := HO5.out.2.2.2; omega))
            | go_in)
          go_ret
          exact ⟨_, rfl, by rw [← HEQ.out]; exact owns_mono ho8 (Nat.zero_le _), HB8.out⟩
end Go.Proofs.YtfhbgpepkplbaaaGreatDoor
