/-
  Rows of conditions, actions and terms of one's own.
-/
import Derived.Test.YthaebbmekonacaaGreatDoorD1
import Derived.Test.YthaebbmekonacaaGreatDoorV1
set_option linter.unusedVariables false
set_option linter.unusedSimpArgs false
set_option maxRecDepth 100000
namespace Go.Proofs.YthaebbmekonacaaGreatDoor
open Go.RowKit
def cellsCd (l : List Cd) : List Value := l.flatMap fun (a : Cd) => [.int .i64 a.k, .bool a.nt, .string a.nm, .int .i64 a.n]
def OwnCd (w : World) (base : Nat) (v : Value) (l : List Cd) : Prop := w.ownsRow base 37 4 v l.length (cellsCd l)
theorem infoCd : (Tryz.prog.info? 37).map (fun i => (i.zero, i.size, i.bytes)) = some (some (.agg #[.int .i64 0, .bool false, .string ⟨#[]⟩, .int .i64 0]), 4, 40) := by kernel_rfl
theorem cellsCd_len (l : List Cd) : (cellsCd l).length = l.length * 4 := by
  induction l with
  | nil => rfl
  | cons a r ih => simp [cellsCd] at *; omega
theorem cellsCd_one (l : List Cd) : ∀ u ∈ cellsCd l, u.oneCell' = true := by
  intro u hu
  obtain ⟨x, _, hx⟩ := List.mem_flatMap.1 hu
  simp at hx
  rcases hx with h | h | h | h <;> subst h <;> rfl
theorem cellsCd_app (l m : List Cd) : cellsCd (l ++ m) = cellsCd l ++ cellsCd m := by simp [cellsCd]
theorem cellsCd_at (l : List Cd) : ∀ (k : Nat) (hk : k < l.length), (cellsCd l)[k * 4]? = some (.int .i64 l[k].k) ∧ (cellsCd l)[k * 4 + 1]? = some (.bool l[k].nt) ∧ (cellsCd l)[k * 4 + 2]? = some (.string l[k].nm) ∧ (cellsCd l)[k * 4 + 3]? = some (.int .i64 l[k].n) := by
  induction l with
  | nil => intro k hk; simp at hk
  | cons a r ih =>
    intro k hk
    have e : cellsCd (a :: r) = [.int .i64 a.k, .bool a.nt, .string a.nm, .int .i64 a.n] ++ cellsCd r := by simp [cellsCd]
    cases k with
    | zero => rw [e]; exact ⟨rfl, rfl, rfl, rfl⟩
    | succ k =>
      have := ih k (by simpa using hk)
      rw [e]
      refine ⟨?_, ?_, ?_, ?_⟩
      · rw [List.getElem?_append_right (by simp; omega), show (k + 1) * 4 - [(.int .i64 a.k : Value), (.bool a.nt : Value), (.string a.nm : Value), (.int .i64 a.n : Value)].length = k * 4 by simp; omega]; exact this.1
      · rw [List.getElem?_append_right (by simp; omega), show (k + 1) * 4 + 1 - [(.int .i64 a.k : Value), (.bool a.nt : Value), (.string a.nm : Value), (.int .i64 a.n : Value)].length = k * 4 + 1 by simp; omega]; exact this.2.1
      · rw [List.getElem?_append_right (by simp; omega), show (k + 1) * 4 + 2 - [(.int .i64 a.k : Value), (.bool a.nt : Value), (.string a.nm : Value), (.int .i64 a.n : Value)].length = k * 4 + 2 by simp; omega]; exact this.2.2.1
      · rw [List.getElem?_append_right (by simp; omega), show (k + 1) * 4 + 3 - [(.int .i64 a.k : Value), (.bool a.nt : Value), (.string a.nm : Value), (.int .i64 a.n : Value)].length = k * 4 + 3 by simp; omega]; exact this.2.2.2
theorem OwnCd.at {w : World} {base : Nat} {v : Value} {l : List Cd} (h : OwnCd w base v l) : CdAt w v l := by
  obtain ⟨_, ⟨h1, h2⟩ | ⟨g, cap, cur, e, _, _, hc, _⟩⟩ := id h
  · exact ⟨none, 0, 0, 0, by rw [h1, h2], Or.inr h2, by omega, fun j hj => by omega⟩
  · subst e
    refine ⟨_, g, 0, cap, rfl, Or.inl rfl, hc, fun j hj => ?_⟩
    have d := cellsCd_at l j hj
    rw [show 0 + j * 4 = j * 4 by omega, own_cell h (j * 4) (by omega), own_cell h (j * 4 + 1) (by omega), own_cell h (j * 4 + 2) (by omega), own_cell h (j * 4 + 3) (by omega)]
    exact d
theorem srcCd {w : World} {g off : Nat} {m : List Cd} (h : ∀ j (h : j < m.length), w.cell? ⟨g, off + j * 4, none⟩ = some (.int .i64 m[j].k) ∧ w.cell? ⟨g, off + j * 4 + 1, none⟩ = some (.bool m[j].nt) ∧ w.cell? ⟨g, off + j * 4 + 2, none⟩ = some (.string m[j].nm) ∧ w.cell? ⟨g, off + j * 4 + 3, none⟩ = some (.int .i64 m[j].n)) (j : Nat) (u : Value) (hj : (cellsCd m)[j]? = some u) : w.cell? (Addr.add ⟨g, off, none⟩ j) = some u := by
  have hjl : j < m.length * 4 := by rw [← cellsCd_len]; exact (List.getElem?_eq_some_iff.1 hj).1
  rw [add_off]
  have hk : j / 4 < m.length := by omega
  obtain ⟨c0, c1, c2, c3⟩ := h (j / 4) hk
  obtain ⟨d0, d1, d2, d3⟩ := cellsCd_at m (j / 4) hk
  have h4 : j % 4 = 0 ∨ j % 4 = 1 ∨ j % 4 = 2 ∨ j % 4 = 3 := by omega
  rcases h4 with h4 | h4 | h4 | h4
  · have e : j = j / 4 * 4 := by omega
    rw [e] at hj; rw [d0] at hj; rw [e, c0]; exact hj
  · have e : j = j / 4 * 4 + 1 := by omega
    rw [e] at hj; rw [d1] at hj; rw [e, ← Nat.add_assoc, c1]; exact hj
  · have e : j = j / 4 * 4 + 2 := by omega
    rw [e] at hj; rw [d2] at hj; rw [e, ← Nat.add_assoc, c2]; exact hj
  · have e : j = j / 4 * 4 + 3 := by omega
    rw [e] at hj; rw [d3] at hj; rw [e, ← Nat.add_assoc, c3]; exact hj
/-- A slice's are put behind others. -/
theorem wpList_append_Cd (w : World) {ops : Array Oper} {rest : List Oper} {o : Oper} {a : Act} {Q : Exit → Act → World → Prop} (hgd : o.guard = none) (s x : Operand)
    (ho : o.op = .call { callee := .builtin .append, args := #[s, x], argTypes := #[60, 60] }) (base : Nat) (v v2 : Value) (l m : List Cd) (hs : a.eval s = v) (hx : a.eval x = v2)
    (h1 : OwnCd w base v l) (h2 : CdAt w v2 m) (hlen : (l.length + m.length) * 40 ≤ 140737488355328) (hbase : base ≤ w.heap.size)
    (h : ∀ v' w', OwnCd w' base v' (l ++ m) → Below base w w' → wpList Tryz.prog ops Q rest (a.put o.dst v') w') : wpList Tryz.prog ops Q (o :: rest) a w := by
  obtain ⟨i0, hi, hz0, hz1, hz2⟩ := info_parts infoCd
  have h1' := h1
  obtain ⟨ad2, g, off, cap, e, had, hc, hcs⟩ := h2
  subst e
  by_cases hm : m = []
  · subst hm
    obtain ⟨ad, c, ev, hle⟩ := own_len h1
    rw [ev] at hs h1'
    have hr := run_append_nothing (P := Tryz.prog) w 60 60 o.type 37 i0 Tryz.underlying60 hi ad l.length c hle (.slice ad2 0 cap) (by rw [hz1]; exact src_none w Tryz.underlying60 ad2 cap)
    refine wpList_append_run w hgd s x 60 ho _ _ hs hx hr (h _ w ?_ (Below.refl _ _))
    rw [List.append_nil]; exact h1'
  · have hm0 : 0 < m.length := List.length_pos_iff.2 hm
    obtain rfl : ad2 = some ⟨g, off, none⟩ := by
      rcases had with e | e
      · exact e
      · omega
    refine wpList_append_own w hgd s x 60 ho base 37 i0 (.agg #[.int .i64 0, .bool false, .string ⟨#[]⟩, .int .i64 0]) 4 40 Tryz.underlying60 hi hz0 hz1 hz2 rfl (by decide) v l.length (cellsCd l) hs h1 ⟨g, off, none⟩ m.length cap (cellsCd m) hx (cellsCd_len m) (fun j u hj => srcCd hcs j u hj) (cellsCd_one m) (by unfold maxLen; omega) (by omega) hbase ?_
    intro v' w' ho' hg' _
    refine h v' w' ?_ (below_own h1 hg' hbase)
    unfold OwnCd
    rw [cellsCd_app, List.length_append]
    exact ho'
theorem OwnCd.nil (w : World) (base : Nat) : OwnCd w base (.slice none 0 0) [] := ⟨rfl, Or.inl ⟨rfl, rfl⟩⟩
theorem OwnCd.below {w w' : World} {base : Nat} {v : Value} {l : List Cd} (h : OwnCd w base v l) (hb : Below w.heap.size w w') : OwnCd w' base v l := owns_below h hb
def cellsAc (l : List Ac) : List Value := l.flatMap fun (a : Ac) => [.int .i64 a.k, .string a.nm, .int .u32 (a.n : Int), .string a.ad]
def OwnAc (w : World) (base : Nat) (v : Value) (l : List Ac) : Prop := w.ownsRow base 40 4 v l.length (cellsAc l)
theorem infoAc : (Tryz.prog.info? 40).map (fun i => (i.zero, i.size, i.bytes)) = some (some (.agg #[.int .i64 0, .string ⟨#[]⟩, .int .u32 0, .string ⟨#[]⟩]), 4, 48) := by kernel_rfl
theorem cellsAc_len (l : List Ac) : (cellsAc l).length = l.length * 4 := by
  induction l with
  | nil => rfl
  | cons a r ih => simp [cellsAc] at *; omega
theorem cellsAc_one (l : List Ac) : ∀ u ∈ cellsAc l, u.oneCell' = true := by
  intro u hu
  obtain ⟨x, _, hx⟩ := List.mem_flatMap.1 hu
  simp at hx
  rcases hx with h | h | h | h <;> subst h <;> rfl
theorem cellsAc_app (l m : List Ac) : cellsAc (l ++ m) = cellsAc l ++ cellsAc m := by simp [cellsAc]
theorem cellsAc_at (l : List Ac) : ∀ (k : Nat) (hk : k < l.length), (cellsAc l)[k * 4]? = some (.int .i64 l[k].k) ∧ (cellsAc l)[k * 4 + 1]? = some (.string l[k].nm) ∧ (cellsAc l)[k * 4 + 2]? = some (.int .u32 (l[k].n : Int)) ∧ (cellsAc l)[k * 4 + 3]? = some (.string l[k].ad) := by
  induction l with
  | nil => intro k hk; simp at hk
  | cons a r ih =>
    intro k hk
    have e : cellsAc (a :: r) = [.int .i64 a.k, .string a.nm, .int .u32 (a.n : Int), .string a.ad] ++ cellsAc r := by simp [cellsAc]
    cases k with
    | zero => rw [e]; exact ⟨rfl, rfl, rfl, rfl⟩
    | succ k =>
      have := ih k (by simpa using hk)
      rw [e]
      refine ⟨?_, ?_, ?_, ?_⟩
      · rw [List.getElem?_append_right (by simp; omega), show (k + 1) * 4 - [(.int .i64 a.k : Value), (.string a.nm : Value), (.int .u32 (a.n : Int) : Value), (.string a.ad : Value)].length = k * 4 by simp; omega]; exact this.1
      · rw [List.getElem?_append_right (by simp; omega), show (k + 1) * 4 + 1 - [(.int .i64 a.k : Value), (.string a.nm : Value), (.int .u32 (a.n : Int) : Value), (.string a.ad : Value)].length = k * 4 + 1 by simp; omega]; exact this.2.1
      · rw [List.getElem?_append_right (by simp; omega), show (k + 1) * 4 + 2 - [(.int .i64 a.k : Value), (.string a.nm : Value), (.int .u32 (a.n : Int) : Value), (.string a.ad : Value)].length = k * 4 + 2 by simp; omega]; exact this.2.2.1
      · rw [List.getElem?_append_right (by simp; omega), show (k + 1) * 4 + 3 - [(.int .i64 a.k : Value), (.string a.nm : Value), (.int .u32 (a.n : Int) : Value), (.string a.ad : Value)].length = k * 4 + 3 by simp; omega]; exact this.2.2.2
theorem OwnAc.at {w : World} {base : Nat} {v : Value} {l : List Ac} (h : OwnAc w base v l) : AcAt w v l := by
  obtain ⟨_, ⟨h1, h2⟩ | ⟨g, cap, cur, e, _, _, hc, _⟩⟩ := id h
  · exact ⟨none, 0, 0, 0, by rw [h1, h2], Or.inr h2, by omega, fun j hj => by omega⟩
  · subst e
    refine ⟨_, g, 0, cap, rfl, Or.inl rfl, hc, fun j hj => ?_⟩
    have d := cellsAc_at l j hj
    rw [show 0 + j * 4 = j * 4 by omega, own_cell h (j * 4) (by omega), own_cell h (j * 4 + 1) (by omega), own_cell h (j * 4 + 2) (by omega), own_cell h (j * 4 + 3) (by omega)]
    exact d
theorem srcAc {w : World} {g off : Nat} {m : List Ac} (h : ∀ j (h : j < m.length), w.cell? ⟨g, off + j * 4, none⟩ = some (.int .i64 m[j].k) ∧ w.cell? ⟨g, off + j * 4 + 1, none⟩ = some (.string m[j].nm) ∧ w.cell? ⟨g, off + j * 4 + 2, none⟩ = some (.int .u32 (m[j].n : Int)) ∧ w.cell? ⟨g, off + j * 4 + 3, none⟩ = some (.string m[j].ad)) (j : Nat) (u : Value) (hj : (cellsAc m)[j]? = some u) : w.cell? (Addr.add ⟨g, off, none⟩ j) = some u := by
  have hjl : j < m.length * 4 := by rw [← cellsAc_len]; exact (List.getElem?_eq_some_iff.1 hj).1
  rw [add_off]
  have hk : j / 4 < m.length := by omega
  obtain ⟨c0, c1, c2, c3⟩ := h (j / 4) hk
  obtain ⟨d0, d1, d2, d3⟩ := cellsAc_at m (j / 4) hk
  have h4 : j % 4 = 0 ∨ j % 4 = 1 ∨ j % 4 = 2 ∨ j % 4 = 3 := by omega
  rcases h4 with h4 | h4 | h4 | h4
  · have e : j = j / 4 * 4 := by omega
    rw [e] at hj; rw [d0] at hj; rw [e, c0]; exact hj
  · have e : j = j / 4 * 4 + 1 := by omega
    rw [e] at hj; rw [d1] at hj; rw [e, ← Nat.add_assoc, c1]; exact hj
  · have e : j = j / 4 * 4 + 2 := by omega
    rw [e] at hj; rw [d2] at hj; rw [e, ← Nat.add_assoc, c2]; exact hj
  · have e : j = j / 4 * 4 + 3 := by omega
    rw [e] at hj; rw [d3] at hj; rw [e, ← Nat.add_assoc, c3]; exact hj
/-- A slice's are put behind others. -/
theorem wpList_append_Ac (w : World) {ops : Array Oper} {rest : List Oper} {o : Oper} {a : Act} {Q : Exit → Act → World → Prop} (hgd : o.guard = none) (s x : Operand)
    (ho : o.op = .call { callee := .builtin .append, args := #[s, x], argTypes := #[61, 61] }) (base : Nat) (v v2 : Value) (l m : List Ac) (hs : a.eval s = v) (hx : a.eval x = v2)
    (h1 : OwnAc w base v l) (h2 : AcAt w v2 m) (hlen : (l.length + m.length) * 48 ≤ 140737488355328) (hbase : base ≤ w.heap.size)
    (h : ∀ v' w', OwnAc w' base v' (l ++ m) → Below base w w' → wpList Tryz.prog ops Q rest (a.put o.dst v') w') : wpList Tryz.prog ops Q (o :: rest) a w := by
  obtain ⟨i0, hi, hz0, hz1, hz2⟩ := info_parts infoAc
  have h1' := h1
  obtain ⟨ad2, g, off, cap, e, had, hc, hcs⟩ := h2
  subst e
  by_cases hm : m = []
  · subst hm
    obtain ⟨ad, c, ev, hle⟩ := own_len h1
    rw [ev] at hs h1'
    have hr := run_append_nothing (P := Tryz.prog) w 61 61 o.type 40 i0 Tryz.underlying61 hi ad l.length c hle (.slice ad2 0 cap) (by rw [hz1]; exact src_none w Tryz.underlying61 ad2 cap)
    refine wpList_append_run w hgd s x 61 ho _ _ hs hx hr (h _ w ?_ (Below.refl _ _))
    rw [List.append_nil]; exact h1'
  · have hm0 : 0 < m.length := List.length_pos_iff.2 hm
    obtain rfl : ad2 = some ⟨g, off, none⟩ := by
      rcases had with e | e
      · exact e
      · omega
    refine wpList_append_own w hgd s x 61 ho base 40 i0 (.agg #[.int .i64 0, .string ⟨#[]⟩, .int .u32 0, .string ⟨#[]⟩]) 4 48 Tryz.underlying61 hi hz0 hz1 hz2 rfl (by decide) v l.length (cellsAc l) hs h1 ⟨g, off, none⟩ m.length cap (cellsAc m) hx (cellsAc_len m) (fun j u hj => srcAc hcs j u hj) (cellsAc_one m) (by unfold maxLen; omega) (by omega) hbase ?_
    intro v' w' ho' hg' _
    refine h v' w' ?_ (below_own h1 hg' hbase)
    unfold OwnAc
    rw [cellsAc_app, List.length_append]
    exact ho'
theorem OwnAc.nil (w : World) (base : Nat) : OwnAc w base (.slice none 0 0) [] := ⟨rfl, Or.inl ⟨rfl, rfl⟩⟩
theorem OwnAc.below {w w' : World} {base : Nat} {v : Value} {l : List Ac} (h : OwnAc w base v l) (hb : Below w.heap.size w w') : OwnAc w' base v l := owns_below h hb
/-- The two slices of a term. -/
structure Tv where
  a : Option Addr
  n : Nat
  c : Nat
  b : Option Addr
  m : Nat
  d : Nat
def TvAt (w : World) (v : Value) (L : List Tv) : Prop :=
  ∃ (ad : Option Addr) (b off cap : Nat), v = .slice ad L.length cap ∧ (ad = some ⟨b, off, none⟩ ∨ L.length = 0) ∧ L.length ≤ cap ∧ ∀ j (h : j < L.length), w.cell? ⟨b, off + j * 2, none⟩ = some (.slice L[j].a L[j].n L[j].c) ∧ w.cell? ⟨b, off + j * 2 + 1, none⟩ = some (.slice L[j].b L[j].m L[j].d)
def cellsTv (l : List Tv) : List Value := l.flatMap fun (a : Tv) => [.slice a.a a.n a.c, .slice a.b a.m a.d]
def OwnTv (w : World) (base : Nat) (v : Value) (l : List Tv) : Prop := w.ownsRow base 63 2 v l.length (cellsTv l)
theorem infoTv : (Tryz.prog.info? 63).map (fun i => (i.zero, i.size, i.bytes)) = some (some (.agg #[.slice none 0 0, .slice none 0 0]), 2, 48) := by kernel_rfl
theorem cellsTv_len (l : List Tv) : (cellsTv l).length = l.length * 2 := by
  induction l with
  | nil => rfl
  | cons a r ih => simp [cellsTv] at *; omega
theorem cellsTv_one (l : List Tv) : ∀ u ∈ cellsTv l, u.oneCell' = true := by
  intro u hu
  obtain ⟨x, _, hx⟩ := List.mem_flatMap.1 hu
  simp at hx
  rcases hx with h | h <;> subst h <;> rfl
theorem cellsTv_app (l m : List Tv) : cellsTv (l ++ m) = cellsTv l ++ cellsTv m := by simp [cellsTv]
theorem cellsTv_at (l : List Tv) : ∀ (k : Nat) (hk : k < l.length), (cellsTv l)[k * 2]? = some (.slice l[k].a l[k].n l[k].c) ∧ (cellsTv l)[k * 2 + 1]? = some (.slice l[k].b l[k].m l[k].d) := by
  induction l with
  | nil => intro k hk; simp at hk
  | cons a r ih =>
    intro k hk
    have e : cellsTv (a :: r) = [.slice a.a a.n a.c, .slice a.b a.m a.d] ++ cellsTv r := by simp [cellsTv]
    cases k with
    | zero => rw [e]; exact ⟨rfl, rfl⟩
    | succ k =>
      have := ih k (by simpa using hk)
      rw [e]
      refine ⟨?_, ?_⟩
      · rw [List.getElem?_append_right (by simp; omega), show (k + 1) * 2 - [(.slice a.a a.n a.c : Value), (.slice a.b a.m a.d : Value)].length = k * 2 by simp; omega]; exact this.1
      · rw [List.getElem?_append_right (by simp; omega), show (k + 1) * 2 + 1 - [(.slice a.a a.n a.c : Value), (.slice a.b a.m a.d : Value)].length = k * 2 + 1 by simp; omega]; exact this.2
theorem OwnTv.at {w : World} {base : Nat} {v : Value} {l : List Tv} (h : OwnTv w base v l) : TvAt w v l := by
  obtain ⟨_, ⟨h1, h2⟩ | ⟨g, cap, cur, e, _, _, hc, _⟩⟩ := id h
  · exact ⟨none, 0, 0, 0, by rw [h1, h2], Or.inr h2, by omega, fun j hj => by omega⟩
  · subst e
    refine ⟨_, g, 0, cap, rfl, Or.inl rfl, hc, fun j hj => ?_⟩
    have d := cellsTv_at l j hj
    rw [show 0 + j * 2 = j * 2 by omega, own_cell h (j * 2) (by omega), own_cell h (j * 2 + 1) (by omega)]
    exact d
theorem srcTv {w : World} {g off : Nat} {m : List Tv} (h : ∀ j (h : j < m.length), w.cell? ⟨g, off + j * 2, none⟩ = some (.slice m[j].a m[j].n m[j].c) ∧ w.cell? ⟨g, off + j * 2 + 1, none⟩ = some (.slice m[j].b m[j].m m[j].d)) (j : Nat) (u : Value) (hj : (cellsTv m)[j]? = some u) : w.cell? (Addr.add ⟨g, off, none⟩ j) = some u := by
  have hjl : j < m.length * 2 := by rw [← cellsTv_len]; exact (List.getElem?_eq_some_iff.1 hj).1
  rw [add_off]
  have hk : j / 2 < m.length := by omega
  obtain ⟨c0, c1⟩ := h (j / 2) hk
  obtain ⟨d0, d1⟩ := cellsTv_at m (j / 2) hk
  have h4 : j % 2 = 0 ∨ j % 2 = 1 := by omega
  rcases h4 with h4 | h4
  · have e : j = j / 2 * 2 := by omega
    rw [e] at hj; rw [d0] at hj; rw [e, c0]; exact hj
  · have e : j = j / 2 * 2 + 1 := by omega
    rw [e] at hj; rw [d1] at hj; rw [e, ← Nat.add_assoc, c1]; exact hj
/-- A slice's are put behind others. -/
theorem wpList_append_Tv (w : World) {ops : Array Oper} {rest : List Oper} {o : Oper} {a : Act} {Q : Exit → Act → World → Prop} (hgd : o.guard = none) (s x : Operand)
    (ho : o.op = .call { callee := .builtin .append, args := #[s, x], argTypes := #[22, 22] }) (base : Nat) (v v2 : Value) (l m : List Tv) (hs : a.eval s = v) (hx : a.eval x = v2)
    (h1 : OwnTv w base v l) (h2 : TvAt w v2 m) (hlen : (l.length + m.length) * 48 ≤ 140737488355328) (hbase : base ≤ w.heap.size)
    (hmn : m ≠ []) (h : ∀ v' w', OwnTv w' base v' (l ++ m) → Below base w w' → w.grownBy w' v.ownBlock → wpList Tryz.prog ops Q rest (a.put o.dst v') w') : wpList Tryz.prog ops Q (o :: rest) a w := by
  obtain ⟨i0, hi, hz0, hz1, hz2⟩ := info_parts infoTv
  have h1' := h1
  obtain ⟨ad2, g, off, cap, e, had, hc, hcs⟩ := h2
  subst e
  · have hm : m ≠ [] := hmn
    have hm0 : 0 < m.length := List.length_pos_iff.2 hm
    obtain rfl : ad2 = some ⟨g, off, none⟩ := by
      rcases had with e | e
      · exact e
      · omega
    refine wpList_append_own w hgd s x 22 ho base 63 i0 (.agg #[.slice none 0 0, .slice none 0 0]) 2 48 Tryz.underlying22 hi hz0 hz1 hz2 rfl (by decide) v l.length (cellsTv l) hs h1 ⟨g, off, none⟩ m.length cap (cellsTv m) hx (cellsTv_len m) (fun j u hj => srcTv hcs j u hj) (cellsTv_one m) (by unfold maxLen; omega) (by omega) hbase ?_
    intro v' w' ho' hg' _
    refine h v' w' ?_ (below_own h1 hg' hbase) hg'
    unfold OwnTv
    rw [cellsTv_app, List.length_append]
    exact ho'
theorem OwnTv.nil (w : World) (base : Nat) : OwnTv w base (.slice none 0 0) [] := ⟨rfl, Or.inl ⟨rfl, rfl⟩⟩
theorem OwnTv.below {w w' : World} {base : Nat} {v : Value} {l : List Tv} (h : OwnTv w base v l) (hb : Below w.heap.size w w') : OwnTv w' base v l := owns_below h hb
end Go.Proofs.YthaebbmekonacaaGreatDoor
