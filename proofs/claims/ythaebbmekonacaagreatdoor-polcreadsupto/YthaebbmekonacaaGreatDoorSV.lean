/-
  Two lists of conditions, of actions: are they the same?
-/
import Derived.Test.YthaebbmekonacaaGreatDoorD1
import Derived.Laws.StructEq
import Derived.Deep.RegionHeld
import Derived.BigQuiet
import Derived.Test.YthaebbmekonacaaGreatDoorZ6
import Derived.Deep.Upon
set_option linter.unusedVariables false
set_option linter.unusedSimpArgs false
set_option maxRecDepth 100000
namespace Go.Proofs.YthaebbmekonacaaGreatDoor
open Go.RowKit
theorem below_dr {B : Nat} {a w : World} (h : Below B a w) (n : Nat) : Below B a (w.drewN n) := ⟨h.os, h.tape, h.output, h.size, h.block⟩
/-- Two lists, one by one. -/
def eqL {α : Type} (f : α → α → Bool) : List α → List α → Bool
  | [], [] => true
  | a :: l, b :: m => f a b && eqL f l m
  | _, _ => false
theorem eqL_at {α : Type} (f : α → α → Bool) (L M : List α) (k : Nat) (h : k < L.length) (h' : k < M.length) : eqL f (L.drop k) (M.drop k) = (f L[k] M[k] && eqL f (L.drop (k + 1)) (M.drop (k + 1))) := by
  rw [List.drop_eq_getElem_cons h, List.drop_eq_getElem_cons h']; rfl
theorem eqL_end {α : Type} (f : α → α → Bool) (L M : List α) (h : L.length = M.length) : eqL f (L.drop L.length) (M.drop L.length) = true := by
  rw [List.drop_eq_nil_of_le (Nat.le_refl _), List.drop_eq_nil_of_le (by omega)]; rfl
theorem eqL_len {α : Type} (f : α → α → Bool) (L M : List α) (h : L.length ≠ M.length) : eqL f L M = false := by
  induction L generalizing M with
  | nil => cases M with
    | nil => simp at h
    | cons a M => rfl
  | cons a L ih => cases M with
    | nil => rfl
    | cons b M => simp only [eqL]; rw [ih M (by simpa using h), Bool.and_false]
theorem eqL_refl {α : Type} (f : α → α → Bool) (hf : ∀ a, f a a = true) (L : List α) : eqL f L L = true := by
  induction L with
  | nil => rfl
  | cons a L ih => simp only [eqL]; rw [hf, ih]; rfl
def eqC (a b : Cd) : Bool := a.k == b.k && (a.nt == b.nt && (a.nm.toList == b.nm.toList && a.n == b.n))
def eqA (a b : Ac) : Bool := a.k == b.k && (a.nm.toList == b.nm.toList && (a.n == b.n && a.ad.toList == b.ad.toList))
theorem neqC (xk yk : Int) (xt yt : Bool) (xs ys : ByteArray) (xn yn : Int) (W : World) : (binOp .neq 37 (.agg #[.int .i64 xk, .bool xt, .string xs, .int .i64 xn]) (.agg #[.int .i64 yk, .bool yt, .string ys, .int .i64 yn])).run Tryz.prog W = .ok (.bool (!(xk == yk && (xt == yt && (xs.toList == ys.toList && xn == yn))))) W := by
  by_cases e1 : xk = yk <;> by_cases e2 : xt = yt <;> by_cases e3 : xs.toList = ys.toList <;> by_cases e4 : xn = yn
  all_goals go_simp
theorem neqA (xk yk : Int) (xs ys : ByteArray) (xn yn : Nat) (xa ya : ByteArray) (W : World) : (binOp .neq 40 (.agg #[.int .i64 xk, .string xs, .int .u32 (xn : Int), .string xa]) (.agg #[.int .i64 yk, .string ys, .int .u32 (yn : Int), .string ya])).run Tryz.prog W = .ok (.bool (!(xk == yk && (xs.toList == ys.toList && (xn == yn && xa.toList == ya.toList))))) W := by
  by_cases e1 : xk = yk <;> by_cases e2 : xs.toList = ys.toList <;> by_cases e3 : xn = yn <;> by_cases e4 : xa.toList = ya.toList
  all_goals
    have e5 : ((xn : Int) = (yn : Int)) = (xn = yn) := propext Int.ofNat_inj
    go_simp
    try simp [e5, e3]
theorem eqlC (xk yk : Int) (xt yt : Bool) (xs ys : ByteArray) (xn yn : Int) (W : World) : (binOp .eql 37 (.agg #[.int .i64 xk, .bool xt, .string xs, .int .i64 xn]) (.agg #[.int .i64 yk, .bool yt, .string ys, .int .i64 yn])).run Tryz.prog W = .ok (.bool ((xk == yk && (xt == yt && (xs.toList == ys.toList && xn == yn))))) W := by
  by_cases e1 : xk = yk <;> by_cases e2 : xt = yt <;> by_cases e3 : xs.toList = ys.toList <;> by_cases e4 : xn = yn
  all_goals go_simp
theorem eqlA (xk yk : Int) (xs ys : ByteArray) (xn yn : Nat) (xa ya : ByteArray) (W : World) : (binOp .eql 40 (.agg #[.int .i64 xk, .string xs, .int .u32 (xn : Int), .string xa]) (.agg #[.int .i64 yk, .string ys, .int .u32 (yn : Int), .string ya])).run Tryz.prog W = .ok (.bool ((xk == yk && (xs.toList == ys.toList && (xn == yn && xa.toList == ya.toList))))) W := by
  by_cases e1 : xk = yk <;> by_cases e2 : xs.toList = ys.toList <;> by_cases e3 : xn = yn <;> by_cases e4 : xa.toList = ya.toList
  all_goals
    have e5 : ((xn : Int) = (yn : Int)) = (xn = yn) := propext Int.ofNat_inj
    go_simp
    try simp [e5, e3]
theorem eqC_refl (a : Cd) : eqC a a = true := by simp [eqC]
theorem eqA_refl (a : Ac) : eqA a a = true := by simp [eqA]
end Go.Proofs.YthaebbmekonacaaGreatDoor

set_option linter.unusedVariables false
set_option linter.unusedSimpArgs false
set_option maxRecDepth 100000
namespace Go.Proofs.YthaebbmekonacaaGreatDoor
open Go.RowKit
def eqT (a b : Tm) : Bool := eqL eqC a.cs b.cs && eqL eqA a.acs b.acs
theorem eqT_refl (a : Tm) : eqT a a = true := by unfold eqT; rw [eqL_refl eqC eqC_refl, eqL_refl eqA eqA_refl]; rfl
/-- Lists of a term are no longer than memory. -/
def LenT (T : Tm) : Prop := T.cs.length ≤ 1152921504606846976 ∧ T.acs.length ≤ 1152921504606846976
/-- A policy. -/
structure Po where
  nm : ByteArray
  ts : List Tm
  els : Bool
def PoAt (w : World) (v : Value) (p : Po) : Prop := ∃ vt, v = .agg #[.string p.nm, vt, .bool p.els] ∧ TsAt w vt p.ts
theorem PoAt.below {w w' : World} {v : Value} {p : Po} (h : PoAt w v p) (hb : Below w.heap.size w w') : PoAt w' v p := by
  obtain ⟨vt, e, h⟩ := h
  exact ⟨vt, e, h.below hb⟩
end Go.Proofs.YthaebbmekonacaaGreatDoor

set_option linter.unusedSimpArgs false
set_option maxRecDepth 100000
namespace Go.Proofs.YthaebbmekonacaaGreatDoor
open Go.RowKit
theorem owns_lt {w : World} {base : Nat} {e : TypeId} {size : Nat} {v : Value} {n : Nat} {xs : List Value} (h : w.ownsRow base e size v n xs) : ∀ g, v.ownBlock = some g → base ≤ g ∧ g < w.heap.size := by
  intro g hg
  obtain ⟨_, ⟨h1, _⟩ | ⟨g', cap, cur, e1, h1, h2, _⟩⟩ := h
  · rw [h1] at hg; cases hg
  · rw [e1] at hg
    simp only [Value.ownBlock] at hg
    injection hg with hg
    subst hg
    exact ⟨h1, (Array.getElem?_eq_some_iff.1 h2).1⟩
theorem owns_heap' {w w' : World} {base : Nat} {e : TypeId} {size : Nat} {v : Value} {n : Nat} {xs : List Value} (h : w.ownsRow base e size v n xs) (hh : ∀ g, v.ownBlock = some g → w'.heap[g]? = w.heap[g]?) : w'.ownsRow base e size v n xs := by
  obtain ⟨h0, ⟨h1, h2⟩ | ⟨g, cap, cur, e1, h1, h2, h3⟩⟩ := h
  · exact ⟨h0, Or.inl ⟨h1, h2⟩⟩
  · refine ⟨h0, Or.inr ⟨g, cap, cur, e1, h1, ?_, h3⟩⟩
    rw [hh g (by rw [e1]; rfl)]; exact h2
theorem owns_below {w w' : World} {base : Nat} {e : TypeId} {size : Nat} {v : Value} {n : Nat} {xs : List Value} (h : w.ownsRow base e size v n xs) (hb : Below w.heap.size w w') : w'.ownsRow base e size v n xs :=
  owns_heap' h fun g hg => hb.block g (owns_lt h g hg).2
theorem owns_mono {w : World} {base b' : Nat} {e : TypeId} {size : Nat} {v : Value} {n : Nat} {xs : List Value} (h : w.ownsRow base e size v n xs) (hb : b' ≤ base) : w.ownsRow b' e size v n xs := by
  obtain ⟨h0, h1 | ⟨g, cap, cur, e1, h1, h2⟩⟩ := h
  · exact ⟨h0, Or.inl h1⟩
  · exact ⟨h0, Or.inr ⟨g, cap, cur, e1, Nat.le_trans hb h1, h2⟩⟩
/-- What an append leaves: all below base is as it was. -/
theorem below_own {w w' : World} {base : Nat} {e : TypeId} {size : Nat} {v : Value} {n : Nat} {xs : List Value} (h : w.ownsRow base e size v n xs) (hg : w.grownBy w' v.ownBlock) (hb : base ≤ w.heap.size) : Below base w w' :=
  ⟨hg.os, hg.tape, hg.output, hg.size, fun k hk => hg.block k (by omega) (fun e => by have := (owns_lt h k e.symm).1; omega)⟩
theorem own_cell {w : World} {base : Nat} {e : TypeId} {size : Nat} {g cap n : Nat} {l : List Value} (h : w.ownsRow base e size (.slice (some ⟨g, 0, none⟩) n cap) n l) (t : Nat) (ht : t < n * size) : w.cell? ⟨g, t, none⟩ = l[t]? := by
  obtain ⟨h0, ⟨h1, h2⟩ | ⟨g', cap', cur, e, hg, hk, h1, h2, h3, h4⟩⟩ := h
  · cases h1
  · injection e with e _ _
    injection e with e
    injection e with e
    subst e
    have hsz : t < cur.size := by rw [h3]; exact Nat.lt_of_lt_of_le ht (Nat.mul_le_mul_right size h1)
    rw [← h4, List.getElem?_take_of_lt ht]
    simp [World.cell?, hk]
theorem own_len {w : World} {base : Nat} {e : TypeId} {size : Nat} {v : Value} {n : Nat} {xs : List Value} (h : w.ownsRow base e size v n xs) : ∃ ad c, v = .slice ad n c ∧ n ≤ c := by
  obtain ⟨_, ⟨h1, h2⟩ | ⟨g, cap, cur, h, _, _, hc, _⟩⟩ := h
  · exact ⟨none, 0, by rw [h1, h2], by omega⟩
  · exact ⟨_, _, h, hc⟩
theorem info_parts {P : Program} {e : TypeId} {z : Value} {size bytes : Nat} (h : (P.info? e).map (fun i => (i.zero, i.size, i.bytes)) = some (some z, size, bytes)) : ∃ i, P.info? e = some i ∧ i.zero = some z ∧ i.size = size ∧ i.bytes = bytes := by
  cases hi : P.info? e with
  | none => rw [hi] at h; simp at h
  | some i =>
    rw [hi] at h
    simp at h
    exact ⟨i, rfl, h.1, h.2.1, h.2.2⟩
theorem add_off (g off j : Nat) : Addr.add ⟨g, off, none⟩ j = ⟨g, off + j, none⟩ := by unfold Addr.add; by_cases e : j = 0 <;> simp [e]
theorem src_none {P : Program} {size : Nat} {tx e' : TypeId} (w : World) (hk : P.underlying tx = some (.slice e')) (ad : Option Addr) (c : Nat) : Src P size tx (.slice ad 0 c) 0 [] w := by
  cases ad with
  | none => exact Src.ofNil w hk c
  | some a => exact Src.ofSlice w hk a 0 c [] (by simp) (by simp) (by simp)
theorem wpList_append_run (w : World) {ops : Array Oper} {rest : List Oper} {o : Oper} {a : Act} {Q : Exit → Act → World → Prop} (hgd : o.guard = none) (s x : Operand) (t : TypeId)
    (ho : o.op = .call { callee := .builtin .append, args := #[s, x], argTypes := #[t, t] }) (v u : Value) (hs : a.eval s = v) (hx : a.eval x = u) {r : Value} {w' : World}
    (hr : (Builtin.append_ #[t, t] o.type #[v, u]).run Tryz.prog w = .ok r w') (h : wpList Tryz.prog ops Q rest (a.put o.dst r) w') : wpList Tryz.prog ops Q (o :: rest) a w :=
  wpList_plain hgd fun _ hK => by
    unfold Oper.wp
    simp only [execOp, ho, resolve, invoke, builtin, Sem.run_bind, Sem.run_pure, Result.andThen_ok, List.map_toArray, List.map_cons, List.map_nil, hs, hx, hr]
    exact hK _ _ h
def cellsA (l : List Atm) : List Value := l.flatMap fun (a : Atm) => [.int .i64 a.1, .int .u32 (a.2 : Int)]
def OwnA (w : World) (base : Nat) (v : Value) (l : List Atm) : Prop := w.ownsRow base 55 2 v l.length (cellsA l)
theorem cellsA_at (l : List Atm) : ∀ (k : Nat) (hk : k < l.length), (cellsA l)[k * 2]? = some (.int .i64 l[k].1) ∧ (cellsA l)[k * 2 + 1]? = some (.int .u32 (l[k].2 : Int)) := by
  induction l with
  | nil => intro k hk; simp at hk
  | cons a r ih =>
    intro k hk
    have e : cellsA (a :: r) = [.int .i64 a.1, .int .u32 (a.2 : Int)] ++ cellsA r := by simp [cellsA]
    cases k with
    | zero => rw [e]; exact ⟨rfl, rfl⟩
    | succ k =>
      have := ih k (by simpa using hk)
      rw [e]
      refine ⟨?_, ?_⟩
      · rw [List.getElem?_append_right (by simp; omega), show (k + 1) * 2 - [Value.int .i64 a.1, Value.int .u32 (a.2 : Int)].length = k * 2 by simp; omega]; exact this.1
      · rw [List.getElem?_append_right (by simp; omega), show (k + 1) * 2 + 1 - [Value.int .i64 a.1, Value.int .u32 (a.2 : Int)].length = k * 2 + 1 by simp; omega]; exact this.2
theorem OwnA.at {w : World} {base : Nat} {v : Value} {l : List Atm} (h : OwnA w base v l) : AtAt w v l := by
  obtain ⟨_, ⟨h1, h2⟩ | ⟨g, cap, cur, e, _, _, hc, _⟩⟩ := id h
  · exact ⟨none, 0, 0, 0, by rw [h1, h2], Or.inr h2, by omega, fun j hj => by omega⟩
  · subst e
    refine ⟨_, g, 0, cap, rfl, Or.inl rfl, hc, fun j hj => ?_⟩
    have d := cellsA_at l j hj
    rw [show 0 + j * 2 = j * 2 by omega, own_cell h (j * 2) (by omega), own_cell h (j * 2 + 1) (by omega)]
    exact d
theorem OwnA.nil (w : World) (base : Nat) : OwnA w base (.slice none 0 0) [] := ⟨rfl, Or.inl ⟨rfl, rfl⟩⟩
theorem OwnA.below {w w' : World} {base : Nat} {v : Value} {l : List Atm} (h : OwnA w base v l) (hb : Below w.heap.size w w') : OwnA w' base v l := owns_below h hb
def cellsU (l : List Nat) : List Value := l.flatMap fun (a : Nat) => [.int .u32 (a : Int)]
def OwnU (w : World) (base : Nat) (v : Value) (l : List Nat) : Prop := w.ownsRow base 38 1 v l.length (cellsU l)
theorem cellsU_at (l : List Nat) : ∀ (k : Nat) (hk : k < l.length), (cellsU l)[k]? = some (.int .u32 (l[k] : Int)) := by
  induction l with
  | nil => intro k hk; simp at hk
  | cons a r ih =>
    intro k hk
    have e : cellsU (a :: r) = [.int .u32 (a : Int)] ++ cellsU r := by simp [cellsU]
    cases k with
    | zero => rw [e]; rfl
    | succ k =>
      have := ih k (by simpa using hk)
      rw [e]
      rw [List.getElem?_append_right (by simp), show (k + 1) - [Value.int .u32 (a : Int)].length = k by simp]; exact this
theorem OwnU.at {w : World} {base : Nat} {v : Value} {l : List Nat} (h : OwnU w base v l) : ASAt w v l := by
  obtain ⟨_, ⟨h1, h2⟩ | ⟨g, cap, cur, e, _, _, hc, _⟩⟩ := id h
  · exact ⟨none, 0, 0, 0, by rw [h1, h2], Or.inr h2, by omega, fun j hj => by omega⟩
  · subst e
    refine ⟨_, g, 0, cap, rfl, Or.inl rfl, hc, fun j hj => ?_⟩
    have d := cellsU_at l j hj
    rw [show 0 + j = j by omega, own_cell h j (by omega)]
    exact d
theorem OwnU.nil (w : World) (base : Nat) : OwnU w base (.slice none 0 0) [] := ⟨rfl, Or.inl ⟨rfl, rfl⟩⟩
theorem OwnU.below {w w' : World} {base : Nat} {v : Value} {l : List Nat} (h : OwnU w base v l) (hb : Below w.heap.size w w') : OwnU w' base v l := owns_below h hb
end Go.Proofs.YthaebbmekonacaaGreatDoor

set_option linter.unusedVariables false
set_option linter.unusedSimpArgs false
set_option maxRecDepth 100000
namespace Go.Proofs.YthaebbmekonacaaGreatDoor
open Go.RowKit
def cellsCd (l : List Cd) : List Value := l.flatMap fun (a : Cd) => [.int .i64 a.k, .bool a.nt, .string a.nm, .int .i64 a.n]
def OwnCd (w : World) (base : Nat) (v : Value) (l : List Cd) : Prop := w.ownsRow base 37 4 v l.length (cellsCd l)
theorem infoCd : (Tryz.prog.info? 37).map (fun i => (i.zero, i.size, i.bytes)) = some (some (.agg #[.int .i64 0, .bool false, .string ⟨#[]⟩, .int .i64 0]), 4, 40) := by kernel_rfl
theorem cellsCd_len (l : List Cd) : (cellsCd l).length = l.length * 4 := by
  induction l with
  | nil => rfl
  | cons a r ih => simp [cellsCd] at *; omega
theorem cellsCd_one (l : List Cd) : ∀ u ∈ cellsCd l, u.oneCell' = true := by
  intro u hu
  obtain ⟨x, _, hx⟩ := List.mem_flatMap.1 hu
  simp at hx
  rcases hx with h | h | h | h <;> subst h <;> rfl
theorem cellsCd_app (l m : List Cd) : cellsCd (l ++ m) = cellsCd l ++ cellsCd m := by simp [cellsCd]
theorem cellsCd_at (l : List Cd) : ∀ (k : Nat) (hk : k < l.length), (cellsCd l)[k * 4]? = some (.int .i64 l[k].k) ∧ (cellsCd l)[k * 4 + 1]? = some (.bool l[k].nt) ∧ (cellsCd l)[k * 4 + 2]? = some (.string l[k].nm) ∧ (cellsCd l)[k * 4 + 3]? = some (.int .i64 l[k].n) := by
  induction l with
  | nil => intro k hk; simp at hk
  | cons a r ih =>
    intro k hk
    have e : cellsCd (a :: r) = [.int .i64 a.k, .bool a.nt, .string a.nm, .int .i64 a.n] ++ cellsCd r := by simp [cellsCd]
    cases k with
    | zero => rw [e]; exact ⟨rfl, rfl, rfl, rfl⟩
    | succ k =>
      have := ih k (by simpa using hk)
      rw [e]
      refine ⟨?_, ?_, ?_, ?_⟩
      · rw [List.getElem?_append_right (by simp; omega), show (k + 1) * 4 - [(.int .i64 a.k : Value), (.bool a.nt : Value), (.string a.nm : Value), (.int .i64 a.n : Value)].length = k * 4 by simp; omega]; exact this.1
      · rw [List.getElem?_append_right (by simp; omega), show (k + 1) * 4 + 1 - [(.int .i64 a.k : Value), (.bool a.nt : Value), (.string a.nm : Value), (.int .i64 a.n : Value)].length = k * 4 + 1 by simp; omega]; exact this.2.1
      · rw [List.getElem?_append_right (by simp; omega), show (k + 1) * 4 + 2 - [(.int .i64 a.k : Value), (.bool a.nt : Value), (.string a.nm : Value), (.int .i64 a.n : Value)].length = k * 4 + 2 by simp; omega]; exact this.2.2.1
      · rw [List.getElem?_append_right (by simp; omega), show (k + 1) * 4 + 3 - [(.int .i64 a.k : Value), (.bool a.nt : Value), (.string a.nm : Value), (.int .i64 a.n : Value)].length = k * 4 + 3 by simp; omega]; exact this.2.2.2
theorem OwnCd.at {w : World} {base : Nat} {v : Value} {l : List Cd} (h : OwnCd w base v l) : CdAt w v l := by
  obtain ⟨_, ⟨h1, h2⟩ | ⟨g, cap, cur, e, _, _, hc, _⟩⟩ := id h
  · exact ⟨none, 0, 0, 0, by rw [h1, h2], Or.inr h2, by omega, fun j hj => by omega⟩
  · subst e
    refine ⟨_, g, 0, cap, rfl, Or.inl rfl, hc, fun j hj => ?_⟩
    have d := cellsCd_at l j hj
    rw [show 0 + j * 4 = j * 4 by omega, own_cell h (j * 4) (by omega), own_cell h (j * 4 + 1) (by omega), own_cell h (j * 4 + 2) (by omega), own_cell h (j * 4 + 3) (by omega)]
    exact d
theorem srcCd {w : World} {g off : Nat} {m : List Cd} (h : ∀ j (h : j < m.length), w.cell? ⟨g, off + j * 4, none⟩ = some (.int .i64 m[j].k) ∧ w.cell? ⟨g, off + j * 4 + 1, none⟩ = some (.bool m[j].nt) ∧ w.cell? ⟨g, off + j * 4 + 2, none⟩ = some (.string m[j].nm) ∧ w.cell? ⟨g, off + j * 4 + 3, none⟩ = some (.int .i64 m[j].n)) (j : Nat) (u : Value) (hj : (cellsCd m)[j]? = some u) : w.cell? (Addr.add ⟨g, off, none⟩ j) = some u := by
  have hjl : j < m.length * 4 := by rw [← cellsCd_len]; exact (List.getElem?_eq_some_iff.1 hj).1
  rw [add_off]
  have hk : j / 4 < m.length := by omega
  obtain ⟨c0, c1, c2, c3⟩ := h (j / 4) hk
  obtain ⟨d0, d1, d2, d3⟩ := cellsCd_at m (j / 4) hk
  have h4 : j % 4 = 0 ∨ j % 4 = 1 ∨ j % 4 = 2 ∨ j % 4 = 3 := by omega
  rcases h4 with h4 | h4 | h4 | h4
  · have e : j = j / 4 * 4 := by omega
    rw [e] at hj; rw [d0] at hj; rw [e, c0]; exact hj
  · have e : j = j / 4 * 4 + 1 := by omega
    rw [e] at hj; rw [d1] at hj; rw [e, ← Nat.add_assoc, c1]; exact hj
  · have e : j = j / 4 * 4 + 2 := by omega
    rw [e] at hj; rw [d2] at hj; rw [e, ← Nat.add_assoc, c2]; exact hj
  · have e : j = j / 4 * 4 + 3 := by omega
    rw [e] at hj; rw [d3] at hj; rw [e, ← Nat.add_assoc, c3]; exact hj
/-- A slice's are put behind others. -/
theorem wpList_append_Cd (w : World) {ops : Array Oper} {rest : List Oper} {o : Oper} {a : Act} {Q : Exit → Act → World → Prop} (hgd : o.guard = none) (s x : Operand)
    (ho : o.op = .call { callee := .builtin .append, args := #[s, x], argTypes := #[60, 60] }) (base : Nat) (v v2 : Value) (l m : List Cd) (hs : a.eval s = v) (hx : a.eval x = v2)
    (h1 : OwnCd w base v l) (h2 : CdAt w v2 m) (hlen : (l.length + m.length) * 40 ≤ 140737488355328) (hbase : base ≤ w.heap.size)
    (h : ∀ v' w', OwnCd w' base v' (l ++ m) → Below base w w' → wpList Tryz.prog ops Q rest (a.put o.dst v') w') : wpList Tryz.prog ops Q (o :: rest) a w := by
  obtain ⟨i0, hi, hz0, hz1, hz2⟩ := info_parts infoCd
  have h1' := h1
  obtain ⟨ad2, g, off, cap, e, had, hc, hcs⟩ := h2
  subst e
  by_cases hm : m = []
  · subst hm
    obtain ⟨ad, c, ev, hle⟩ := own_len h1
    rw [ev] at hs h1'
    have hr := run_append_nothing (P := Tryz.prog) w 60 60 o.type 37 i0 Tryz.underlying60 hi ad l.length c hle (.slice ad2 0 cap) (by rw [hz1]; exact src_none w Tryz.underlying60 ad2 cap)
    refine wpList_append_run w hgd s x 60 ho _ _ hs hx hr (h _ w ?_ (Below.refl _ _))
    rw [List.append_nil]; exact h1'
  · have hm0 : 0 < m.length := List.length_pos_iff.2 hm
    obtain rfl : ad2 = some ⟨g, off, none⟩ := by
      rcases had with e | e
      · exact e
      · omega
    refine wpList_append_own w hgd s x 60 ho base 37 i0 (.agg #[.int .i64 0, .bool false, .string ⟨#[]⟩, .int .i64 0]) 4 40 Tryz.underlying60 hi hz0 hz1 hz2 rfl (by decide) v l.length (cellsCd l) hs h1 ⟨g, off, none⟩ m.length cap (cellsCd m) hx (cellsCd_len m) (fun j u hj => srcCd hcs j u hj) (cellsCd_one m) (by unfold maxLen; omega) (by omega) hbase ?_
    intro v' w' ho' hg' _
    refine h v' w' ?_ (below_own h1 hg' hbase)
    unfold OwnCd
    rw [cellsCd_app, List.length_append]
    exact ho'
theorem OwnCd.nil (w : World) (base : Nat) : OwnCd w base (.slice none 0 0) [] := ⟨rfl, Or.inl ⟨rfl, rfl⟩⟩
theorem OwnCd.below {w w' : World} {base : Nat} {v : Value} {l : List Cd} (h : OwnCd w base v l) (hb : Below w.heap.size w w') : OwnCd w' base v l := owns_below h hb
def cellsAc (l : List Ac) : List Value := l.flatMap fun (a : Ac) => [.int .i64 a.k, .string a.nm, .int .u32 (a.n : Int), .string a.ad]
def OwnAc (w : World) (base : Nat) (v : Value) (l : List Ac) : Prop := w.ownsRow base 40 4 v l.length (cellsAc l)
theorem infoAc : (Tryz.prog.info? 40).map (fun i => (i.zero, i.size, i.bytes)) = some (some (.agg #[.int .i64 0, .string ⟨#[]⟩, .int .u32 0, .string ⟨#[]⟩]), 4, 48) := by kernel_rfl
theorem cellsAc_len (l : List Ac) : (cellsAc l).length = l.length * 4 := by
  induction l with
  | nil => rfl
  | cons a r ih => simp [cellsAc] at *; omega
theorem cellsAc_one (l : List Ac) : ∀ u ∈ cellsAc l, u.oneCell' = true := by
  intro u hu
  obtain ⟨x, _, hx⟩ := List.mem_flatMap.1 hu
  simp at hx
  rcases hx with h | h | h | h <;> subst h <;> rfl
theorem cellsAc_app (l m : List Ac) : cellsAc (l ++ m) = cellsAc l ++ cellsAc m := by simp [cellsAc]
theorem cellsAc_at (l : List Ac) : ∀ (k : Nat) (hk : k < l.length), (cellsAc l)[k * 4]? = some (.int .i64 l[k].k) ∧ (cellsAc l)[k * 4 + 1]? = some (.string l[k].nm) ∧ (cellsAc l)[k * 4 + 2]? = some (.int .u32 (l[k].n : Int)) ∧ (cellsAc l)[k * 4 + 3]? = some (.string l[k].ad) := by
  induction l with
  | nil => intro k hk; simp at hk
  | cons a r ih =>
    intro k hk
    have e : cellsAc (a :: r) = [.int .i64 a.k, .string a.nm, .int .u32 (a.n : Int), .string a.ad] ++ cellsAc r := by simp [cellsAc]
    cases k with
    | zero => rw [e]; exact ⟨rfl, rfl, rfl, rfl⟩
    | succ k =>
      have := ih k (by simpa using hk)
      rw [e]
      refine ⟨?_, ?_, ?_, ?_⟩
      · rw [List.getElem?_append_right (by simp; omega), show (k + 1) * 4 - [(.int .i64 a.k : Value), (.string a.nm : Value), (.int .u32 (a.n : Int) : Value), (.string a.ad : Value)].length = k * 4 by simp; omega]; exact this.1
      · rw [List.getElem?_append_right (by simp; omega), show (k + 1) * 4 + 1 - [(.int .i64 a.k : Value), (.string a.nm : Value), (.int .u32 (a.n : Int) : Value), (.string a.ad : Value)].length = k * 4 + 1 by simp; omega]; exact this.2.1
      · rw [List.getElem?_append_right (by simp; omega), show (k + 1) * 4 + 2 - [(.int .i64 a.k : Value), (.string a.nm : Value), (.int .u32 (a.n : Int) : Value), (.string a.ad : Value)].length = k * 4 + 2 by simp; omega]; exact this.2.2.1
      · rw [List.getElem?_append_right (by simp; omega), show (k + 1) * 4 + 3 - [(.int .i64 a.k : Value), (.string a.nm : Value), (.int .u32 (a.n : Int) : Value), (.string a.ad : Value)].length = k * 4 + 3 by simp; omega]; exact this.2.2.2
theorem OwnAc.at {w : World} {base : Nat} {v : Value} {l : List Ac} (h : OwnAc w base v l) : AcAt w v l := by
  obtain ⟨_, ⟨h1, h2⟩ | ⟨g, cap, cur, e, _, _, hc, _⟩⟩ := id h
  · exact ⟨none, 0, 0, 0, by rw [h1, h2], Or.inr h2, by omega, fun j hj => by omega⟩
  · subst e
    refine ⟨_, g, 0, cap, rfl, Or.inl rfl, hc, fun j hj => ?_⟩
    have d := cellsAc_at l j hj
    rw [show 0 + j * 4 = j * 4 by omega, own_cell h (j * 4) (by omega), own_cell h (j * 4 + 1) (by omega), own_cell h (j * 4 + 2) (by omega), own_cell h (j * 4 + 3) (by omega)]
    exact d
theorem srcAc {w : World} {g off : Nat} {m : List Ac} (h : ∀ j (h : j < m.length), w.cell? ⟨g, off + j * 4, none⟩ = some (.int .i64 m[j].k) ∧ w.cell? ⟨g, off + j * 4 + 1, none⟩ = some (.string m[j].nm) ∧ w.cell? ⟨g, off + j * 4 + 2, none⟩ = some (.int .u32 (m[j].n : Int)) ∧ w.cell? ⟨g, off + j * 4 + 3, none⟩ = some (.string m[j].ad)) (j : Nat) (u : Value) (hj : (cellsAc m)[j]? = some u) : w.cell? (Addr.add ⟨g, off, none⟩ j) = some u := by
  have hjl : j < m.length * 4 := by rw [← cellsAc_len]; exact (List.getElem?_eq_some_iff.1 hj).1
  rw [add_off]
  have hk : j / 4 < m.length := by omega
  obtain ⟨c0, c1, c2, c3⟩ := h (j / 4) hk
  obtain ⟨d0, d1, d2, d3⟩ := cellsAc_at m (j / 4) hk
  have h4 : j % 4 = 0 ∨ j % 4 = 1 ∨ j % 4 = 2 ∨ j % 4 = 3 := by omega
  rcases h4 with h4 | h4 | h4 | h4
  · have e : j = j / 4 * 4 := by omega
    rw [e] at hj; rw [d0] at hj; rw [e, c0]; exact hj
  · have e : j = j / 4 * 4 + 1 := by omega
    rw [e] at hj; rw [d1] at hj; rw [e, ← Nat.add_assoc, c1]; exact hj
  · have e : j = j / 4 * 4 + 2 := by omega
    rw [e] at hj; rw [d2] at hj; rw [e, ← Nat.add_assoc, c2]; exact hj
  · have e : j = j / 4 * 4 + 3 := by omega
    rw [e] at hj; rw [d3] at hj; rw [e, ← Nat.add_assoc, c3]; exact hj
/-- A slice's are put behind others. -/
theorem wpList_append_Ac (w : World) {ops : Array Oper} {rest : List Oper} {o : Oper} {a : Act} {Q : Exit → Act → World → Prop} (hgd : o.guard = none) (s x : Operand)
    (ho : o.op = .call { callee := .builtin .append, args := #[s, x], argTypes := #[61, 61] }) (base : Nat) (v v2 : Value) (l m : List Ac) (hs : a.eval s = v) (hx : a.eval x = v2)
    (h1 : OwnAc w base v l) (h2 : AcAt w v2 m) (hlen : (l.length + m.length) * 48 ≤ 140737488355328) (hbase : base ≤ w.heap.size)
    (h : ∀ v' w', OwnAc w' base v' (l ++ m) → Below base w w' → wpList Tryz.prog ops Q rest (a.put o.dst v') w') : wpList Tryz.prog ops Q (o :: rest) a w := by
  obtain ⟨i0, hi, hz0, hz1, hz2⟩ := info_parts infoAc
  have h1' := h1
  obtain ⟨ad2, g, off, cap, e, had, hc, hcs⟩ := h2
  subst e
  by_cases hm : m = []
  · subst hm
    obtain ⟨ad, c, ev, hle⟩ := own_len h1
    rw [ev] at hs h1'
    have hr := run_append_nothing (P := Tryz.prog) w 61 61 o.type 40 i0 Tryz.underlying61 hi ad l.length c hle (.slice ad2 0 cap) (by rw [hz1]; exact src_none w Tryz.underlying61 ad2 cap)
    refine wpList_append_run w hgd s x 61 ho _ _ hs hx hr (h _ w ?_ (Below.refl _ _))
    rw [List.append_nil]; exact h1'
  · have hm0 : 0 < m.length := List.length_pos_iff.2 hm
    obtain rfl : ad2 = some ⟨g, off, none⟩ := by
      rcases had with e | e
      · exact e
      · omega
    refine wpList_append_own w hgd s x 61 ho base 40 i0 (.agg #[.int .i64 0, .string ⟨#[]⟩, .int .u32 0, .string ⟨#[]⟩]) 4 48 Tryz.underlying61 hi hz0 hz1 hz2 rfl (by decide) v l.length (cellsAc l) hs h1 ⟨g, off, none⟩ m.length cap (cellsAc m) hx (cellsAc_len m) (fun j u hj => srcAc hcs j u hj) (cellsAc_one m) (by unfold maxLen; omega) (by omega) hbase ?_
    intro v' w' ho' hg' _
    refine h v' w' ?_ (below_own h1 hg' hbase)
    unfold OwnAc
    rw [cellsAc_app, List.length_append]
    exact ho'
theorem OwnAc.nil (w : World) (base : Nat) : OwnAc w base (.slice none 0 0) [] := ⟨rfl, Or.inl ⟨rfl, rfl⟩⟩
theorem OwnAc.below {w w' : World} {base : Nat} {v : Value} {l : List Ac} (h : OwnAc w base v l) (hb : Below w.heap.size w w') : OwnAc w' base v l := owns_below h hb
/-- The two slices of a term. -/
structure Tv where
  a : Option Addr
  n : Nat
  c : Nat
  b : Option Addr
  m : Nat
  d : Nat
def TvAt (w : World) (v : Value) (L : List Tv) : Prop :=
  ∃ (ad : Option Addr) (b off cap : Nat), v = .slice ad L.length cap ∧ (ad = some ⟨b, off, none⟩ ∨ L.length = 0) ∧ L.length ≤ cap ∧ ∀ j (h : j < L.length), w.cell? ⟨b, off + j * 2, none⟩ = some (.slice L[j].a L[j].n L[j].c) ∧ w.cell? ⟨b, off + j * 2 + 1, none⟩ = some (.slice L[j].b L[j].m L[j].d)
def cellsTv (l : List Tv) : List Value := l.flatMap fun (a : Tv) => [.slice a.a a.n a.c, .slice a.b a.m a.d]
def OwnTv (w : World) (base : Nat) (v : Value) (l : List Tv) : Prop := w.ownsRow base 63 2 v l.length (cellsTv l)
theorem cellsTv_at (l : List Tv) : ∀ (k : Nat) (hk : k < l.length), (cellsTv l)[k * 2]? = some (.slice l[k].a l[k].n l[k].c) ∧ (cellsTv l)[k * 2 + 1]? = some (.slice l[k].b l[k].m l[k].d) := by
  induction l with
  | nil => intro k hk; simp at hk
  | cons a r ih =>
    intro k hk
    have e : cellsTv (a :: r) = [.slice a.a a.n a.c, .slice a.b a.m a.d] ++ cellsTv r := by simp [cellsTv]
    cases k with
    | zero => rw [e]; exact ⟨rfl, rfl⟩
    | succ k =>
      have := ih k (by simpa using hk)
      rw [e]
      refine ⟨?_, ?_⟩
      · rw [List.getElem?_append_right (by simp; omega), show (k + 1) * 2 - [(.slice a.a a.n a.c : Value), (.slice a.b a.m a.d : Value)].length = k * 2 by simp; omega]; exact this.1
      · rw [List.getElem?_append_right (by simp; omega), show (k + 1) * 2 + 1 - [(.slice a.a a.n a.c : Value), (.slice a.b a.m a.d : Value)].length = k * 2 + 1 by simp; omega]; exact this.2
theorem OwnTv.at {w : World} {base : Nat} {v : Value} {l : List Tv} (h : OwnTv w base v l) : TvAt w v l := by
  obtain ⟨_, ⟨h1, h2⟩ | ⟨g, cap, cur, e, _, _, hc, _⟩⟩ := id h
  · exact ⟨none, 0, 0, 0, by rw [h1, h2], Or.inr h2, by omega, fun j hj => by omega⟩
  · subst e
    refine ⟨_, g, 0, cap, rfl, Or.inl rfl, hc, fun j hj => ?_⟩
    have d := cellsTv_at l j hj
    rw [show 0 + j * 2 = j * 2 by omega, own_cell h (j * 2) (by omega), own_cell h (j * 2 + 1) (by omega)]
    exact d
theorem OwnTv.nil (w : World) (base : Nat) : OwnTv w base (.slice none 0 0) [] := ⟨rfl, Or.inl ⟨rfl, rfl⟩⟩
theorem OwnTv.below {w w' : World} {base : Nat} {v : Value} {l : List Tv} (h : OwnTv w base v l) (hb : Below w.heap.size w w') : OwnTv w' base v l := owns_below h hb
end Go.Proofs.YthaebbmekonacaaGreatDoor
