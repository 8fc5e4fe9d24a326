/-
  For DrawPlays: steps that come in; what kind a step is; one more put to what waits.
-/
import Derived.Test.YtjgnnbbimkhjjaaC2
set_option linter.unusedSimpArgs false
set_option maxRecDepth 100000
namespace Go.Proofs.Ytjgnnbbimkhjjaa
open Go.RowKit
theorem tmod3 (K : Int) : -3 < K.tmod 3 ∧ K.tmod 3 < 3 := by
  by_cases h : 0 ≤ K
  · rw [Int.tmod_eq_emod_of_nonneg h]; omega
  · have := Int.neg_tmod K 3
    have h2 := Int.tmod_eq_emod_of_nonneg (a := -K) (b := 3) (by omega)
    omega
theorem kinds (K : Int) : ∃ s : Int, wrap64 (K.tmod 3 + 3) = s ∧ (s.tmod 3 = 0 ∨ s.tmod 3 = 1 ∨ s.tmod 3 = 2) := by
  obtain ⟨h1, h2⟩ := tmod3 K
  generalize K.tmod 3 = m at *
  refine ⟨m + 3, by unfold wrap64; omega, ?_⟩
  rw [Int.tmod_eq_emod_of_nonneg (by omega)]
  omega
/-- A step. -/
structure Stp where
  kind : Int
  n : Nat
  base : Int
  hn : n < 4294967296
  hb : base < 9223372036854775808
/-- A step's three cells from a cell on. -/
structure SpAt (w : World) (g o : Nat) (x : Stp) : Prop where
  c0 : w.cell? ⟨g, o, none⟩ = some (.int .i64 x.kind)
  c1 : w.cell? ⟨g, o + 1, none⟩ = some (.int .u32 (x.n : Int))
  c2 : w.cell? ⟨g, o + 2, none⟩ = some (.int .i64 x.base)
theorem SpAt.kept {w w' : World} {g k : Nat} {r : Option Nat} {x : Stp} (h : SpAt w g k x) (hg : w.grownBy w' r) (hne : some g ≠ r) : SpAt w' g k x := ⟨hg.cell h.c0 hne, hg.cell h.c1 hne, hg.cell h.c2 hne⟩
theorem SpAt.below {w w' : World} {g k : Nat} {x : Stp} (h : SpAt w g k x) (hb : Below w.heap.size w w') : SpAt w' g k x := h.kept (grown_of_below hb none) (by simp)
theorem SpAt.far {w w' : World} {g k : Nat} {x : Stp} (h : SpAt w g k x) (hb : Below w.heap.size w w') : SpAt w' g k x := h.below hb
/-- Steps that come in. -/
structure ArgD (w : World) (v : Value) (l : List Stp) : Prop where
  shape : ∃ a cap, v = .slice a l.length cap
  cell : l ≠ [] → ∃ bk off cap, v = .slice (some ⟨bk, off, none⟩) l.length cap ∧ ∀ (j : Nat) (h : j < l.length), SpAt w bk (off + j * 3) l[j]
  len : l.length ≤ maxLen
/-- The draws and what waits. -/
structure PyAt (w wr : World) (p : Nat) (u : Value) (L : List Nat) : Prop where
  d : DAt wr p L
  q : QAt wr w.heap.size p u L
  bel : Below w.heap.size w wr
  low : w.heap.size ≤ p
theorem PyAt.below {w wr wx : World} {p : Nat} {u : Value} {L : List Nat} (h : PyAt w wr p u L) (hb : Below wr.heap.size wr wx) : PyAt w wx p u L := ⟨h.d.below hb, h.q.below hb, h.bel.trans (hb.mono h.bel.size), h.low⟩
theorem DAt.small {w : World} {p : Nat} {L : List Nat} (h : DAt w p L) : L.length ≤ 64 ∧ ∀ x ∈ L, x < 4294967296 := by
  obtain ⟨⟨cs, f, hR, _⟩, _⟩ := h
  exact ⟨hR.few, hR.small⟩
theorem push_any {w : World} {p : Nat} {L : List Nat} (h : DAt w p L) {n : Nat} (hn : n < 4294967296) : Calls Try.prog 9 #[.pointer (some ⟨p, 0, none⟩), .int .u32 (n : Int)] w fun e w' => ∃ r M, e = .returned (.int .i64 r) ∧ DAt w' p M ∧ w.grownBy w' (some p) := by
  by_cases hl : L.length < 64
  · exact (push_ok h hl hn).mono fun e w' ⟨he, hd, hg⟩ => ⟨_, _, he, hd, hg⟩
  · exact (push_full h (by omega) n).mono fun e w' ⟨he, hw⟩ => ⟨_, L, he, hw ▸ h, hw ▸ grown_refl _ _⟩
theorem QAt.kept2 {w w' : World} {B p q : Nat} {v : Value} {L : List Nat} (h : QAt w B p v L) (h2 : QAt w B q v L) (hg : w.grownBy w' (some p)) : QAt w' B q v L := by
  rcases h with h | ⟨g, off, cap, e, h⟩
  · exact Or.inl h
  · rcases h2 with h2 | ⟨g2, off2, cap2, e2, h2⟩
    · exact Or.inl h2
    · refine Or.inr ⟨g2, off2, cap2, e2, h2.kept hg (fun e3 => ?_)⟩
      rw [e] at e2
      injection e2 with e2 _ _
      injection e2 with e2
      injection e2 with e2 _ _
      injection e3 with e3
      exact h.ne (e2.trans e3)
theorem info26 : ∃ i z, Try.prog.info? 26 = some i ∧ i.zero = some z ∧ i.size = 1 ∧ i.bytes = 4 ∧ z.cells.size = 1 := ⟨_, _, rfl, rfl, rfl, rfl, rfl⟩
theorem map_put (L : List Nat) (n : Nat) : (L.map fun x : Nat => Value.int .u32 (x : Int)) ++ [.int .u32 (n : Int)] = (L ++ [n]).map fun x : Nat => Value.int .u32 (x : Int) := by simp
theorem wpList_append_q (w : World) {ops : Array Oper} {rest : List Oper} {o : Oper} {a : Act} {Q : Exit → Act → World → Prop} (hgd : o.guard = none) (s x : Operand)
    (ho : o.op = .call { callee := .builtin .append, args := #[s, x], argTypes := #[25, 25] }) {B p n c : Nat} {v : Value} {L : List Nat} (hs : a.eval s = v) (ad : Addr) (hx : a.eval x = .slice (some ad) 1 c)
    (hnew : w.cell? ad = some (.int .u32 (n : Int))) (hq : QAt w B p v L) (hl : L.length ≤ 64) (hB : B ≤ w.heap.size) (hp : p < w.heap.size)
    (h : ∀ v' w' row, QAt w' B p v' (L ++ [n]) → w.grownBy w' row → (∀ k, row = some k → B ≤ k ∧ k ≠ p) → wpList Try.prog ops Q rest (a.put o.dst v') w') : wpList Try.prog ops Q (o :: rest) a w := by
  obtain ⟨i, z, hi, hz0, hz1, hz2, hz3⟩ := info26
  have hcells : ∀ (j : Nat) (u : Value), [Value.int .u32 (n : Int)][j]? = some u → w.cell? (ad.add j) = some u := by
    intro j u hj
    cases j with
    | zero => injection hj with hj; subst hj; rw [show ad.add 0 = ad from by unfold Addr.add; simp]; exact hnew
    | succ j => simp at hj
  have hone : ∀ u ∈ [Value.int .u32 (n : Int)], u.oneCell' = true := by intro u hu; rw [List.mem_singleton.1 hu]; rfl
  rcases hq with ⟨rfl, rfl⟩ | ⟨g, off, cap, rfl, hq⟩
  · refine wpList_append_grows w hgd s x 25 ho 26 i z 1 4 Try.underlying25 hi hz0 hz1 hz2 hz3 (by decide) none 0 0 [] hs (fun _ => ⟨rfl, rfl⟩) rfl (fun _ e => by cases e) ad 1 c [.int .u32 (n : Int)] hx rfl hcells hone (by decide) (by decide) (by decide) ?_
    intro v' w' ho hg
    exact h v' w' none (QAt.fresh (L := [n]) ho hB hp) hg (fun k e => by cases e)
  · have hlo : (L.map fun x : Nat => Value.int .u32 (x : Int)).length = L.length * 1 := by simp
    refine wpList_append_arg w hgd s x 25 ho 26 i z 1 4 Try.underlying25 hi hz0 hz1 hz2 hz3 (by decide) g off L.length cap (L.map fun x : Nat => Value.int .u32 (x : Int)) hs hlo ?_ ad 1 c [.int .u32 (n : Int)] hx rfl hcells hone ?_ ?_ ?_ ?_ ?_
    · intro j u hj
      have hjl : j < L.length := by have := (List.getElem?_eq_some_iff.1 hj).1; simpa using this
      rw [hq.cell j hjl, ← hj]
      simp [hjl]
    · intro hr j hj
      have : j = 0 := by simpa using hj
      subst this
      rw [Nat.mul_one, Nat.add_zero]
      exact ⟨hq.room L.length (by omega), hq.hot _⟩
    · unfold maxLen; omega
    · omega
    · intro hr
      refine h _ _ (some g) (Or.inr ⟨g, off, cap, by simp, hq.put hr⟩) ?_ (fun k e => by injection e with e; exact e ▸ ⟨hq.low, hq.ne⟩)
      exact grown_set w g _ _
    · intro hr v' w' ho hg
      rw [map_put] at ho
      exact h v' w' none (QAt.fresh (by simpa using ho) hB hp) hg (fun k e => by cases e)
end Go.Proofs.Ytjgnnbbimkhjjaa
