/-
  OwnAll: a path in memory of its own; and cut.
-/
import Derived.Test.YtbdfigfjoiefiabGreatDoorC5
namespace Go.Proofs.YtbdfigfjoiefiabGreatDoor
open Go.RowKit
/-- Segments with the slices by which they lie in memory. -/
abbrev Sv := Int × Value × List Nat
def cellsS (R : List Sv) : List Value := R.flatMap fun r => [.int .i64 r.1, r.2.1]
def sgs (R : List Sv) : List Sg := R.map fun r => (r.1, r.2.2)
/-- A path that lies in rows of its own, not below base. -/
def OwnS (w : World) (base : Nat) (v : Value) (R : List Sv) : Prop := w.ownsRow base 24 2 v R.length (cellsS R) ∧ (∀ r ∈ R, OwnU w base r.2.1 r.2.2) ∧ R.length ≤ 4398046511104
theorem cellsS_length (R : List Sv) : (cellsS R).length = R.length * 2 := by
  induction R with
  | nil => rfl
  | cons r R ih => simp [cellsS] at *; omega
theorem cellsS_at (R : List Sv) (i : Nat) (h : i < R.length) : (cellsS R)[i * 2]? = some (.int .i64 R[i].1) ∧ (cellsS R)[i * 2 + 1]? = some R[i].2.1 := by
  induction R generalizing i with
  | nil => simp at h
  | cons r R ih =>
    cases i with
    | zero => simp [cellsS]
    | succ i =>
      have := ih i (by simpa using h)
      simp only [cellsS, List.flatMap_cons, List.getElem_cons_succ] at *
      rw [show (i + 1) * 2 = i * 2 + 2 by omega, show i * 2 + 2 + 1 = i * 2 + 1 + 2 by omega]
      simpa using this
theorem cellsS_snoc (R : List Sv) (r : Sv) : cellsS (R ++ [r]) = cellsS R ++ [.int .i64 r.1, r.2.1] := by simp [cellsS]
theorem sgs_snoc (R : List Sv) (r : Sv) : sgs (R ++ [r]) = sgs R ++ [(r.1, r.2.2)] := by simp [sgs]
theorem sgs_length (R : List Sv) : (sgs R).length = R.length := by simp [sgs]
theorem OwnS.at {w : World} {base : Nat} {v : Value} {R : List Sv} (h : OwnS w base v R) : PathAt w v (sgs R) := by
  obtain ⟨⟨hn, hv⟩, hx, hl⟩ := h
  rcases hv with ⟨rfl, h0⟩ | ⟨g, cap, cur, rfl, hg, hh, hc, hm, hs, ht⟩
  · obtain rfl : R = [] := List.length_eq_zero_iff.mp h0
    exact ⟨none, 0, 0, 0, rfl, Or.inr rfl, by simp [sgs], fun j hj => by simp [sgs] at hj⟩
  · refine ⟨some ⟨g, 0, none⟩, g, 0, cap, by rw [sgs_length], Or.inl rfl, by rw [sgs_length]; exact ⟨hc, hl⟩, fun j hj => ?_⟩
    have hj' : j < R.length := by rwa [sgs_length] at hj
    have e : ∀ i, i < R.length * 2 → cur.toList[i]? = (cellsS R)[i]? := fun i hi => by
      have : (cur.toList.take (R.length * 2))[i]? = (cellsS R)[i]? := by rw [ht]
      rwa [List.getElem?_take, if_pos hi] at this
    have hk := cellsS_at R j hj'
    have hs' : (sgs R)[j] = (R[j].1, R[j].2.2) := by simp [sgs]
    rw [hs', Nat.zero_add]
    exact ⟨cell_of_row hh _ _ (by rw [e _ (by omega)]; exact hk.1), R[j].2.1, cell_of_row hh _ _ (by rw [e _ (by omega)]; exact hk.2), (hx _ (List.getElem_mem hj')).at⟩
theorem grown_of_below {w w' : World} (h : Below w.heap.size w w') (row : Option Nat) : w.grownBy w' row := ⟨h.os, h.tape, h.output, h.size, fun k hk _ => h.block k hk⟩
theorem owns_below {w w' : World} {base : Nat} {e : TypeId} {size : Nat} {v : Value} {n : Nat} {xs : List Value} (h : w.ownsRow base e size v n xs) (hb : Below w.heap.size w w') : w'.ownsRow base e size v n xs :=
  h.kept (grown_of_below hb none) (by cases hv : v.ownBlock with | none => exact Or.inl rfl | some g => exact Or.inr (by simp))
theorem OwnU.below {w w' : World} {base : Nat} {v : Value} {l : List Nat} (h : OwnU w base v l) (hb : Below w.heap.size w w') : OwnU w' base v l := ⟨owns_below h.1 hb, h.2⟩
theorem OwnU.mono {w : World} {base base' : Nat} {v : Value} {l : List Nat} (h : OwnU w base v l) (hb : base' ≤ base) : OwnU w base' v l := ⟨owns_mono h.1 hb, h.2⟩
theorem OwnS.below {w w' : World} {base : Nat} {v : Value} {R : List Sv} (h : OwnS w base v R) (hb : Below w.heap.size w w') : OwnS w' base v R := ⟨owns_below h.1 hb, fun r hr => (h.2.1 r hr).below hb, h.2.2⟩
theorem OwnS.mono {w : World} {base base' : Nat} {v : Value} {R : List Sv} (h : OwnS w base v R) (hb : base' ≤ base) : OwnS w base' v R := ⟨owns_mono h.1 hb, fun r hr => (h.2.1 r hr).mono hb, h.2.2⟩
/-- Rows of unlike types lie in unlike blocks. -/
theorem owns_apart {w : World} {b1 b2 : Nat} {e1 e2 : TypeId} {s1 s2 : Nat} {v1 v2 : Value} {n1 n2 : Nat} {x1 x2 : List Value} (h1 : w.ownsRow b1 e1 s1 v1 n1 x1) (h2 : w.ownsRow b2 e2 s2 v2 n2 x2) (ne : e1 ≠ e2) : v1.ownBlock = none ∨ v1.ownBlock ≠ v2.ownBlock := by
  obtain ⟨_, ⟨rfl, _⟩ | ⟨g, cap, cur, rfl, _, hh, _⟩⟩ := h1
  · exact Or.inl rfl
  · obtain ⟨_, ⟨rfl, _⟩ | ⟨g', cap', cur', rfl, _, hh', _⟩⟩ := h2
    · exact Or.inr (by simp [Value.ownBlock])
    · right
      intro he
      simp only [Value.ownBlock, Option.some.injEq] at he
      subst he
      rw [hh] at hh'
      simp at hh'
      exact ne hh'.2
theorem OwnU.grown {w w' : World} {base base' : Nat} {v t : Value} {l : List Nat} {n : Nat} {xs : List Value} (h : OwnU w base v l) (ht : w.ownsRow base' 24 2 t n xs) (hg : w.grownBy w' t.ownBlock) : OwnU w' base v l :=
  ⟨h.1.kept hg (owns_apart h.1 ht (by decide)), h.2⟩
theorem OwnU.alloc {w : World} {base : Nat} {v : Value} {l : List Nat} (h : OwnU w base v l) (o : Obj) : OwnU (w.alloc o) base v l := ⟨h.1.alloc o, h.2⟩
end Go.Proofs.YtbdfigfjoiefiabGreatDoor
