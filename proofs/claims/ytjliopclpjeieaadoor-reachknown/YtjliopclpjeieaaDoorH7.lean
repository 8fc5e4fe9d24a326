/-
  The law's own cut.
-/
import Derived.Test.YtjliopclpjeieaaDoorE3
import Derived.Lib.AppendStr
namespace Go.Proofs.YtjliopclpjeieaaDoor
open Go.RowKit
theorem cellsN_len (R : List Nl) : (cellsN R).length = R.length * 6 := by
  induction R with
  | nil => rfl
  | cons a R ih => simp only [cellsN, List.flatMap_cons, List.length_append, List.length_cons] at *; simp only [Nl.cs, List.length_cons, List.length_nil]; omega
theorem cellsN_one (R : List Nl) : ∀ u ∈ cellsN R, u.oneCell' = true := by
  intro u hu
  simp only [cellsN, List.mem_flatMap] at hu
  obtain ⟨a, _, ha⟩ := hu
  simp only [Nl.cs, List.mem_cons, List.not_mem_nil, or_false] at ha
  rcases ha with h | h | h | h | h | h <;> subst h <;> rfl
theorem addr_add (b off i : Nat) : Addr.add ⟨b, off, none⟩ i = ⟨b, off + i, none⟩ := by unfold Addr.add; by_cases e : i = 0 <;> simp [e]
theorem RowN.cells {w : World} {b off : Nat} {R : List Nl} (h : RowN w b off R) : ∀ j u, (cellsN R)[j]? = some u → w.cell? (Addr.add ⟨b, off, none⟩ j) = some u := by
  intro j u hj
  rw [addr_add]
  have hlt : j < R.length * 6 := by
    have := (List.getElem?_eq_some_iff.1 hj).1
    rwa [cellsN_len] at this
  have hq : j / 6 < R.length := by omega
  obtain ⟨e0, e1, e2, e3, e4, e5⟩ := cellsN_at R (j / 6) hq
  obtain ⟨c0, c1, c2, c3, c4, c5⟩ := h (j / 6) hq
  have h6 : j % 6 < 6 := Nat.mod_lt _ (by decide)
  rcases (by omega : j = j / 6 * 6 ∨ j = j / 6 * 6 + 1 ∨ j = j / 6 * 6 + 2 ∨ j = j / 6 * 6 + 3 ∨ j = j / 6 * 6 + 4 ∨ j = j / 6 * 6 + 5) with e | e | e | e | e | e
  · rw [e, e0] at hj; rw [e, c0]; exact hj
  · rw [e, e1] at hj; rw [e, ← Nat.add_assoc, c1]; exact hj
  · rw [e, e2] at hj; rw [e, ← Nat.add_assoc, c2]; exact hj
  · rw [e, e3] at hj; rw [e, ← Nat.add_assoc, c3]; exact hj
  · rw [e, e4] at hj; rw [e, ← Nat.add_assoc, c4]; exact hj
  · rw [e, e5] at hj; rw [e, ← Nat.add_assoc, c5]; exact hj
theorem RowN.take {w : World} {b off : Nat} {R : List Nl} (h : RowN w b off R) (k : Nat) : RowN w b off (R.take k) := by
  intro j hj
  have hj' : j < R.length := by simp at hj; omega
  have := h j hj'
  simp only [List.getElem_take]
  exact this
end Go.Proofs.YtjliopclpjeieaaDoor
