/-
  Numbers that come in for DrawOrder.
-/
import Derived.Test.YtjgnnbbimkhjjaaA2
set_option linter.unusedSimpArgs false
set_option maxRecDepth 100000
namespace Go.Proofs.Ytjgnnbbimkhjjaa
open Go.RowKit
/-- Numbers of 32 bits that come in. -/
structure ArgU (w : World) (v : Value) (l : List Nat) : Prop where
  shape : ∃ a cap, v = .slice a l.length cap
  cell : l ≠ [] → ∃ bk off cap, v = .slice (some ⟨bk, off, none⟩) l.length cap ∧ ∀ (j : Nat) (hj : j < l.length), w.cell? ⟨bk, off + j, none⟩ = some (.int .u32 (l[j] : Int))
  small : ∀ x ∈ l, x < 4294967296
  len : l.length ≤ maxLen
theorem take_snoc {l : List Nat} {k : Nat} (hk : k < l.length) : l.take k ++ [l[k]] = l.take (k + 1) := by rw [List.take_add_one, List.getElem?_eq_getElem hk]; rfl
theorem drop_take {l : List Nat} {k N : Nat} (hk : k < N) (hN : N ≤ l.length) : (l.take N).drop k = l[k]'(by omega) :: (l.take N).drop (k + 1) := by
  have h : k < (l.take N).length := by rw [List.length_take]; omega
  rw [List.drop_eq_getElem_cons h, List.getElem_take]
/-- What stands in memory while the second loop runs. -/
structure OrAt (w wr : World) (p q : Nat) (L T : List Nat) : Prop where
  d : DAt wr p L
  c : DAt wr q T
  bel : Below w.heap.size w wr
end Go.Proofs.Ytjgnnbbimkhjjaa
