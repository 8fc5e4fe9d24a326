/-
  What bounds all arguments together bounds each.
-/
import Derived.Test.YtjliopclpjeieaaDoorJC
namespace Go.Proofs.YtjliopclpjeieaaDoor
open Go.ChangeShapes Go.WideShapes Go.ChangeAt Go.RowKit
theorem bulk_in {H : Type} {d : DataW H} : ∀ {l : List (DataW H)}, d ∈ l → Rows.uptoBulk d ≤ Rows.uptoBulkAll l
  | c :: l, h => by
    rw [Rows.uptoBulkAll]
    rcases List.mem_cons.mp h with h | h
    · rw [h]; omega
    · have := bulk_in h; omega
end Go.Proofs.YtjliopclpjeieaaDoor
