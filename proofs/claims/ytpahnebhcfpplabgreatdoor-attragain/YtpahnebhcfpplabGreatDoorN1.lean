/-
  Prepend: an AS put ahead of a path.
-/
import Derived.Test.YtpahnebhcfpplabGreatDoorM1
import Derived.Test.YtpahnebhcfpplabGreatDoorC2
import Derived.BigQuiet
import Derived.Deep.RegionLaw
namespace Go.Proofs.YtpahnebhcfpplabGreatDoor
open Go.RowKit
/-- A row of one AS that a call has made. -/
theorem own_one {w : World} {base g a : Nat} (hg : base ≤ g) (h : w.heap[g]? = some (.cells #[.int .u32 (a : Int)] 34 (0, 0))) (ha : a < 4294967296) : OwnU w base (.slice (some ⟨g, 0, none⟩) 1 1) [a] :=
  ⟨⟨rfl, Or.inr ⟨g, 1, _, rfl, hg, h, Nat.le_refl _, by unfold maxLen; omega, rfl, rfl⟩⟩, by simpa using ha, by simp⟩
theorem heap_at_new (w : World) (o : Obj) : (w.alloc o).heap[w.heap.size]? = some o := by
  show (w.heap.push o)[w.heap.size]? = _
  simp
/-- A path of one segment that a call has made. -/
theorem own_seg1 {w : World} {base : Nat} {k : Int} {u : Value} {l : List Nat} (hb : base ≤ w.heap.size) (hu : OwnU w base u l) : OwnS (w.alloc (.cells #[.int .i64 k, u] 54)) base (.slice (some ⟨w.heap.size, 0, none⟩) 1 1) [(k, u, l)] :=
  ⟨⟨rfl, Or.inr ⟨w.heap.size, 1, _, rfl, hb, heap_at_new _ _, Nat.le_refl _, by unfold maxLen; omega, rfl, rfl⟩⟩, fun r hr => by
    obtain rfl := List.mem_singleton.mp hr
    exact hu.alloc _, by simp⟩
end Go.Proofs.YtpahnebhcfpplabGreatDoor
