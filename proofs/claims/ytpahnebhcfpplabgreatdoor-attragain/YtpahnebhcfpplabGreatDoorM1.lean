/-
  Clone, and appendSegs: segments put behind others, with ASs of their own.
-/
import Derived.Test.YtpahnebhcfpplabGreatDoorC6
import Derived.Deep.RegionHeldLaw
import Derived.Deep.AppendLies
import Derived.Lib.SliceRun
namespace Go.Proofs.YtpahnebhcfpplabGreatDoor
open Go.RowKit
theorem cellsU_at {w : World} {b off : Nat} {l : List Nat} (hr : RowU w b off l) : ∀ (j : Nat) (u : Value), (cellsU l)[j]? = some u → w.cell? (Addr.add ⟨b, off, none⟩ j) = some u := by
  intro j u h
  have hj : j < l.length := by
    have := (List.getElem?_eq_some_iff.mp h).1
    simpa [cellsU] using this
  have := (hr j hj).1
  rw [show Addr.add ⟨b, off, none⟩ j = ⟨b, off + j, none⟩ from by unfold Addr.add; by_cases e : j = 0 <;> simp [e], this]
  simp [cellsU, hj] at h
  rw [h]
theorem cellsU_one (l : List Nat) : ∀ u ∈ cellsU l, u.oneCell' = true := by
  intro u h
  obtain ⟨x, _, rfl⟩ := List.mem_map.mp h
  rfl
/-- What appendSegs puts behind R: the segments of L, each with a slice of its own. -/
theorem OwnS.snoc {w w' : World} {base : Nat} {v v' : Value} {R : List Sv} {k : Int} {u : Value} {l : List Nat} (h : OwnS w base v R) (hu : OwnU w base u l) (hR : R.length + 1 ≤ 4398046511104)
    (h' : w'.ownsRow base 54 2 v' (R.length + 1) (cellsS R ++ [.int .i64 k, u])) (hg : w.grownBy w' v.ownBlock) : OwnS w' base v' (R ++ [(k, u, l)]) := by
  refine ⟨by rw [cellsS_snoc, List.length_append]; exact h', fun r hr => ?_, by simpa using hR⟩
  rcases List.mem_append.mp hr with hr | hr
  · exact (h.2.1 r hr).grown h.1 hg
  · obtain rfl := List.mem_singleton.mp hr
    exact hu.grown h.1 hg
theorem OwnS.alloc {w : World} {base : Nat} {v : Value} {R : List Sv} (h : OwnS w base v R) (o : Obj) : OwnS (w.alloc o) base v R := h.below ((Below.refl _ _).alloc (Nat.le_refl _) o)
end Go.Proofs.YtpahnebhcfpplabGreatDoor
