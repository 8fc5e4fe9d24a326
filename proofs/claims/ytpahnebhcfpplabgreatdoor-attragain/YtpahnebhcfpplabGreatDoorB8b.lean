/-
  A row of sixteen cells that is written whole.
-/
import Derived.Test.YtpahnebhcfpplabGreatDoorB8
namespace Go.Proofs.YtpahnebhcfpplabGreatDoor
open Go.RowKit
theorem h_new {W : World} {o : Obj} {n : Nat} (hn : n = W.heap.size) : (W.alloc o).heap[n]? = some o := by subst hn; exact heap_new _ _
theorem h_up {W : World} {o x : Obj} {n : Nat} (h : W.heap[n]? = some x) : (W.alloc o).heap[n]? = some x := by rw [Below.heap_alloc _ _ _ (Array.getElem?_eq_some_iff.mp h).1]; exact h
def set16 (w : World) (p : Nat) (x0 x1 x2 x3 x4 x5 x6 x7 x8 x9 x10 x11 x12 x13 x14 x15 : Value) : World := ((((((((((((((((w.setCell ⟨p, 0, none⟩ x0).setCell ⟨p, 1, none⟩ x1).setCell ⟨p, 2, none⟩ x2).setCell ⟨p, 3, none⟩ x3).setCell ⟨p, 4, none⟩ x4).setCell ⟨p, 5, none⟩ x5).setCell ⟨p, 6, none⟩ x6).setCell ⟨p, 7, none⟩ x7).setCell ⟨p, 8, none⟩ x8).setCell ⟨p, 9, none⟩ x9).setCell ⟨p, 10, none⟩ x10).setCell ⟨p, 11, none⟩ x11).setCell ⟨p, 12, none⟩ x12).setCell ⟨p, 13, none⟩ x13).setCell ⟨p, 14, none⟩ x14).setCell ⟨p, 15, none⟩ x15)
theorem set16_same {w : World} {p : Nat} (h : w.heap[p]? = some (.cells zA 39 (0, 0))) (x0 x1 x2 x3 x4 x5 x6 x7 x8 x9 x10 x11 x12 x13 x14 x15 : Value) : (set16 w p x0 x1 x2 x3 x4 x5 x6 x7 x8 x9 x10 x11 x12 x13 x14 x15).heap[p]? = some (.cells #[x0, x1, x2, x3, x4, x5, x6, x7, x8, x9, x10, x11, x12, x13, x14, x15] 39 (0, 0)) := by
  unfold set16
  have h0 := heap_setCell_same _ p 0 _ 39 x0 h
  have h1 := heap_setCell_same _ p 1 _ 39 x1 h0
  have h2 := heap_setCell_same _ p 2 _ 39 x2 h1
  have h3 := heap_setCell_same _ p 3 _ 39 x3 h2
  have h4 := heap_setCell_same _ p 4 _ 39 x4 h3
  have h5 := heap_setCell_same _ p 5 _ 39 x5 h4
  have h6 := heap_setCell_same _ p 6 _ 39 x6 h5
  have h7 := heap_setCell_same _ p 7 _ 39 x7 h6
  have h8 := heap_setCell_same _ p 8 _ 39 x8 h7
  have h9 := heap_setCell_same _ p 9 _ 39 x9 h8
  have h10 := heap_setCell_same _ p 10 _ 39 x10 h9
  have h11 := heap_setCell_same _ p 11 _ 39 x11 h10
  have h12 := heap_setCell_same _ p 12 _ 39 x12 h11
  have h13 := heap_setCell_same _ p 13 _ 39 x13 h12
  have h14 := heap_setCell_same _ p 14 _ 39 x14 h13
  have h15 := heap_setCell_same _ p 15 _ 39 x15 h14
  have e : ((((((((((((((((zA.setIfInBounds 0 x0).setIfInBounds 1 x1).setIfInBounds 2 x2).setIfInBounds 3 x3).setIfInBounds 4 x4).setIfInBounds 5 x5).setIfInBounds 6 x6).setIfInBounds 7 x7).setIfInBounds 8 x8).setIfInBounds 9 x9).setIfInBounds 10 x10).setIfInBounds 11 x11).setIfInBounds 12 x12).setIfInBounds 13 x13).setIfInBounds 14 x14).setIfInBounds 15 x15) = #[x0, x1, x2, x3, x4, x5, x6, x7, x8, x9, x10, x11, x12, x13, x14, x15] := by kernel_rfl
  rw [e] at h15
  exact h15
theorem set16_other {w : World} {p k : Nat} (hne : k ≠ p) (x0 x1 x2 x3 x4 x5 x6 x7 x8 x9 x10 x11 x12 x13 x14 x15 : Value) : (set16 w p x0 x1 x2 x3 x4 x5 x6 x7 x8 x9 x10 x11 x12 x13 x14 x15).heap[k]? = w.heap[k]? := by
  unfold set16
  rw [Below.heap_setCell _ _ _ _ hne, Below.heap_setCell _ _ _ _ hne, Below.heap_setCell _ _ _ _ hne, Below.heap_setCell _ _ _ _ hne, Below.heap_setCell _ _ _ _ hne, Below.heap_setCell _ _ _ _ hne, Below.heap_setCell _ _ _ _ hne, Below.heap_setCell _ _ _ _ hne, Below.heap_setCell _ _ _ _ hne, Below.heap_setCell _ _ _ _ hne, Below.heap_setCell _ _ _ _ hne, Below.heap_setCell _ _ _ _ hne, Below.heap_setCell _ _ _ _ hne, Below.heap_setCell _ _ _ _ hne, Below.heap_setCell _ _ _ _ hne, Below.heap_setCell _ _ _ _ hne]
theorem set16_below {B : Nat} {a w : World} (h : Below B a w) {p : Nat} (hp : B ≤ p) (x0 x1 x2 x3 x4 x5 x6 x7 x8 x9 x10 x11 x12 x13 x14 x15 : Value) : Below B a (set16 w p x0 x1 x2 x3 x4 x5 x6 x7 x8 x9 x10 x11 x12 x13 x14 x15) := by
  unfold set16
  exact (((((((((((((((h.setCell hp _).setCell hp _).setCell hp _).setCell hp _).setCell hp _).setCell hp _).setCell hp _).setCell hp _).setCell hp _).setCell hp _).setCell hp _).setCell hp _).setCell hp _).setCell hp _).setCell hp _).setCell hp _
end Go.Proofs.YtpahnebhcfpplabGreatDoor
