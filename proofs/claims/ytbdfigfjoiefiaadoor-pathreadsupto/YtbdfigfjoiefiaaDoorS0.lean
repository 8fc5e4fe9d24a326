/-
  Paths as plain lists: a segment is its kind and its ASs. Nothing of the program is named here.
-/
import Derived.RowKit
namespace Go.Proofs.YtbdfigfjoiefiaaDoor
/-- A segment: its kind and its ASs. -/
abbrev Sg := Int × List Nat
/-- May a path have this segment? -/
def okSeg (s : Sg) : Bool := decide (1 ≤ s.1) && decide (s.1 ≤ 4) && decide (1 ≤ s.2.length) && decide (s.2.length ≤ 255) && decide (0 ∉ s.2)
/-- May this path be? -/
def okPath (L : List Sg) : Bool := decide (L.length ≤ 16) && L.all okSeg
theorem okSeg_iff (s : Sg) : okSeg s = true ↔ (1 ≤ s.1 ∧ s.1 ≤ 4 ∧ 1 ≤ s.2.length ∧ s.2.length ≤ 255 ∧ 0 ∉ s.2) := by
  simp [okSeg, and_assoc]
/-- How long a path counts. -/
def lenOf (L : List Sg) : Int := (L.map fun s => if s.1 = 2 then (s.2.length : Int) else if s.1 = 1 then 1 else 0).sum
/-- Is it a confederation's? -/
def confed (s : Sg) : Bool := decide (s.1 = 3) || decide (s.1 = 4)
def bareOf (L : List Sg) : List Sg := L.filter fun s => !confed s
def flatOf (L : List Sg) : List Nat := L.flatMap (·.2)
def firstOf : List Sg → Nat × Bool
  | [] => (0, false)
  | s :: L => if confed s then firstOf L else if s.1 = 2 then (match s.2 with | [] => (0, false) | a :: _ => (a, true)) else (0, false)
theorem firstOf_bare (L : List Sg) : firstOf (bareOf L) = firstOf L := by
  induction L with
  | nil => rfl
  | cons s L ih =>
    by_cases h : confed s
    · simp [bareOf, firstOf, h] at *; exact ih
    · simp [bareOf, firstOf, h]
theorem take_snoc {α : Type} (L : List α) (k : Nat) (h : k < L.length) : L.take (k + 1) = L.take k ++ [L[k]] := List.take_succ_eq_append_getElem h
theorem lenOf_snoc (L : List Sg) (s : Sg) : lenOf (L ++ [s]) = lenOf L + (if s.1 = 2 then (s.2.length : Int) else if s.1 = 1 then 1 else 0) := by
  simp [lenOf]
theorem bareOf_snoc (L : List Sg) (s : Sg) : bareOf (L ++ [s]) = bareOf L ++ (if confed s then [] else [s]) := by
  by_cases h : confed s <;> simp [bareOf, h]
theorem flatOf_snoc (L : List Sg) (s : Sg) : flatOf (L ++ [s]) = flatOf L ++ s.2 := by
  simp [flatOf]
end Go.Proofs.YtbdfigfjoiefiaaDoor
