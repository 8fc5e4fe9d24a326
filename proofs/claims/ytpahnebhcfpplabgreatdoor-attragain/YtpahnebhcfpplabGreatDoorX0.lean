/-
  Communities as plain lists, and their bytes. Nothing of the program is named here.
-/
import Derived.Test.YtpahnebhcfpplabGreatDoorS0
namespace Go.Proofs.YtpahnebhcfpplabGreatDoor
/-- Does each one stand behind the one ahead of it? -/
def rising {α : Type} (lt : α → α → Bool) : List α → Bool
  | [] => true
  | [_] => true
  | x :: y :: l => lt x y && rising lt (y :: l)
/-- May these be as a list? -/
def mayL {α : Type} (lt : α → α → Bool) (l : List α) : Bool := decide (l.length ≤ 64) && rising lt l
theorem rising_iff {α : Type} (lt : α → α → Bool) (l : List α) : rising lt l = true ↔ ∀ i (h : i + 1 < l.length), lt l[i] l[i + 1] = true := by
  induction l with
  | nil => simp [rising]
  | cons x l ih =>
    cases l with
    | nil => simp [rising]
    | cons y l =>
      simp only [rising, Bool.and_eq_true, ih]
      constructor
      · rintro ⟨h1, h2⟩ i h
        cases i with
        | zero => exact h1
        | succ i => exact h2 i (by simpa using h)
      · intro h
        exact ⟨h 0 (by simp), fun i hi => h (i + 1) (by simpa using hi)⟩
theorem rising_false {α : Type} {lt : α → α → Bool} {l : List α} (i : Nat) (h : i + 1 < l.length) (hl : lt l[i] l[i + 1] = false) : rising lt l = false := by
  cases hr : rising lt l with
  | false => rfl
  | true => have := (rising_iff lt l).mp hr i h; rw [hl] at this; exact absurd this (by simp)
/-- A large community: Global, A, B. -/
abbrev Lg := Nat × Nat × Nat
def ltN (a b : Nat) : Bool := decide (a < b)
def ltL (a b : Lg) : Bool := decide (a.1 < b.1) || (decide (a.1 = b.1) && (decide (a.2.1 < b.2.1) || (decide (a.2.1 = b.2.1) && decide (a.2.2 < b.2.2))))
end Go.Proofs.YtpahnebhcfpplabGreatDoor
