/-
  The contract of Cut, for every prefix and number: what it cuts, and what it refuses.
-/
import Derived.Test.YthaebbmekonacaaGreatDoorpB5
namespace Go.Proofs.YthaebbmekonacaaGreatDoor.Pr
open Go.RowKit

theorem chk_zero {f r : Int} {s : ByteArray} {l : Int} (h : chk f r s l = 0) : szOf f ≠ 0 ∧ (s.size : Int) = szOf f ∧ 0 ≤ l ∧ l ≤ 8 * szOf f ∧ (r = 0 ∨ 4 ≤ f) ∧ msk s.data.toList l = s.data.toList := by
  unfold chk at h
  split at h
  · assumption
  · omega
theorem chk_two {f r : Int} {s : ByteArray} {l : Int} (h : chk f r s l ≠ 0) : chk f r s l = 2 := by
  unfold chk at *
  by_cases c : szOf f ≠ 0 ∧ (s.size : Int) = szOf f ∧ 0 ≤ l ∧ l ≤ 8 * szOf f ∧ (r = 0 ∨ 4 ≤ f) ∧ msk s.data.toList l = s.data.toList
  · rw [if_pos c] at h; exact absurd rfl h
  · rw [if_neg c]

end Go.Proofs.YthaebbmekonacaaGreatDoor.Pr
