/-
  Rest; the reference's pairs of families.
-/
import Derived.Test.YtkaghjohkhlimabDoorFC
namespace Go.Proofs.YtkaghjohkhlimabDoor
open Go.RowKit
theorem rest_any (p : Nat) (l : List UInt8) (w : World) (h : RdrAt w p ⟨l.toArray⟩) :
    Calls Tryd.prog 17 #[.pointer (some ⟨p, 0, none⟩)] w fun e w' => e = .returned (.string ⟨l.toArray⟩) ∧ Beside p w w' := by
  have HK : Hid (_ : Prop) := left_any p _ w h
  have HT : Hid (_ : Prop) := take_yes p ⟨l.toArray⟩ (⟨l.toArray⟩ : ByteArray).size w h (Nat.le_refl _)
  have hx : (⟨l.toArray⟩ : ByteArray).extract 0 (⟨l.toArray⟩ : ByteArray).size = ⟨l.toArray⟩ := by apply ByteArray.ext; simp
  rw [hx] at HT
  clear hx h
  go_enter Tryd.func17, Tryd.ntmps17
  go_wp2_with fail
  refine Calls.mono HK.out ?_
  rintro e w1 ⟨rfl, hw1⟩
  obtain rfl : w = w1 := hw1.symm
  clear hw1
  go_wp2_with fail
  refine Calls.mono HT.out ?_
  rintro e w2 ⟨rfl, rfl⟩
  go_wp2
  go_ret
  exact ⟨rfl, Beside.set _ _ _⟩
/-- The pair of a pair's family is that pair. -/
theorem fm_pair {x y : Int} (h : fmN x y ≠ 0) : (afN (fmN x y) : Int) = x ∧ (sfN (fmN x y) : Int) = y := by
  unfold fmN at *
  by_cases h1 : mt 1 x y = true
  · rw [if_pos h1]; unfold mt afs sfs at h1; simp at h1; exact ⟨by rw [← h1.1]; decide, by rw [← h1.2]; decide⟩
  · rw [if_neg h1] at h ⊢
    by_cases h2 : mt 2 x y = true
    · rw [if_pos h2]; unfold mt afs sfs at h2; simp at h2; exact ⟨by rw [← h2.1]; decide, by rw [← h2.2]; decide⟩
    · rw [if_neg h2] at h ⊢
      by_cases h3 : mt 3 x y = true
      · rw [if_pos h3]; unfold mt afs sfs at h3; simp at h3; exact ⟨by rw [← h3.1]; decide, by rw [← h3.2]; decide⟩
      · rw [if_neg h3] at h ⊢
        by_cases h4 : mt 4 x y = true
        · rw [if_pos h4]; unfold mt afs sfs at h4; simp at h4; exact ⟨by rw [← h4.1]; decide, by rw [← h4.2]; decide⟩
        · rw [if_neg h4] at h ⊢
          by_cases h5 : mt 5 x y = true
          · rw [if_pos h5]; unfold mt afs sfs at h5; simp at h5; exact ⟨by rw [← h5.1]; decide, by rw [← h5.2]; decide⟩
          · rw [if_neg h5] at h; exact absurd rfl h
end Go.Proofs.YtkaghjohkhlimabDoor
