/-
  The law's own maker of prefixes: whatever the raw data, a prefix that may be.
-/
import Derived.Test.YtfhbgpepkplbaaaGreatDoorB16
namespace Go.Proofs.YtfhbgpepkplbaaaGreatDoor
open Go.RowKit
theorem msk_idem (l : List UInt8) (n : Int) : msk (msk l n) n = msk l n := by
  apply List.ext_getElem
  · simp [msk]
  · intro i h1 h2
    simp only [msk, List.getElem_mapIdx]
    apply UInt8.toNat_inj.1
    simp [UInt8.toNat_and, Nat.and_assoc]
theorem chk_cut (f r : Int) (l : List UInt8) (n : Int) (hz : szOf f ≠ 0) (hs : (l.length : Int) = szOf f) (h0 : 0 ≤ n) (h1 : n ≤ 8 * szOf f) (hr : r = 0 ∨ 4 ≤ f) : chk f r ⟨(msk l n).toArray⟩ n = 0 := by
  unfold chk
  have e : ((⟨(msk l n).toArray⟩ : ByteArray).size : Int) = szOf f := by
    show ((msk l n).toArray.size : Int) = szOf f
    rw [List.size_toArray, msk_length]; exact hs
  rw [if_pos ⟨hz, e, h0, h1, hr, by rw [List.toList_toArray]; exact msk_idem l n⟩]
end Go.Proofs.YtfhbgpepkplbaaaGreatDoor
