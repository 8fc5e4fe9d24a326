/-
  What the reading of raw prefixes stands on: bytes of an array made a text, worlds at a place of a walk, whole masks.
-/
import Derived.Test.YthaebbmekonacaaGreatDoorpB6
namespace Go.Proofs.YthaebbmekonacaaGreatDoor.Pr
open Go.RowKit
theorem cellOr {W' w2 : World} (hb : Below W'.heap.size W' w2) (b i : Nat) : w2.cell? ⟨b, i, none⟩ = if b < W'.heap.size then W'.cell? ⟨b, i, none⟩ else w2.cell? ⟨b, i, none⟩ := by
  split
  · exact hb.cell (by assumption)
  · rfl
theorem frozenOr {W' w2 : World} (hb : Below W'.heap.size W' w2) (b i : Nat) : w2.frozen? ⟨b, i, none⟩ = if b < W'.heap.size then W'.frozen? ⟨b, i, none⟩ else w2.frozen? ⟨b, i, none⟩ := by
  split
  · exact hb.frozen (by assumption)
  · rfl
/-- The world at a place of the walk, by what is known of it. -/
theorem with_world {P : Program} {c : Code} {Q : Exit → Act → World → Prop} {a : Act} {W : World} (F : World → Prop) (hF : F W) (h : ∀ wx, F wx → Code.wp P c Q a wx) : Code.wp P c Q a W := h W hF
theorem msk_full (l : List UInt8) (n : Int) (h : 8 * (l.length : Int) ≤ n) : msk l n = l := by
  apply List.ext_getElem
  · simp [msk]
  · intro i h1 h2
    have hm : mk (n - 8 * (i : Int)) = 255 := by unfold mk; rw [if_neg (by omega), if_pos (by omega)]
    simp only [msk, List.getElem_mapIdx, hm]
    apply UInt8.toNat_inj.1
    rw [UInt8.toNat_and]
    have := (l[i]).toNat_lt
    exact Nat.and_two_pow_sub_one_of_lt_two_pow (n := 8) this
theorem chk_full (f r : Int) (s : ByteArray) (hz : szOf f ≠ 0) (hs : (s.size : Int) = szOf f) (hr : r = 0 ∨ 4 ≤ f) : chk f r s (8 * szOf f) = 0 := by
  have hb := szOf_bd f
  unfold chk
  rw [if_pos ⟨hz, hs, by omega, by omega, hr, msk_full _ _ (by simp; omega)⟩]
end Go.Proofs.YthaebbmekonacaaGreatDoor.Pr
