/-
  Covering: plain facts on prefixes, their cuts and their bits.
-/
import Derived.Test.YtfhbgpepkplbaaaDoorB26
namespace Go.Proofs.YtfhbgpepkplbaaaDoor
theorem mk_clamp (n : Int) : mk n = mk (min (max n 0) 8) := by
  unfold mk
  by_cases a : n ≤ 0
  · rw [if_pos a, if_pos (by omega)]
  · by_cases b : 8 ≤ n
    · rw [if_neg a, if_pos b, if_neg (by omega), if_pos (by omega)]
    · rw [show min (max n 0) 8 = n by omega]
theorem mk_and (n m : Int) : mk n &&& mk m = mk (min n m) := by
  rw [mk_clamp n, mk_clamp m, mk_clamp (min n m)]
  have h : ∀ a : Fin 9, ∀ b : Fin 9, mk (a.val : Int) &&& mk (b.val : Int) = mk (min (max (min (a.val : Int) (b.val : Int)) 0) 8) := by decide +kernel
  have h1 := h ⟨(min (max n 0) 8).toNat, by omega⟩ ⟨(min (max m 0) 8).toNat, by omega⟩
  simp only at h1
  rw [Int.toNat_of_nonneg (by omega), Int.toNat_of_nonneg (by omega)] at h1
  rw [h1]
  congr 1
  omega
theorem msk_msk (l : List UInt8) (n m : Int) : msk (msk l n) m = msk l (min n m) := by
  apply List.ext_getElem
  · simp [msk]
  · intro i h1 h2
    simp only [msk, List.getElem_mapIdx]
    rw [UInt8.and_assoc, mk_and]
    congr 2
    omega
/-- The bits behind a mask that lets them through. -/
theorem bit_mk : ∀ b : Fin 256, ∀ t : Fin 9, ∀ j : Fin 8, j.val < t.val → (b.val &&& (mk (t.val : Int)).toNat) / 2 ^ (7 - j.val) % 2 = b.val / 2 ^ (7 - j.val) % 2 := by decide +kernel
theorem bitAt_msk (l : List UInt8) (n : Int) (i : Nat) (h : (i : Int) < n) : bitAt (msk l n) i = bitAt l i := by
  unfold bitAt
  by_cases c : i / 8 < l.length
  · have c' : i / 8 < (msk l n).length := by rw [msk_length]; exact c
    rw [List.getD_eq_getElem?_getD, List.getD_eq_getElem?_getD, List.getElem?_eq_getElem c', List.getElem?_eq_getElem c]
    simp only [Option.getD_some, msk, List.getElem_mapIdx, UInt8.toNat_and]
    rw [mk_clamp]
    have := bit_mk ⟨l[i / 8].toNat, l[i / 8].toNat_lt⟩ ⟨(min (max (n - 8 * ((i / 8 : Nat) : Int)) 0) 8).toNat, by omega⟩ ⟨i % 8, by omega⟩ (by simp only; omega)
    simp only at this
    rw [Int.toNat_of_nonneg (by omega)] at this
    exact this
  · rw [List.getD_eq_getElem?_getD, List.getD_eq_getElem?_getD, List.getElem?_eq_none (by rw [msk_length]; omega), List.getElem?_eq_none (by omega)]
end Go.Proofs.YtfhbgpepkplbaaaDoor
