/-
  Covering: plain facts on prefixes, their cuts and their bits.
-/
import Derived.Test.YtkgedoedojkdkaaDoorM1
import Derived.Test.YtkgedoedojkdkaaDoorB8
import Derived.Test.YtkgedoedojkdkaaDoorB26
namespace Go.Proofs.YtkgedoedojkdkaaDoor
theorem mk_clamp (n : Int) : mk n = mk (min (max n 0) 8) := by
  unfold mk
  by_cases a : n ≤ 0
  · rw [if_pos a, if_pos (by omega)]
  · by_cases b : 8 ≤ n
    · rw [if_neg a, if_pos b, if_neg (by omega), if_pos (by omega)]
    · rw [show min (max n 0) 8 = n by omega]
theorem mk_and (n m : Int) : mk n &&& mk m = mk (min n m) := by
  rw [mk_clamp n, mk_clamp m, mk_clamp (min n m)]
  have h : ∀ a : Fin 9, ∀ b : Fin 9, mk (a.val : Int) &&& mk (b.val : Int) = mk (min (max (min (a.val : Int) (b.val : Int)) 0) 8) := by decide +kernel
  have h1 := h ⟨(min (max n 0) 8).toNat, by omega⟩ ⟨(min (max m 0) 8).toNat, by omega⟩
  simp only at h1
  rw [Int.toNat_of_nonneg (by omega), Int.toNat_of_nonneg (by omega)] at h1
  rw [h1]
  congr 1
  omega
theorem msk_msk (l : List UInt8) (n m : Int) : msk (msk l n) m = msk l (min n m) := by
  apply List.ext_getElem
  · simp [msk]
  · intro i h1 h2
    simp only [msk, List.getElem_mapIdx]
    rw [UInt8.and_assoc, mk_and]
    congr 2
    omega
/-- The bits behind a mask that lets them through. -/
theorem bit_mk : ∀ b : Fin 256, ∀ t : Fin 9, ∀ j : Fin 8, j.val < t.val → (b.val &&& (mk (t.val : Int)).toNat) / 2 ^ (7 - j.val) % 2 = b.val / 2 ^ (7 - j.val) % 2 := by decide +kernel
theorem bitAt_msk (l : List UInt8) (n : Int) (i : Nat) (h : (i : Int) < n) : bitAt (msk l n) i = bitAt l i := by
  unfold bitAt
  by_cases c : i / 8 < l.length
  · have c' : i / 8 < (msk l n).length := by rw [msk_length]; exact c
    rw [List.getD_eq_getElem?_getD, List.getD_eq_getElem?_getD, List.getElem?_eq_getElem c', List.getElem?_eq_getElem c]
    simp only [Option.getD_some, msk, List.getElem_mapIdx, UInt8.toNat_and]
    rw [mk_clamp]
    have := bit_mk ⟨l[i / 8].toNat, l[i / 8].toNat_lt⟩ ⟨(min (max (n - 8 * ((i / 8 : Nat) : Int)) 0) 8).toNat, by omega⟩ ⟨i % 8, by omega⟩ (by simp only; omega)
    simp only at this
    rw [Int.toNat_of_nonneg (by omega)] at this
    exact this
  · rw [List.getD_eq_getElem?_getD, List.getD_eq_getElem?_getD, List.getElem?_eq_none (by rw [msk_length]; omega), List.getElem?_eq_none (by omega)]
theorem not_less_of_le : ∀ x y : List UInt8, x.length = y.length → (∀ i (h : i < x.length) (k : i < y.length), x[i].toNat ≤ y[i].toNat) → Op.bytesLess y x = false
  | [], [], _, _ => rfl
  | [], _ :: _, h, _ => by simp at h
  | _ :: _, [], h, _ => by simp at h
  | a :: x, b :: y, h, k => by
    have k0 := k 0 (by simp) (by simp)
    simp only [List.getElem_cons_zero] at k0
    have ih := not_less_of_le x y (by simpa using h) (fun i p q => by have := k (i + 1) (by simp; omega) (by simp; omega); simpa using this)
    simp only [Op.bytesLess, Bool.or_eq_false_iff, decide_eq_false_iff_not, Bool.and_eq_false_iff]
    exact ⟨by rw [UInt8.lt_iff_toNat_lt]; omega, Or.inr ih⟩
theorem ordS_msk (l : List UInt8) (n : Int) : ordS (msk l n) l ≤ 0 := by
  have h : Op.bytesLess l (msk l n) = false := not_less_of_le (msk l n) l (msk_length l n) (fun i p q => by
    simp only [msk, List.getElem_mapIdx, UInt8.toNat_and]; exact Nat.and_le_left)
  unfold ordS
  split
  · omega
  · have : ¬ (Op.bytesLess (msk l n) l = true) := by assumption
    have e := less_total (msk l n) l (by simpa using this) h
    rw [if_pos (by rw [e]; simp)]
    exact Int.le_refl _

section
variable {fa ra : Int} {sa : ByteArray} {la fb rb : Int} {sb : ByteArray} {lb k : Int}
theorem mk_data (l : List UInt8) : (⟨l.toArray⟩ : ByteArray).data.toList = l := rfl
theorem cut_chk (hb : chk fb rb sb lb = 0) (k0 : 0 ≤ k) (k1 : k ≤ lb) : chk fb rb ⟨(msk sb.data.toList k).toArray⟩ k = 0 := by
  obtain ⟨h1, h2, h3, h4, h5, h6⟩ := chk_zero hb
  exact chk_cut fb rb _ k h1 (by rw [← h2]; simp) k0 (by omega) h5
theorem cov_cut (hb : chk fb rb sb lb = 0) (k0 : 0 ≤ k) (k1 : k ≤ lb) : covB fb rb ⟨(msk sb.data.toList k).toArray⟩ k fb rb sb lb = true := by
  unfold covB
  exact decide_eq_true ⟨hb, k0, k1, rfl, rfl, rfl⟩
theorem cov_self (hb : chk fb rb sb lb = 0) : covB fb rb sb lb fb rb sb lb = true := by
  obtain ⟨h1, h2, h3, h4, h5, h6⟩ := chk_zero hb
  unfold covB
  exact decide_eq_true ⟨hb, h3, Int.le_refl _, rfl, rfl, h6⟩
theorem pcmp_cut (k1 : k ≤ lb) : pcmp fb rb ⟨(msk sb.data.toList k).toArray⟩ k fb rb sb lb ≤ 0 := by
  unfold pcmp
  rw [if_neg (by rw [ord_zero.2 rfl]; decide), if_neg (by rw [ord_zero.2 rfl]; decide)]
  have h := ordS_msk sb.data.toList k
  rw [ByteArray.toList_eq, ByteArray.toList_eq, mk_data]
  split
  · exact h
  · exact ord_le.2 k1
theorem cov_parts (h : covB fa ra sa la fb rb sb lb = true) : chk fb rb sb lb = 0 ∧ 0 ≤ la ∧ la ≤ lb ∧ fb = fa ∧ rb = ra ∧ msk sb.data.toList la = sa.data.toList := by
  unfold covB at h
  exact of_decide_eq_true h
theorem cov_either (h : covB fa ra sa la fb rb sb lb = true) (ha : chk fa ra sa la = 0) (k0 : 0 ≤ k) (k1 : k ≤ lb) :
    covB fa ra sa la fb rb ⟨(msk sb.data.toList k).toArray⟩ k = true ∨ covB fb rb ⟨(msk sb.data.toList k).toArray⟩ k fa ra sa la = true := by
  obtain ⟨h1, h2, h3, h4, h5, h6⟩ := cov_parts h
  by_cases c : la ≤ k
  · left
    unfold covB
    exact decide_eq_true ⟨cut_chk h1 k0 k1, h2, c, h4, h5, by rw [mk_data, msk_msk, show min k la = la by omega]; exact h6⟩
  · right
    unfold covB
    exact decide_eq_true ⟨ha, k0, by omega, h4.symm, h5.symm, by rw [mk_data, ← h6, msk_msk, show min la k = k by omega]⟩
theorem cov_both (h : covB fa ra sa la fb rb sb lb = true) (g : covB fb rb sb lb fa ra sa la = true) : fa = fb ∧ ra = rb ∧ sa = sb ∧ la = lb := by
  obtain ⟨h1, h2, h3, h4, h5, h6⟩ := cov_parts h
  obtain ⟨g1, g2, g3, g4, g5, g6⟩ := cov_parts g
  have e : la = lb := by omega
  obtain ⟨_, _, _, _, _, hm⟩ := chk_zero h1
  refine ⟨h4.symm, h5.symm, ?_, e⟩
  rw [e, hm] at h6
  have : sa.data = sb.data := by
    apply Array.ext'
    exact h6.symm
  cases sa; cases sb; simp at this; rw [this]
theorem cov_through (h : covB fa ra sa la fb rb ⟨(msk sb.data.toList k).toArray⟩ k = true) (hb : chk fb rb sb lb = 0) (k1 : k ≤ lb) : covB fa ra sa la fb rb sb lb = true := by
  obtain ⟨h1, h2, h3, h4, h5, h6⟩ := cov_parts h
  rw [mk_data, msk_msk, show min k la = la by omega] at h6
  unfold covB
  exact decide_eq_true ⟨hb, h2, by omega, h4, h5, h6⟩
theorem bit_cut (i : Nat) (h : (i : Int) < k) : bitI ⟨(msk sb.data.toList k).toArray⟩ i = bitI sb i := by
  unfold bitI
  rw [if_pos (by omega), if_pos (by omega), Int.toNat_natCast, mk_data, bitAt_msk _ _ _ h]
end
end Go.Proofs.YtkgedoedojkdkaaDoor
