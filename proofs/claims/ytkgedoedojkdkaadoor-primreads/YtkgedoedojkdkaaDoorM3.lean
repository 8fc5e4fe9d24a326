/-
  Bits tell bytes: what the reference asks bit by bit is what the program asks by masks; the order of texts byte by byte.
-/
import Derived.Test.YtkgedoedojkdkaaDoorM2
namespace Go.Proofs.YtkgedoedojkdkaaDoor
theorem bit_mk_out : ∀ b : Fin 256, ∀ t : Fin 9, ∀ j : Fin 8, t.val ≤ j.val → (b.val &&& (mk (t.val : Int)).toNat) / 2 ^ (7 - j.val) % 2 = 0 := by decide +kernel
theorem bitAt_out (l : List UInt8) (i : Nat) (h : 8 * l.length ≤ i) : bitAt l i = 0 := by
  unfold bitAt
  rw [List.getD_eq_getElem?_getD, List.getElem?_eq_none (by omega)]
  simp
theorem bitAt_msk_out (l : List UInt8) (n : Int) (i : Nat) (h : n ≤ (i : Int)) : bitAt (msk l n) i = 0 := by
  by_cases c : i / 8 < l.length
  · unfold bitAt
    have c' : i / 8 < (msk l n).length := by rw [msk_length]; exact c
    rw [List.getD_eq_getElem?_getD, List.getElem?_eq_getElem c']
    simp only [Option.getD_some, msk, List.getElem_mapIdx, UInt8.toNat_and]
    rw [mk_clamp]
    have := bit_mk_out ⟨l[i / 8].toNat, l[i / 8].toNat_lt⟩ ⟨(min (max (n - 8 * ((i / 8 : Nat) : Int)) 0) 8).toNat, by omega⟩ ⟨i % 8, by omega⟩ (by simp only; omega)
    simp only at this
    rw [Int.toNat_of_nonneg (by omega)] at this
    exact this
  · exact bitAt_out _ _ (by rw [msk_length]; omega)
theorem byte_ext (x y : Nat) (hx : x < 256) (hy : y < 256) (h : ∀ j, j < 8 → x / 2 ^ (7 - j) % 2 = y / 2 ^ (7 - j) % 2) : x = y := by
  have h0 := h 0 (by omega)
  have h1 := h 1 (by omega)
  have h2 := h 2 (by omega)
  have h3 := h 3 (by omega)
  have h4 := h 4 (by omega)
  have h5 := h 5 (by omega)
  have h6 := h 6 (by omega)
  have h7 := h 7 (by omega)
  simp only [Nat.reduceSub, Nat.reducePow] at h0 h1 h2 h3 h4 h5 h6 h7
  omega
theorem bits_ext (a b : List UInt8) (hl : a.length = b.length) (h : ∀ i, i < 8 * a.length → bitAt a i = bitAt b i) : a = b := by
  apply List.ext_getElem hl
  intro i h1 h2
  apply UInt8.toNat_inj.1
  refine byte_ext _ _ a[i].toNat_lt b[i].toNat_lt fun j hj => ?_
  have := h (8 * i + j) (by omega)
  unfold bitAt at this
  rw [show (8 * i + j) / 8 = i from by omega, show (8 * i + j) % 8 = j from by omega, List.getD_eq_getElem?_getD, List.getD_eq_getElem?_getD, List.getElem?_eq_getElem h1, List.getElem?_eq_getElem h2] at this
  exact this
theorem msk_of_bits (l : List UInt8) (n : Int) (h : ∀ i : Nat, n ≤ (i : Int) → i < 8 * l.length → bitAt l i = 0) : msk l n = l := by
  refine bits_ext _ _ (msk_length l n) fun i hi => ?_
  rw [msk_length] at hi
  by_cases c : (i : Int) < n
  · exact bitAt_msk l n i c
  · rw [bitAt_msk_out l n i (by omega), h i (by omega) hi]
theorem bits_of_msk (l : List UInt8) (n : Int) (h : msk l n = l) (i : Nat) (hi : n ≤ (i : Int)) : bitAt l i = 0 := by
  rw [← h]; exact bitAt_msk_out l n i hi
theorem msk_eq_of_bits (a b : List UInt8) (n : Int) (hl : a.length = b.length) (ha : msk a n = a) (h : ∀ i : Nat, (i : Int) < n → bitAt a i = bitAt b i) : msk b n = a := by
  refine bits_ext _ _ (by rw [msk_length, hl]) fun i _ => ?_
  by_cases c : (i : Int) < n
  · rw [bitAt_msk b n i c, h i c]
  · rw [bitAt_msk_out b n i (by omega), bits_of_msk a n ha i (by omega)]
theorem bits_of_eq (a b : List UInt8) (n : Int) (h : msk b n = a) (i : Nat) (hi : (i : Int) < n) : bitAt a i = bitAt b i := by
  rw [← h]; exact bitAt_msk b n i hi
theorem bitI_nat (s : ByteArray) (i : Nat) : bitI s i = (bitAt s.data.toList i : Int) := by
  unfold bitI
  rw [if_pos (by omega), Int.toNat_natCast]
/-- The first byte that tells two texts apart tells their order. -/
theorem ordS_diff : ∀ (a b : List UInt8) (k : Nat) (ha : k < a.length) (hb : k < b.length), (∀ j (h1 : j < a.length) (h2 : j < b.length), j < k → a[j] = b[j]) → a[k] ≠ b[k] → ordS a b = ord (a[k].toNat : Int) (b[k].toNat : Int)
  | [], _, _, ha, _, _, _ => by simp at ha
  | _ :: _, [], _, _, hb, _, _ => by simp at hb
  | x :: a, y :: b, 0, _, _, _, hn => by
    simp only [List.getElem_cons_zero] at hn ⊢
    have hne : x.toNat ≠ y.toNat := fun e => hn (UInt8.toNat_inj.1 e)
    unfold ordS ord
    by_cases c : x.toNat < y.toNat
    · have : Op.bytesLess (x :: a) (y :: b) = true := by simp [Op.bytesLess, UInt8.lt_iff_toNat_lt, c]
      rw [if_pos this, if_pos (by omega)]
    · have h1 : Op.bytesLess (x :: a) (y :: b) = false := by simp [Op.bytesLess, UInt8.lt_iff_toNat_lt, c, hn]
      have h2 : ((x :: a) == (y :: b)) = false := by simp [hn]
      rw [h1, h2, if_neg (by simp), if_neg (by simp), if_neg (by omega), if_pos (by omega)]
  | x :: a, y :: b, k + 1, ha, hb, h, hn => by
    have e : x = y := h 0 (by simp) (by simp) (by omega)
    subst e
    have ih := ordS_diff a b k (by simpa using ha) (by simpa using hb) (fun j h1 h2 hj => by have := h (j + 1) (by simp; omega) (by simp; omega) (by omega); simpa using this) (by simpa using hn)
    simp only [List.getElem_cons_succ]
    rw [← ih]
    unfold ordS
    have e1 : Op.bytesLess (x :: a) (x :: b) = Op.bytesLess a b := by simp [Op.bytesLess]
    have e2 : ((x :: a) == (x :: b)) = (a == b) := by simp
    rw [e1, e2]
theorem ord_succ (x y : Int) : ord (x + 1) (y + 1) = ord x y := by
  have h1 : (x + 1 < y + 1) ↔ x < y := by omega
  have h2 : (y + 1 < x + 1) ↔ y < x := by omega
  unfold ord
  simp only [h1, h2]
theorem ordS_same : ∀ (a b : List UInt8), (∀ j (h1 : j < a.length) (h2 : j < b.length), a[j] = b[j]) → ordS a b = ord (a.length : Int) (b.length : Int)
  | [], [], _ => by decide
  | [], _ :: _, _ => by
    unfold ordS ord
    rw [if_pos (by simp [Op.bytesLess]), if_pos (by simp only [List.length_nil, List.length_cons]; omega)]
  | _ :: _, [], _ => by
    unfold ordS ord
    rw [if_neg (by simp [Op.bytesLess]), if_neg (by simp), if_neg (by simp only [List.length_nil, List.length_cons]; omega), if_pos (by simp only [List.length_nil, List.length_cons]; omega)]
  | x :: a, y :: b, h => by
    have e : x = y := h 0 (by simp) (by simp)
    subst e
    have ih := ordS_same a b (fun j h1 h2 => by have := h (j + 1) (by simp; omega) (by simp; omega); simpa using this)
    have e0 : ord ((x :: a).length : Int) ((x :: b).length : Int) = ord (a.length : Int) (b.length : Int) := by
      rw [List.length_cons, List.length_cons, Int.natCast_succ, Int.natCast_succ]
      exact ord_succ _ _
    rw [e0, ← ih]
    unfold ordS
    have e1 : Op.bytesLess (x :: a) (x :: b) = Op.bytesLess a b := by simp [Op.bytesLess]
    have e2 : ((x :: a) == (x :: b)) = (a == b) := by simp
    rw [e1, e2]
end Go.Proofs.YtkgedoedojkdkaaDoor
