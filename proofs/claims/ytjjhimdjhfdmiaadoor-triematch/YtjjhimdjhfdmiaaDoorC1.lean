/-
  Plain facts on the first bit in which two bytes differ.
-/
import Derived.Test.YtjjhimdjhfdmiaaDoorQ1
namespace Go.Proofs.YtjjhimdjhfdmiaaDoor
/-- How many bits a byte has ahead of its first one that is not 0. -/
def lz (x : Nat) : Nat := if x = 0 then 8 else 7 - Nat.log2 x
theorem lz_all : ∀ x : Fin 256, x.val ≠ 0 → lz x.val ≤ 7 ∧ (∀ j : Fin 8, j.val < lz x.val → x.val / 2 ^ (7 - j.val) % 2 = 0) ∧ x.val / 2 ^ (7 - lz x.val) % 2 = 1 := by decide +kernel
theorem bit_xor (x y i : Nat) : (x ^^^ y) / 2 ^ i % 2 = (x / 2 ^ i % 2 + y / 2 ^ i % 2) % 2 := by
  have h := Nat.testBit_xor x y i
  rw [Nat.testBit_eq_decide_div_mod_eq, Nat.testBit_eq_decide_div_mod_eq, Nat.testBit_eq_decide_div_mod_eq] at h
  have a := Nat.mod_two_eq_zero_or_one ((x ^^^ y) / 2 ^ i)
  have b := Nat.mod_two_eq_zero_or_one (x / 2 ^ i)
  have c := Nat.mod_two_eq_zero_or_one (y / 2 ^ i)
  rcases a with a | a <;> rcases b with b | b <;> rcases c with c | c <;> simp [a, b, c] at h ⊢
theorem bt_byte (s : ByteArray) (k j : Nat) (hk : k < s.size) (hj : j < 8) : bt s (8 * k + j) = s[k].toNat / 2 ^ (7 - j) % 2 := by
  unfold bt bitAt
  rw [show (8 * k + j) / 8 = k by omega, show (8 * k + j) % 8 = j by omega]
  have e : s.data.toList.getD k 0 = s[k] := by
    rw [List.getD_eq_getElem?_getD, List.getElem?_eq_getElem (by simpa using hk)]; rfl
  rw [e]
theorem com_same (a b : ByteArray) (n k : Nat) (h : ∀ i, i < 8 * k → bt a i = bt b i) (hk : n ≤ 8 * k) : com a b n = n :=
  com_eq a b n n (Nat.le_refl _) (fun i hi => h i (by omega)) (fun h => by omega)
theorem com_differ (a b : ByteArray) (n k : Nat) (h : ∀ i, i < 8 * k → bt a i = bt b i) (ha : k < a.size) (hb : k < b.size) (hd : a[k].toNat ^^^ b[k].toNat ≠ 0) :
    com a b n = min n (8 * k + lz (a[k].toNat ^^^ b[k].toNat)) := by
  have hx : a[k].toNat ^^^ b[k].toNat < 256 := Nat.xor_lt_two_pow (n := 8) a[k].toNat_lt b[k].toNat_lt
  obtain ⟨l1, l2, l3⟩ := lz_all ⟨_, hx⟩ hd
  dsimp only at l1 l2 l3
  refine com_eq a b n _ (by omega) (fun i hi => ?_) (fun hlt => ?_)
  · by_cases e : i < 8 * k
    · exact h i e
    · obtain ⟨j, rfl⟩ : ∃ j, i = 8 * k + j := ⟨i - 8 * k, by omega⟩
      have hj : j < lz (a[k].toNat ^^^ b[k].toNat) := by omega
      have q := l2 ⟨j, by omega⟩ hj
      dsimp only at q
      rw [bit_xor] at q
      rw [bt_byte a k j ha (by omega), bt_byte b k j hb (by omega)]
      omega
  · have e : min n (8 * k + lz (a[k].toNat ^^^ b[k].toNat)) = 8 * k + lz (a[k].toNat ^^^ b[k].toNat) := by omega
    rw [e, bt_byte a k _ ha (by omega), bt_byte b k _ hb (by omega)]
    rw [bit_xor] at l3
    omega
theorem agree_next (a b : ByteArray) (k : Nat) (h : ∀ i, i < 8 * k → bt a i = bt b i) (ha : k < a.size) (hb : k < b.size) (hd : a[k].toNat ^^^ b[k].toNat = 0) : ∀ i, i < 8 * (k + 1) → bt a i = bt b i := by
  intro i hi
  by_cases e : i < 8 * k
  · exact h i e
  · obtain ⟨j, rfl⟩ : ∃ j, i = 8 * k + j := ⟨i - 8 * k, by omega⟩
    rw [bt_byte a k j ha (by omega), bt_byte b k j hb (by omega)]
    have q := bit_xor a[k].toNat b[k].toNat (7 - j)
    rw [hd] at q
    simp only [Nat.zero_div, Nat.zero_mod] at q
    omega
end Go.Proofs.YtjjhimdjhfdmiaaDoor
