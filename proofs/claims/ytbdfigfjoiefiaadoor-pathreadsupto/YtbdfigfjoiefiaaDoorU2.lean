/-
  A number's digits, read back; a text cut at a sign that it does not hold ahead.
-/
import Derived.Test.YtbdfigfjoiefiaaDoorU1
namespace Go.Proofs.YtbdfigfjoiefiaaDoor
open Lib
theorem pm_app (M acc : Nat) (l r : List UInt8) (u : Nat) (h : parseUintM M acc l = .ok u) : parseUintM M acc (l ++ r) = parseUintM M u r := by
  induction l generalizing acc with
  | nil => simp only [parseUintM, NumEnd.ok.injEq] at h; rw [List.nil_append, h]
  | cons c l ih =>
    rw [List.cons_append]
    simp only [parseUintM] at h ⊢
    split at h
    · split at h
      · cases h
      · split at h
        · cases h
        · rename_i h1 h2 h3
          rw [if_pos h1, if_neg h2, if_neg h3]
          exact ih _ h
    · cases h
theorem dig_nat (d : Nat) (h : d < 10) : (UInt8.ofNat (48 + d)).toNat = 48 + d := by
  rw [UInt8.toNat_ofNat']; omega
theorem pm_one (M acc d : Nat) (hd : d < 10) (ha : acc < 1844674407370955162) (hm : acc * 10 + d ≤ M) : parseUintM M acc [UInt8.ofNat (48 + d)] = .ok (acc * 10 + d) := by
  simp only [parseUintM, dig_nat d hd]
  rw [if_pos (by omega), if_neg (by omega), if_neg (by omega), show 48 + d - 48 = d by omega]
theorem pm_back (M u : Nat) (hm : u ≤ M) (hM : M < 18446744073709551616) : parseUintM M 0 (decDigits u) = .ok u := by
  induction u using Nat.strongRecOn with
  | _ u ih =>
    rw [decDigits]
    split
    · rename_i h
      have := pm_one M 0 u h (by decide) (by omega)
      simpa using this
    · rename_i h
      rw [pm_app M 0 _ _ _ (ih (u / 10) (by omega) (by omega)), pm_one M (u / 10) (u % 10) (by omega) (by omega) (by omega)]
      congr 1; omega
theorem digits_ne (u : Nat) : decDigits u ≠ [] := by
  rw [decDigits]; split <;> simp
theorem pu_back (u : Nat) (h : u < 4294967296) : parseUintB 32 (decDigits u) = .ok u := by
  unfold parseUintB
  rw [if_neg (digits_ne u)]
  exact pm_back _ u (by omega) (by decide)
/-- Digits are digits. -/
theorem digits_are (u : Nat) : ∀ c ∈ decDigits u, 48 ≤ c.toNat ∧ c.toNat ≤ 57 := by
  induction u using Nat.strongRecOn with
  | _ u ih =>
    rw [decDigits]
    split
    · rename_i h
      intro c hc
      rw [List.mem_singleton.mp hc, dig_nat u h]; omega
    · rename_i h
      intro c hc
      rcases List.mem_append.mp hc with hc | hc
      · exact ih (u / 10) (by omega) c hc
      · rw [List.mem_singleton.mp hc, dig_nat _ (by omega)]; omega
end Go.Proofs.YtbdfigfjoiefiaaDoor
