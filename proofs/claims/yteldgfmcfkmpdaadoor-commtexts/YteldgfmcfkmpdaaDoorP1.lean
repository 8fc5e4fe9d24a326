/-
  A community's text read back, in plain words: digits, and what stands ahead of a colon.
-/
import Derived.Test.YteldgfmcfkmpdaaDoorT1
import Derived.Test.YteldgfmcfkmpdaaDoorShelfB
import Derived.Laws.Bits64b
namespace Go.Proofs.YteldgfmcfkmpdaaDoor
open Lib
theorem pm_app (M acc : Nat) (l r : List UInt8) (u : Nat) (h : parseUintM M acc l = .ok u) : parseUintM M acc (l ++ r) = parseUintM M u r := by
  induction l generalizing acc with
  | nil => simp only [parseUintM, NumEnd.ok.injEq] at h; rw [List.nil_append, h]
  | cons c l ih =>
    rw [List.cons_append]
    simp only [parseUintM] at h ⊢
    split at h
    · split at h
      · cases h
      · split at h
        · cases h
        · rename_i h1 h2 h3
          rw [if_pos h1, if_neg h2, if_neg h3]
          exact ih _ h
    · cases h
theorem dig_nat (d : Nat) (h : d < 10) : (UInt8.ofNat (48 + d)).toNat = 48 + d := by
  rw [UInt8.toNat_ofNat']; omega
theorem pm_one (M acc d : Nat) (hd : d < 10) (ha : acc < 1844674407370955162) (hm : acc * 10 + d ≤ M) : parseUintM M acc [UInt8.ofNat (48 + d)] = .ok (acc * 10 + d) := by
  simp only [parseUintM, dig_nat d hd]
  rw [if_pos (by omega), if_neg (by omega), if_neg (by omega), show 48 + d - 48 = d by omega]
theorem pm_back (M u : Nat) (hm : u ≤ M) (hM : M < 18446744073709551616) : parseUintM M 0 (decDigits u) = .ok u := by
  induction u using Nat.strongRecOn with
  | _ u ih =>
    rw [decDigits]
    split
    · rename_i h
      have := pm_one M 0 u h (by decide) (by omega)
      simpa using this
    · rename_i h
      rw [pm_app M 0 _ _ _ (ih (u / 10) (by omega) (by omega)), pm_one M (u / 10) (u % 10) (by omega) (by omega) (by omega)]
      congr 1; omega
theorem digits_ne (u : Nat) : decDigits u ≠ [] := by
  rw [decDigits]; split <;> simp
theorem pu_back (u : Nat) (h : u < 65536) : parseUintB 16 (decDigits u) = .ok u := by
  unfold parseUintB
  rw [if_neg (digits_ne u)]
  exact pm_back _ u (by omega) (by decide)
theorem digits_are (u : Nat) : ∀ c ∈ decDigits u, 48 ≤ c.toNat ∧ c.toNat ≤ 57 := by
  induction u using Nat.strongRecOn with
  | _ u ih =>
    rw [decDigits]
    split
    · rename_i h
      intro c hc
      rw [List.mem_singleton.mp hc, dig_nat u h]; omega
    · rename_i h
      intro c hc
      rcases List.mem_append.mp hc with hc | hc
      · exact ih (u / 10) (by omega) c hc
      · rw [List.mem_singleton.mp hc, dig_nat _ (by omega)]; omega
theorem idx_in (c : UInt8) (x r : List UInt8) (h : c ∉ x) : Lib.index (x ++ c :: r) [c] = x.length := by
  induction x with
  | nil => simp [Lib.index, List.isPrefixOf]
  | cons a x ih =>
    have h1 : ¬ c = a := fun e => h (by simp [e])
    have h2 : Lib.index (x ++ c :: r) [c] = x.length := ih fun e => h (List.mem_cons_of_mem _ e)
    have h3 : ¬ ((x.length : Int) = -1) := by omega
    simp [Lib.index, List.isPrefixOf, h1, h2, h3]
theorem cut_in (c : UInt8) (x r : List UInt8) (h : c ∉ x) : Lib.cut (x ++ c :: r) [c] = (x, r, true) := by
  unfold Lib.cut
  rw [idx_in c x r h, if_pos (by omega)]
  simp
/-- The text of a community that has no name. -/
def numT (h l : Nat) : List UInt8 := decDigits h ++ 58 :: decDigits l
theorem numT_bytes (h l : Nat) : digB h ++ ⟨#[58]⟩ ++ digB l = ⟨(numT h l).toArray⟩ := by
  apply ByteArray.ext
  simp [digB, numT]
theorem cut_numT (h l : Nat) : Lib.cut (numT h l) [58] = (decDigits h, decDigits l, true) :=
  cut_in 58 _ _ fun e => by
    have := (digits_are h _ e).2
    revert this; decide
theorem numT_first (h l : Nat) : ∃ c r, numT h l = c :: r ∧ c.toNat ≤ 57 := by
  cases hd : decDigits h with
  | nil => exact absurd hd (digits_ne h)
  | cons c r => exact ⟨c, r ++ 58 :: decDigits l, by simp [numT, hd], (digits_are h c (by simp [hd])).2⟩
theorem numT_not (h l : Nat) (nm : ByteArray) (x : UInt8) (r : List UInt8) (hn : nm.data.toList = x :: r) (hx : 57 < x.toNat) : ¬ (nm = (⟨(numT h l).toArray⟩ : ByteArray)) := by
  intro e
  obtain ⟨c, r', hc, hle⟩ := numT_first h l
  rw [e] at hn
  simp [hc] at hn
  rw [hn.1] at hle
  omega
theorem or16 (h l : Nat) (hh : h < 65536) (hl : l < 65536) : bits .or .u64 ((h : Int) * 65536) (l : Int) = ((h * 65536 + l : Nat) : Int) := by
  have e := bits_or_u64_nat (h * 65536) l (by omega) (by omega)
  rw [show ((h * 65536 : Nat) : Int) = (h : Int) * 65536 from by simp] at e
  rw [e, Nat.mul_comm h 65536, Nat.two_pow_add_eq_or_of_lt (i := 16) hl h]
end Go.Proofs.YteldgfmcfkmpdaaDoor
