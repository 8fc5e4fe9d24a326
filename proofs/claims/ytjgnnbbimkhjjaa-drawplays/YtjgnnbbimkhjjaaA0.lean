/-
  What a draw makes of a number of ticks: the program's Of and the reference's.
-/
import Derived.Test.YtjgnnbbimkhjjaaProg
import Derived.WalkKit
import Derived.Laws.BitsAllLaws
import Derived.WalkSpells
import Derived.WalkLawsBesides
import Derived.Laws.StructEq
import Derived.Below
import Derived.Carry
import Derived.RegionTactic
import Derived.Deep.RegionWith
import Derived.Deep.RegionHeld
import Derived.Deep.RegionHeld3
import Derived.Deep.QuietTactic
import Derived.Deep.MidRow
import Derived.BigQuiet
set_option linter.unusedSimpArgs false
set_option maxRecDepth 100000
namespace Go.Proofs.Ytjgnnbbimkhjjaa
open Go.RowKit
theorem wrapN {n : Nat} (h : n < 9223372036854775808) : wrap64 (n : Int) = n := by unfold wrap64; omega
theorem reck {m n : Nat} (hm2 : m < 9223372036854775808) : wrap64 (wrap64 (↑m / 100 * (75 + ↑n % 26)) + wrap64 ((wrap64 (↑m % 100 * (75 + ↑n % 26))).tdiv 100)) = ((m / 100 * (75 + n % 26) + m % 100 * (75 + n % 26) / 100 : Nat) : Int) := by
  have hk2 : n % 26 ≤ 25 := by omega
  have hqr : m / 100 * 100 + m % 100 = m := by omega
  have hr : m % 100 < 100 := by omega
  have i1 : ((m : Int) / 100 * (75 + (n : Int) % 26)) = ((m / 100 * (75 + n % 26) : Nat) : Int) := by push_cast; rfl
  have i2 : ((m : Int) % 100 * (75 + (n : Int) % 26)) = ((m % 100 * (75 + n % 26) : Nat) : Int) := by push_cast; rfl
  rw [i1, i2]
  clear i1 i2
  generalize n % 26 = k at *
  generalize m / 100 = q at *
  generalize m % 100 = r at *
  have b1 : q * (75 + k) ≤ q * 100 := Nat.mul_le_mul_left _ (by omega)
  have b2 : r * (75 + k) ≤ r * 100 := Nat.mul_le_mul_left _ (by omega)
  generalize q * (75 + k) = A at *
  generalize r * (75 + k) = B at *
  rw [wrapN (by omega), wrapN (by omega), Int.tdiv_eq_ediv_of_nonneg (by omega)]
  have t : ((B : Int) / 100) = ((B / 100 : Nat) : Int) := by push_cast; rfl
  rw [t, wrapN (by omega)]
  have s : (A : Int) + ((B / 100 : Nat) : Int) = ((A + B / 100 : Nat) : Int) := by push_cast; rfl
  rw [s, wrapN (by omega)]
/-- What a draw makes of so many ticks. -/
def ofN (m n : Nat) : Nat := max (m / 100 * (75 + n % 26) + m % 100 * (75 + n % 26) / 100) 1
/-- The same, of any number. -/
def ofI (b : Int) (n : Nat) : Int := if b ≤ 0 then 0 else (ofN b.toNat n : Int)
theorem ofI_no {b : Int} (h : b ≤ 0) (n : Nat) : ofI b n = 0 := by unfold ofI; rw [if_pos h]
theorem ofI_pos {m : Nat} (h : 0 < m) (n : Nat) : ofI (m : Int) n = (ofN m n : Int) := by
  unfold ofI
  rw [if_neg (by omega), Int.toNat_natCast]
theorem ret_int {k : IntKind} {a b : Int} (h : a = b) : Ending.returned (.int k a) = .returned (.int k b) := by rw [h]
theorem ret_bool {a b : Bool} (h : a = b) : Ending.returned (.bool a) = .returned (.bool b) := by rw [h]
theorem of_big {m n : Nat} (hm2 : m < 9223372036854775808) (h : 1 ≤ wrap64 (wrap64 (↑m / 100 * (75 + ↑n % 26)) + wrap64 ((wrap64 (↑m % 100 * (75 + ↑n % 26))).tdiv 100))) :
    wrap64 (wrap64 (↑m / 100 * (75 + ↑n % 26)) + wrap64 ((wrap64 (↑m % 100 * (75 + ↑n % 26))).tdiv 100)) = (ofN m n : Int) := by
  rw [reck hm2] at *
  unfold ofN
  rw [Nat.max_eq_left (by omega)]
theorem of_small {m n : Nat} (hm2 : m < 9223372036854775808) (h : wrap64 (wrap64 (↑m / 100 * (75 + ↑n % 26)) + wrap64 ((wrap64 (↑m % 100 * (75 + ↑n % 26))).tdiv 100)) ≤ 1) : (1 : Int) = (ofN m n : Int) := by
  rw [reck hm2] at h
  unfold ofN
  rw [Nat.max_eq_right (by omega)]
  rfl
theorem of_pos {m n : Nat} (hm : 0 < m) (hm2 : m < 9223372036854775808) (hn : n < 4294967296) (w : World) : Calls Try.prog 15 #[.int .i64 (m : Int), .int .u32 (n : Int)] w fun e w' => e = .returned (.int .i64 (ofN m n : Int)) ∧ w' = w := by
  have h1 : ¬ (m : Int) ≤ 0 := by omega
  have B := @of_big m n hm2
  have S := @of_small m n hm2
  have HB : Hid (_ : Prop) := B
  have HS : Hid (_ : Prop) := S
  clear B S
  go_enter Try.func15, Try.ntmps15
  go_wp2
  case inr h => go_ret; exact ⟨ret_int (HB.out h), rfl⟩
  case inl h => go_ret; exact ⟨ret_int (HS.out (Int.le_of_lt h)), rfl⟩
theorem rof_pos {m n : Nat} (hm : 0 < m) (hm2 : m < 9223372036854775808) (hn : n < 4294967296) (w : World) : Calls Try.prog 16 #[.int .i64 (m : Int), .int .u32 (n : Int)] w fun e w' => e = .returned (.int .i64 (ofN m n : Int)) ∧ w' = w := by
  have h1 : ¬ (m : Int) ≤ 0 := by omega
  have B := @of_big m n hm2
  have S := @of_small m n hm2
  have HB : Hid (_ : Prop) := B
  have HS : Hid (_ : Prop) := S
  clear B S
  go_enter Try.func16, Try.ntmps16
  go_wp2
  case inr h => go_ret; exact ⟨ret_int (HS.out h), rfl⟩
  case inl h => go_ret; exact ⟨ret_int (HB.out (Int.le_of_lt h)), rfl⟩
theorem of_any {b : Int} {n : Nat} (hb2 : b < 9223372036854775808) (hn : n < 4294967296) (w : World) : Calls Try.prog 15 #[.int .i64 b, .int .u32 (n : Int)] w fun e w' => e = .returned (.int .i64 (ofI b n)) ∧ w' = w := by
  by_cases h : b ≤ 0
  · have H := ofI_no h n
    generalize ofI b n = r at *
    go_enter Try.func15, Try.ntmps15
    go_wp2
    go_ret
    exact ⟨ret_int H.symm, rfl⟩
  · obtain ⟨m, rfl⟩ : ∃ m : Nat, b = m := ⟨b.toNat, by omega⟩
    rw [ofI_pos (by omega)]
    exact of_pos (by omega) (by omega) hn w
theorem rof_any {b : Int} {n : Nat} (hb2 : b < 9223372036854775808) (hn : n < 4294967296) (w : World) : Calls Try.prog 16 #[.int .i64 b, .int .u32 (n : Int)] w fun e w' => e = .returned (.int .i64 (ofI b n)) ∧ w' = w := by
  by_cases h : b ≤ 0
  · have H := ofI_no h n
    generalize ofI b n = r at *
    go_enter Try.func16, Try.ntmps16
    go_wp2
    go_ret
    exact ⟨ret_int H.symm, rfl⟩
  · obtain ⟨m, rfl⟩ : ∃ m : Nat, b = m := ⟨b.toNat, by omega⟩
    rw [ofI_pos (by omega)]
    exact rof_pos (by omega) (by omega) hn w
theorem ofN_mod (m n : Nat) : ofN m (n % 26) = ofN m n := by unfold ofN; rw [Nat.mod_mod]
theorem ofI_mod (b : Int) (n : Nat) : ofI b (n % 26) = ofI b n := by unfold ofI; rw [ofN_mod]
theorem ofN_between {m : Nat} (hm : 0 < m) (n : Nat) : 1 ≤ ofN m n ∧ ofN m n ≤ m ∧ m ≤ ofN m n + m / 4 + 1 := by
  have hk2 : n % 26 ≤ 25 := by omega
  have hqr : m / 100 * 100 + m % 100 = m := by omega
  have hr : m % 100 < 100 := by omega
  have h4 : m = m / 4 * 4 + m % 4 := by omega
  unfold ofN
  generalize n % 26 = k at *
  have b1 : m / 100 * (75 + k) ≤ m / 100 * 100 := Nat.mul_le_mul_left _ (by omega)
  have b2 : m % 100 * (75 + k) ≤ m % 100 * 100 := Nat.mul_le_mul_left _ (by omega)
  have b3 : m / 100 * 75 ≤ m / 100 * (75 + k) := Nat.mul_le_mul_left _ (by omega)
  have b4 : m % 100 * 75 ≤ m % 100 * (75 + k) := Nat.mul_le_mul_left _ (by omega)
  generalize m / 100 * (75 + k) = A at *
  generalize m % 100 * (75 + k) = B at *
  refine ⟨Nat.le_max_right _ _, ?_, ?_⟩
  · exact Nat.max_le.2 ⟨by omega, by omega⟩
  · have := Nat.le_max_left (A + B / 100) 1
    omega
end Go.Proofs.Ytjgnnbbimkhjjaa
