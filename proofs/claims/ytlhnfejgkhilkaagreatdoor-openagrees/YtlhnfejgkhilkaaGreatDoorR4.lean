/-
  How many bytes may follow a code: fits; taker; cmp.Compare.
-/
import Derived.Test.YtlhnfejgkhilkaaGreatDoorR1
set_option linter.unusedVariables false
set_option linter.unusedSimpArgs false
namespace Go.Proofs.YtlhnfejgkhilkaaGreatDoor
open Go.RowKit
/-- How many bytes may follow a code. -/
def fitB (c n : Nat) : Bool := if c = 1 ∨ c = 65 then n == 4 else if c = 64 then decide (2 ≤ n) && (n - 2) % 4 == 0 else if c = 69 then n % 4 == 0 else true
set_option maxHeartbeats 800000 in
theorem fits_any (c n : Nat) (w : World) (hn : n ≤ 100000) : Calls Tryz.prog 59 #[.int .u8 (c : Int), .int .i64 (n : Int)] w fun e w' => e = .returned (.bool (fitB c n)) ∧ w' = w := by
  unfold fitB
  by_cases h1 : c = 1
  · subst h1
    rw [if_pos (Or.inl rfl)]
    go_enter Tryz.func59, Tryz.ntmps59
    go_wp2
    go_ret
    exact ⟨ret_bool (by rw [Bool.eq_iff_iff]; simp; try omega), rfl⟩
  by_cases h65 : c = 65
  · subst h65
    rw [if_pos (Or.inr rfl)]
    go_enter Tryz.func59, Tryz.ntmps59
    go_wp2
    go_ret
    exact ⟨ret_bool (by rw [Bool.eq_iff_iff]; simp; try omega), rfl⟩
  rw [if_neg (by omega)]
  have e1 : ((c : Int) == 1) = false := by simp; omega
  have e65 : ((c : Int) == 65) = false := by simp; omega
  by_cases h64 : c = 64
  · subst h64
    rw [if_pos rfl]
    by_cases h2 : 2 ≤ n
    · have hx : ∃ m : Nat, n = m + 2 := ⟨n - 2, by omega⟩
      obtain ⟨m, rfl⟩ := hx
      have ha : ((m + 2 : Nat) : Int) - 2 = (m : Int) := by omega
      have hr : ((m : Int) % 4 == 0) = (m % 4 == 0) := by rw [Bool.eq_iff_iff]; simp; omega
      go_enter Tryz.func59, Tryz.ntmps59
      go_wp2
      go_ret
      exact ⟨ret_bool (by rw [Bool.eq_iff_iff]; simp; try omega), rfl⟩
    · have h2n : (n : Int) < 2 := by omega
      have h2' : decide (2 ≤ n) = false := by simpa using h2
      rw [h2']
      have h3 : decide ((0 : Int) ≤ (n : Int) - 2) = false := by simp; omega
      go_enter Tryz.func59, Tryz.ntmps59
      go_wp2
      go_ret
      exact ⟨rfl, rfl⟩
  rw [if_neg h64]
  have e64 : ((c : Int) == 64) = false := by simp; omega
  by_cases h69 : c = 69
  · subst h69
    rw [if_pos rfl]
    go_enter Tryz.func59, Tryz.ntmps59
    go_wp2
    go_ret
    exact ⟨ret_bool (by rw [Bool.eq_iff_iff]; simp; try omega), rfl⟩
  · rw [if_neg h69]
    have e69 : ((c : Int) == 69) = false := by simp; omega
    clear h1 h65 h64 h69
    go_enter Tryz.func59, Tryz.ntmps59
    go_wp2
    go_ret
    exact ⟨rfl, rfl⟩
theorem taker_any (p : Nat) (w : World) : Calls Tryz.prog 44 #[.pointer (some ⟨p, 0, none⟩)] w fun e w' => e = .returned (.func (.func 58) #[] #[.pointer (some ⟨w.heap.size, 0, none⟩)]) ∧ w' = w.alloc (.cells #[.pointer (some ⟨p, 0, none⟩)] 76) := by
  go_enter Tryz.func44, Tryz.ntmps44
  go_wp2
  go_ret
  exact ⟨rfl, rfl⟩
/-- How two numbers stand. -/
def ordI (a b : Int) : Int := if a < b then -1 else if b < a then 1 else 0
theorem isNaN_any (a : Int) (w : World) : Calls Tryz.prog 92 #[.int .i64 a] w fun e w' => e = .returned (.bool false) ∧ w' = w := by
  go_enter Tryz.func92, Tryz.ntmps92
  go_wp2
  go_ret
  exact ⟨ret_bool (by simp), rfl⟩
theorem compare_any (a b : Int) (w : World) : Calls Tryz.prog 83 #[.int .i64 a, .int .i64 b] w fun e w' => e = .returned (.int .i64 (ordI a b)) ∧ w' = w := by
  unfold ordI
  by_cases h1 : a < b
  · rw [if_pos h1]
    go_enter Tryz.func83, Tryz.ntmps83
    go_wp2_with (go_at_call 92; refine (isNaN_any _ _).mono ?_; rintro e w' ⟨rfl, rfl⟩)
    go_ret
    exact ⟨rfl, rfl⟩
  · rw [if_neg h1]
    by_cases h2 : b < a
    · rw [if_pos h2]
      go_enter Tryz.func83, Tryz.ntmps83
      go_wp2_with (go_at_call 92; refine (isNaN_any _ _).mono ?_; rintro e w' ⟨rfl, rfl⟩)
      go_ret
      exact ⟨rfl, rfl⟩
    · rw [if_neg h2]
      go_enter Tryz.func83, Tryz.ntmps83
      go_wp2_with (go_at_call 92; refine (isNaN_any _ _).mono ?_; rintro e w' ⟨rfl, rfl⟩)
      go_ret
      exact ⟨rfl, rfl⟩
end Go.Proofs.YtlhnfejgkhilkaaGreatDoor
