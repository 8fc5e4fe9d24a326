/-
  The contract of Check, for every prefix: 0 where it may be, 2 where it may not.
-/
import Derived.Test.YthaebbmekonacaaGreatDoorpB4
namespace Go.Proofs.YthaebbmekonacaaGreatDoor.Pr
open Go.RowKit
set_option maxRecDepth 100000 in
set_option maxHeartbeats 400000 in
/-- The last test of Check, f and the size of its addresses as letters; y: what the last test says. -/
theorem check_last (f : Nat) (r : Int) (s : ByteArray) (l : Int) (z : Int) (b y : Bool) (w : World) (hg : FamSizes w) (hf1 : 1 ≤ f) (hf5 : f ≤ 5) (hz : szOf f = z) (h0 : (s.size : Int) = z) (h1 : 0 ≤ l) (h2 : l ≤ 8 * z) (hz1 : 4 ≤ z) (hz2 : z ≤ 16)
    (hc : w.cell? ⟨1, f * 3 + 2, none⟩ = some (.bool b)) (h3 : r = 0 ∨ b = true) (hm : (msk s.data.toList l == s.toList) = y) :
    Calls Tryz.prog 173 #[.agg #[.int .i64 f, .int .u64 r, .string s, .int .i64 l]] w fun e w' => e = .returned (.int .i64 (if y then 0 else 2)) ∧ Below w.heap.size w w' := by
  have hg' : FamSizes (w.alloc (.cells #[.int .i64 f, .int .u64 r, .string s, .int .i64 l] 50)) := hg.below ((Below.refl _ _).alloc (Nat.le_refl _) _)
  have l0 : 1 < w.heap.size := lt_of_cell hc
  have HZ : Hid (szOf f = z) := hz
  have e0 : (z == 0) = false := beq_eq_false_iff_ne.2 (by omega)
  have e1 : ((s.size : Int) != z) = false := by simp [h0]
  have hsz : s.size ≤ 16 := by omega
  have hl : l ≤ 128 := by omega
  clear hz h0
  cases y
  all_goals
    first | (have hm' := beq_eq_false_iff_ne.1 hm) | (have hm' := beq_iff_eq.1 hm)
    clear hm
    by_cases h4 : r = 0
    · subst h4
      clear h3
      go_enter Tryz.func173, Tryz.ntmps173
      go_wp2_with (go_at_call 117; refine (size_any _ _ hg').mono ?_; rintro e w' ⟨rfl, rfl⟩; rw [HZ.out])
      go_region_held (fun w' => w'.cell? ⟨w.heap.size, 0, none⟩ = some (.int .i64 f) ∧ w'.cell? ⟨w.heap.size, 1, none⟩ = some (.int .u64 0) ∧ w'.cell? ⟨w.heap.size, 2, none⟩ = some (.string s) ∧ w'.cell? ⟨w.heap.size, 3, none⟩ = some (.int .i64 l)) (go_keep)
        (first | (go_at_call 194; refine (head_any _ _ _ _ _ _ hsz h1 hl).mono ?_; rintro e w' ⟨rfl, hb⟩; obtain ⟨q0, q1, q2, q3, _, _, _, _⟩ := (PfxAt.of_alloc w _ _ _ _ _ rfl).drew.kept hb (by simp)))
      all_goals go_wp2
      all_goals go_ret
      all_goals exact ⟨rfl, ((Below.refl _ _).alloc (Nat.le_refl _) _).drew.trans (Below.mono (by assumption) (by simp))⟩
    · obtain rfl : b = true := by rcases h3 with h3 | h3; exact absurd h3 h4; exact h3
      have e4 : (r != 0) = true := by simp [h4]
      clear h3 h4
      go_enter Tryz.func173, Tryz.ntmps173
      go_wp2_with (go_at_call 117; refine (size_any _ _ hg').mono ?_; rintro e w' ⟨rfl, rfl⟩; rw [HZ.out])
      go_region_held (fun w' => w'.cell? ⟨w.heap.size, 0, none⟩ = some (.int .i64 f) ∧ w'.cell? ⟨w.heap.size, 1, none⟩ = some (.int .u64 r) ∧ w'.cell? ⟨w.heap.size, 2, none⟩ = some (.string s) ∧ w'.cell? ⟨w.heap.size, 3, none⟩ = some (.int .i64 l)) (go_keep)
        (first | (go_at_call 194; refine (head_any _ _ _ _ _ _ hsz h1 hl).mono ?_; rintro e w' ⟨rfl, hb⟩; obtain ⟨q0, q1, q2, q3, _, _, _, _⟩ := (PfxAt.of_alloc w _ _ _ _ _ rfl).drew.kept hb (by simp)))
      all_goals go_wp2
      all_goals go_ret
      all_goals exact ⟨rfl, ((Below.refl _ _).alloc (Nat.le_refl _) _).drew.trans (Below.mono (by assumption) (by simp))⟩

theorem check_any (f r : Int) (s : ByteArray) (l : Int) (w : World) (hg : FamSizes w) (hr : FamRds w) :
    Calls Tryz.prog 173 #[.agg #[.int .i64 f, .int .u64 r, .string s, .int .i64 l]] w fun e w' => e = .returned (.int .i64 (chk f r s l)) ∧ Below w.heap.size w w' := by
  by_cases hA : szOf f = 0 ∨ (s.size : Int) ≠ szOf f ∨ l < 0 ∨ 8 * szOf f < l
  · have : chk f r s l = 2 := by unfold chk; rw [if_neg (by omega)]
    rw [this]
    exact check_first f r s l w hg hA
  · have hz : szOf f ≠ 0 := by omega
    have hf := szOf_pos f hz
    by_cases hB : r ≠ 0 ∧ f < 4
    · have : chk f r s l = 2 := by unfold chk; rw [if_neg (by omega)]
      rw [this]
      exact check_rd f r s l w hg hr (by omega) (by omega) (by omega) (by omega) hB.1
    · have hb : ∃ b, w.cell? ⟨1, f.toNat * 3 + 2, none⟩ = some (.bool b) ∧ (r = 0 ∨ b = true) := by
        rcases hf with ⟨rfl | rfl | rfl, _⟩ | ⟨rfl | rfl, _⟩
        · exact ⟨_, hr.c1, by omega⟩
        · exact ⟨_, hr.c3, by omega⟩
        · exact ⟨_, hr.c4, Or.inr rfl⟩
        · exact ⟨_, hr.c2, by omega⟩
        · exact ⟨_, hr.c5, Or.inr rfl⟩
      obtain ⟨b, hc, h3⟩ := hb
      obtain ⟨n, rfl⟩ := Int.eq_ofNat_of_zero_le (show 0 ≤ f by omega)
      rw [Int.toNat_natCast] at hc
      have h := check_last n r s l _ b (msk s.data.toList l == s.toList) w hg (by omega) (by omega) rfl (by omega) (by omega) (by omega) (by omega) (by omega) hc h3 rfl
      have e : (if (msk s.data.toList l == s.toList) = true then (0 : Int) else 2) = chk n r s l := by
        unfold chk
        by_cases c : msk s.data.toList l = s.data.toList
        · rw [if_pos (by rw [ByteArray.toList_eq]; exact beq_iff_eq.2 c), if_pos ⟨hz, by omega, by omega, by omega, by omega, c⟩]
        · rw [if_neg (by rw [ByteArray.toList_eq]; simpa using c), if_neg (fun h => c h.2.2.2.2.2)]
      rw [e] at h
      exact h
end Go.Proofs.YthaebbmekonacaaGreatDoor.Pr
