/-
  The contracts of the reference's May and Check, for every prefix.
-/
import Derived.Test.YtkgedoedojkdkaaDoorR1
namespace Go.Proofs.YtkgedoedojkdkaaDoor
open Go.RowKit
set_option maxRecDepth 100000 in
set_option maxHeartbeats 1600000 in
theorem may_any (f r : Int) (s : ByteArray) (l : Int) (w : World) (hs : s.size ≤ maxLen) :
    Calls Tryd.prog 32 #[.agg #[.int .i64 f, .int .u64 r, .string s, .int .i64 l]] w fun e w' => e = .returned (.bool (decide (chk f r s l = 0))) ∧ Below w.heap.size w w' := by
  have hzb := szOf_bd f
  have hzp := szOf_pos f
  generalize hz : szOf f = z at *
  have HZ : Hid (szOf f = z) := hz
  clear hz
  by_cases h1 : z = 0
  · subst h1
    clear hzp
    go_enter Tryd.func32, Tryd.ntmps32
    go_wp2_with (first | (go_at_call 16; refine (refsize_any f _).mono ?_; rintro e w' ⟨rfl, rfl⟩; rw [HZ.out]))
    go_ret
    exact ⟨ret_bool (decide_eq_false fun h => absurd (chk_zero h) (by rw [HZ.out]; omega)).symm, (Below.refl _ _).alloc (Nat.le_refl _) _⟩
  · have hz4 : 4 ≤ z ∧ (1 ≤ f ∧ f ≤ 5) := by have := hzp h1; omega
    have n1 : (z == 0) = false := by simpa using h1
    clear hzp
    by_cases h2 : (s.size : Int) = z
    · by_cases h3 : l < 0
      · go_enter Tryd.func32, Tryd.ntmps32
        go_wp2_with (first | (go_at_call 16; refine (refsize_any f _).mono ?_; rintro e w' ⟨rfl, rfl⟩; rw [HZ.out]))
        go_ret
        exact ⟨ret_bool (decide_eq_false fun h => absurd (chk_zero h) (by rw [HZ.out]; omega)).symm, (Below.refl _ _).alloc (Nat.le_refl _) _⟩
      · by_cases h4 : 8 * z < l
        · go_enter Tryd.func32, Tryd.ntmps32
          go_wp2_with (first | (go_at_call 16; refine (refsize_any f _).mono ?_; rintro e w' ⟨rfl, rfl⟩; rw [HZ.out]))
          go_ret
          exact ⟨ret_bool (decide_eq_false fun h => absurd (chk_zero h) (by rw [HZ.out]; omega)).symm, (Below.refl _ _).alloc (Nat.le_refl _) _⟩
        · by_cases h5 : r = 0
          · subst h5
            go_enter Tryd.func32, Tryd.ntmps32
            go_wp2_with (first | (go_at_call 16; refine (refsize_any f _).mono ?_; rintro e w' ⟨rfl, rfl⟩; rw [HZ.out]))
            go_loopw [4] (fun i wr => ∃ k : Int, (l ≤ k ∧ k ≤ 8 * z) ∧ i = .int .i64 k ∧ (∀ j : Nat, l ≤ (j : Int) → (j : Int) < k → bitI s j = 0) ∧ wr = w.alloc (.cells #[.int .i64 f, .int .u64 0, .string s, .int .i64 l] 24)) (fun i _ => (8 * z - intOf i).toNat)
            case atStart => exact ⟨l, by omega, rfl, fun j h1 h2 => by omega, rfl⟩
            case round =>
              obtain ⟨k, hk, rfl, hall, rfl⟩ := hrel
              have HA : Hid (∀ j : Nat, l ≤ (j : Int) → (j : Int) < k → bitI s j = 0) := hall
              clear hall
              by_cases hlt : k < 8 * z
              · obtain ⟨i, rfl⟩ := Int.eq_ofNat_of_zero_le (show 0 ≤ k by omega)
                by_cases hb : bitI s i = 0
                · have HB : Hid (bitI s i = 0) := hb
                  have C := fun w => refbit_any s i w hs (by omega) (by omega)
                  simp only [hb] at C
                  clear hb
                  have K : Hid (_ : Prop) := C
                  clear C
                  go_wp2_with (go_at_call 18; refine (K.out _).mono ?_; rintro e w' ⟨rfl, rfl⟩)
                  go_roundw
                  case rel => exact ⟨i + 1, by omega, by go_num, fun j h1 h2 => by
                    by_cases e : j = i
                    · subst e; exact HB.out
                    · exact HA.out j h1 (by omega), by trivial⟩
                  case measure => simp [intOf]; omega
                · have HB : Hid (¬ bitI s i = 0) := hb
                  have C := fun w => refbit_any s i w hs (by omega) (by omega)
                  have hb' : (bitI s i == 0) = false := by simpa using hb
                  generalize hq : bitI s i = q at *
                  clear hb
                  have HQ : Hid (bitI s i = q) := hq
                  clear hq
                  have K : Hid (_ : Prop) := C
                  clear C
                  go_wp2_with (go_at_call 18; refine (K.out _).mono ?_; rintro e w' ⟨rfl, rfl⟩)
                  go_ret
                  refine ⟨ret_bool (decide_eq_false fun h => ?_).symm, (Below.refl _ _).alloc (Nat.le_refl _) _⟩
                  have := ((chk_iff f 0 s l).1 h).2.2.2.2.2 i (by omega) (by rw [HZ.out]; omega)
                  rw [HQ.out] at this
                  exact HB.out this
              · go_wp2
                go_ret
                refine ⟨ret_bool (decide_eq_true ((chk_iff f 0 s l).2 ⟨by rw [HZ.out]; omega, by rw [HZ.out]; omega, by omega, by rw [HZ.out]; omega, Or.inl rfl, fun j h1 h2 => HA.out j h1 (by rw [HZ.out] at h2; omega)⟩)).symm, (Below.refl _ _).alloc (Nat.le_refl _) _⟩
          · have n5 : (r != 0) = true := by simpa using h5
            have HR : Hid (¬ r = 0) := h5
            by_cases h6 : 4 ≤ f
            · have d6 : decide (4 ≤ f) = true := decide_eq_true h6
              have CA := fun w => apart_any f w (by omega) (by omega)
              simp only [d6] at CA
              have KA : Hid (_ : Prop) := CA
              clear CA d6
              go_enter Tryd.func32, Tryd.ntmps32
              go_wp2_with (first | (go_at_call 16; refine (refsize_any f _).mono ?_; rintro e w' ⟨rfl, rfl⟩; rw [HZ.out]) | (go_at_call 45; refine (KA.out _).mono ?_; rintro e w' ⟨rfl, rfl⟩))
              go_loopw [4] (fun i wr => ∃ k : Int, (l ≤ k ∧ k ≤ 8 * z) ∧ i = .int .i64 k ∧ (∀ j : Nat, l ≤ (j : Int) → (j : Int) < k → bitI s j = 0) ∧ wr = w.alloc (.cells #[.int .i64 f, .int .u64 r, .string s, .int .i64 l] 24)) (fun i _ => (8 * z - intOf i).toNat)
              case atStart => exact ⟨l, by omega, rfl, fun j h1 h2 => by omega, rfl⟩
              case round =>
                obtain ⟨k, hk, rfl, hall, rfl⟩ := hrel
                have HA : Hid (∀ j : Nat, l ≤ (j : Int) → (j : Int) < k → bitI s j = 0) := hall
                clear hall
                by_cases hlt : k < 8 * z
                · obtain ⟨i, rfl⟩ := Int.eq_ofNat_of_zero_le (show 0 ≤ k by omega)
                  by_cases hb : bitI s i = 0
                  · have HB : Hid (bitI s i = 0) := hb
                    have C := fun w => refbit_any s i w hs (by omega) (by omega)
                    simp only [hb] at C
                    clear hb
                    have K : Hid (_ : Prop) := C
                    clear C
                    go_wp2_with (go_at_call 18; refine (K.out _).mono ?_; rintro e w' ⟨rfl, rfl⟩)
                    go_roundw
                    case rel => exact ⟨i + 1, by omega, by go_num, fun j h1 h2 => by
                      by_cases e : j = i
                      · subst e; exact HB.out
                      · exact HA.out j h1 (by omega), by trivial⟩
                    case measure => simp [intOf]; omega
                  · have HB : Hid (¬ bitI s i = 0) := hb
                    have C := fun w => refbit_any s i w hs (by omega) (by omega)
                    have hb' : (bitI s i == 0) = false := by simpa using hb
                    generalize hq : bitI s i = q at *
                    clear hb
                    have HQ : Hid (bitI s i = q) := hq
                    clear hq
                    have K : Hid (_ : Prop) := C
                    clear C
                    go_wp2_with (go_at_call 18; refine (K.out _).mono ?_; rintro e w' ⟨rfl, rfl⟩)
                    go_ret
                    refine ⟨ret_bool (decide_eq_false fun h => ?_).symm, (Below.refl _ _).alloc (Nat.le_refl _) _⟩
                    have := ((chk_iff f r s l).1 h).2.2.2.2.2 i (by omega) (by rw [HZ.out]; omega)
                    rw [HQ.out] at this
                    exact HB.out this
                · go_wp2
                  go_ret
                  refine ⟨ret_bool (decide_eq_true ((chk_iff f r s l).2 ⟨by rw [HZ.out]; omega, by rw [HZ.out]; omega, by omega, by rw [HZ.out]; omega, Or.inr h6, fun j h1 h2 => HA.out j h1 (by rw [HZ.out] at h2; omega)⟩)).symm, (Below.refl _ _).alloc (Nat.le_refl _) _⟩
            · have d6 : decide (4 ≤ f) = false := decide_eq_false h6
              have CA := fun w => apart_any f w (by omega) (by omega)
              simp only [d6] at CA
              have KA : Hid (_ : Prop) := CA
              clear CA d6
              go_enter Tryd.func32, Tryd.ntmps32
              go_wp2_with (first | (go_at_call 16; refine (refsize_any f _).mono ?_; rintro e w' ⟨rfl, rfl⟩; rw [HZ.out]) | (go_at_call 45; refine (KA.out _).mono ?_; rintro e w' ⟨rfl, rfl⟩))
              go_ret
              exact ⟨ret_bool (decide_eq_false fun h => by have := (chk_zero h).2.2.2.2.1; rcases this with x | x; exact HR.out x; omega).symm, (Below.refl _ _).alloc (Nat.le_refl _) _⟩
    · have n2 : ((s.size : Int) == z) = false := by simpa using h2
      go_enter Tryd.func32, Tryd.ntmps32
      go_wp2_with (first | (go_at_call 16; refine (refsize_any f _).mono ?_; rintro e w' ⟨rfl, rfl⟩; rw [HZ.out]))
      go_ret
      exact ⟨ret_bool (decide_eq_false fun h => absurd (chk_zero h) (by rw [HZ.out]; omega)).symm, (Below.refl _ _).alloc (Nat.le_refl _) _⟩
end Go.Proofs.YtkgedoedojkdkaaDoor
