/-
  Rest; the reference's pairs of families.
-/
import Derived.Test.YtkaghjohkhlimaaDoorFC
namespace Go.Proofs.YtkaghjohkhlimaaDoor
open Go.RowKit
theorem rest_any (p : Nat) (l : List UInt8) (w : World) (h : RdrAt w p ⟨l.toArray⟩) :
    Calls Tryd.prog 30 #[.pointer (some ⟨p, 0, none⟩)] w fun e w' => e = .returned (.string ⟨l.toArray⟩) ∧ Beside p w w' := by
  have HK : Hid (_ : Prop) := left_any p _ w h
  have HT : Hid (_ : Prop) := take_yes p ⟨l.toArray⟩ (⟨l.toArray⟩ : ByteArray).size w h (Nat.le_refl _)
  have hx : (⟨l.toArray⟩ : ByteArray).extract 0 (⟨l.toArray⟩ : ByteArray).size = ⟨l.toArray⟩ := by apply ByteArray.ext; simp
  rw [hx] at HT
  clear hx h
  go_enter Tryd.func30, Tryd.ntmps30
  go_wp2_with fail
  refine Calls.mono HK.out ?_
  rintro e w1 ⟨rfl, hw1⟩
  obtain rfl : w = w1 := hw1.symm
  clear hw1
  go_wp2_with fail
  refine Calls.mono HT.out ?_
  rintro e w2 ⟨rfl, rfl⟩
  go_wp2
  go_ret
  exact ⟨rfl, Beside.set _ _ _⟩
set_option maxHeartbeats 1600000 in
theorem rafi_any (f : Int) (w : World) : Calls Tryd.prog 32 #[.int .i64 f] w fun e w' => e = .returned (.tuple #[.int .u16 (afN f), .int .u8 (sfN f), .bool (isF f)]) ∧ w' = w := by
  cases h : isF f with
  | true =>
    rcases isF_cases h with rfl | rfl | rfl | rfl | rfl
    all_goals
      clear h
      go_enter Tryd.func32, Tryd.ntmps32
      go_wp2
      go_ret3
      exact ⟨rfl, rfl⟩
  | false =>
    have ha : afN f = 0 := by unfold afN; rw [h]; rfl
    have hs : sfN f = 0 := by unfold sfN; rw [h]; rfl
    rw [ha, hs]
    unfold isF at h
    simp at h
    have g1 : (f == 1) = false := beq_eq_false_iff_ne.2 (by omega)
    have g2 : (f == 2) = false := beq_eq_false_iff_ne.2 (by omega)
    have g3 : (f == 3) = false := beq_eq_false_iff_ne.2 (by omega)
    have g4 : (f == 4) = false := beq_eq_false_iff_ne.2 (by omega)
    have g5 : (f == 5) = false := beq_eq_false_iff_ne.2 (by omega)
    clear h ha hs
    go_enter Tryd.func32, Tryd.ntmps32
    go_wp2
    go_ret3
    exact ⟨rfl, rfl⟩
set_option maxRecDepth 100000 in
set_option maxHeartbeats 3200000 in
theorem rfam_any (x y : Int) (w : World) : Calls Tryd.prog 35 #[.int .u16 x, .int .u8 y] w fun e w' => e = .returned (.int .i64 (fmN x y)) ∧ w' = w := by
  go_enter Tryd.func35, Tryd.ntmps35
  go_wp2
  go_loop [5] (fun i => ∃ k : Nat, 1 ≤ k ∧ k ≤ 6 ∧ i = .int .i64 k ∧ ∀ j, 1 ≤ j → j < k → mt j x y = false) (fun i => 6 - (intOf i).toNat)
  case atStart => exact ⟨1, by omega, by omega, rfl, fun j h1 hj => absurd hj (by omega)⟩
  case round =>
    obtain ⟨k, hk1, hk, rfl, hno⟩ := hrel
    have HN : Hid (∀ j, 1 ≤ j → j < k → mt j x y = false) := hno
    clear hno
    by_cases hlt : k < 6
    · have hc : k = 1 ∨ k = 2 ∨ k = 3 ∨ k = 4 ∨ k = 5 := by omega
      rcases hc with rfl | rfl | rfl | rfl | rfl
      · have HK : Hid (∀ w, Calls Tryd.prog 32 #[.int .i64 1] w fun e w' => e = .returned (.tuple #[.int .u16 1, .int .u8 1, .bool true]) ∧ w' = w) := fun w => rafi_any 1 w
        cases hm : mt 1 x y with
        | true =>
          have HI : Hid (fmN x y = 1) := by unfold Hid fmN; simp [hm]
          obtain ⟨rfl, rfl⟩ : 1 = x ∧ 1 = y := by
            unfold mt afs sfs at hm
            simpa using hm
          clear hm
          go_wp2_with fail
          refine Calls.mono (HK.out _) ?_
          rintro e w1 ⟨rfl, rfl⟩
          go_wp2
          go_ret
          exact ⟨ret_int HI.out.symm, rfl⟩
        | false =>
          have HM : Hid (mt 1 x y = false) := hm
          cases hx : ((1 : Int) == x) with
          | false =>
            clear hm
            go_wp2_with fail
            refine Calls.mono (HK.out _) ?_
            rintro e w1 ⟨rfl, hw1⟩
            obtain rfl := hw1
            go_wp2
            go_round
            case rel => exact ⟨2, by omega, by omega, rfl, fun j h1 hj => by
              by_cases e : j = 1
              · subst e; exact HM.out
              · exact HN.out j h1 (by omega)⟩
            case measure => simp [intOf]
          | true =>
            obtain rfl : 1 = x := by simpa using hx
            have hy : ((1 : Int) == y) = false := by
              unfold mt afs sfs at hm
              simpa using hm
            clear hm hx
            go_wp2_with fail
            refine Calls.mono (HK.out _) ?_
            rintro e w1 ⟨rfl, hw1⟩
            obtain rfl := hw1
            go_wp2
            go_round
            case rel => exact ⟨2, by omega, by omega, rfl, fun j h1 hj => by
              by_cases e : j = 1
              · subst e; exact HM.out
              · exact HN.out j h1 (by omega)⟩
            case measure => simp [intOf]
      · have HK : Hid (∀ w, Calls Tryd.prog 32 #[.int .i64 2] w fun e w' => e = .returned (.tuple #[.int .u16 2, .int .u8 1, .bool true]) ∧ w' = w) := fun w => rafi_any 2 w
        cases hm : mt 2 x y with
        | true =>
          have HI : Hid (fmN x y = 2) := by unfold Hid fmN; have n1 := HN.out 1 (by omega) (by omega); simp [hm, n1]
          obtain ⟨rfl, rfl⟩ : 2 = x ∧ 1 = y := by
            unfold mt afs sfs at hm
            simpa using hm
          clear hm
          go_wp2_with fail
          refine Calls.mono (HK.out _) ?_
          rintro e w1 ⟨rfl, rfl⟩
          go_wp2
          go_ret
          exact ⟨ret_int HI.out.symm, rfl⟩
        | false =>
          have HM : Hid (mt 2 x y = false) := hm
          cases hx : ((2 : Int) == x) with
          | false =>
            clear hm
            go_wp2_with fail
            refine Calls.mono (HK.out _) ?_
            rintro e w1 ⟨rfl, hw1⟩
            obtain rfl := hw1
            go_wp2
            go_round
            case rel => exact ⟨3, by omega, by omega, rfl, fun j h1 hj => by
              by_cases e : j = 2
              · subst e; exact HM.out
              · exact HN.out j h1 (by omega)⟩
            case measure => simp [intOf]
          | true =>
            obtain rfl : 2 = x := by simpa using hx
            have hy : ((1 : Int) == y) = false := by
              unfold mt afs sfs at hm
              simpa using hm
            clear hm hx
            go_wp2_with fail
            refine Calls.mono (HK.out _) ?_
            rintro e w1 ⟨rfl, hw1⟩
            obtain rfl := hw1
            go_wp2
            go_round
            case rel => exact ⟨3, by omega, by omega, rfl, fun j h1 hj => by
              by_cases e : j = 2
              · subst e; exact HM.out
              · exact HN.out j h1 (by omega)⟩
            case measure => simp [intOf]
      · have HK : Hid (∀ w, Calls Tryd.prog 32 #[.int .i64 3] w fun e w' => e = .returned (.tuple #[.int .u16 1, .int .u8 4, .bool true]) ∧ w' = w) := fun w => rafi_any 3 w
        cases hm : mt 3 x y with
        | true =>
          have HI : Hid (fmN x y = 3) := by unfold Hid fmN; have n1 := HN.out 1 (by omega) (by omega); have n2 := HN.out 2 (by omega) (by omega); simp [hm, n1, n2]
          obtain ⟨rfl, rfl⟩ : 1 = x ∧ 4 = y := by
            unfold mt afs sfs at hm
            simpa using hm
          clear hm
          go_wp2_with fail
          refine Calls.mono (HK.out _) ?_
          rintro e w1 ⟨rfl, rfl⟩
          go_wp2
          go_ret
          exact ⟨ret_int HI.out.symm, rfl⟩
        | false =>
          have HM : Hid (mt 3 x y = false) := hm
          cases hx : ((1 : Int) == x) with
          | false =>
            clear hm
            go_wp2_with fail
            refine Calls.mono (HK.out _) ?_
            rintro e w1 ⟨rfl, hw1⟩
            obtain rfl := hw1
            go_wp2
            go_round
            case rel => exact ⟨4, by omega, by omega, rfl, fun j h1 hj => by
              by_cases e : j = 3
              · subst e; exact HM.out
              · exact HN.out j h1 (by omega)⟩
            case measure => simp [intOf]
          | true =>
            obtain rfl : 1 = x := by simpa using hx
            have hy : ((4 : Int) == y) = false := by
              unfold mt afs sfs at hm
              simpa using hm
            clear hm hx
            go_wp2_with fail
            refine Calls.mono (HK.out _) ?_
            rintro e w1 ⟨rfl, hw1⟩
            obtain rfl := hw1
            go_wp2
            go_round
            case rel => exact ⟨4, by omega, by omega, rfl, fun j h1 hj => by
              by_cases e : j = 3
              · subst e; exact HM.out
              · exact HN.out j h1 (by omega)⟩
            case measure => simp [intOf]
      · have HK : Hid (∀ w, Calls Tryd.prog 32 #[.int .i64 4] w fun e w' => e = .returned (.tuple #[.int .u16 1, .int .u8 128, .bool true]) ∧ w' = w) := fun w => rafi_any 4 w
        cases hm : mt 4 x y with
        | true =>
          have HI : Hid (fmN x y = 4) := by unfold Hid fmN; have n1 := HN.out 1 (by omega) (by omega); have n2 := HN.out 2 (by omega) (by omega); have n3 := HN.out 3 (by omega) (by omega); simp [hm, n1, n2, n3]
          obtain ⟨rfl, rfl⟩ : 1 = x ∧ 128 = y := by
            unfold mt afs sfs at hm
            simpa using hm
          clear hm
          go_wp2_with fail
          refine Calls.mono (HK.out _) ?_
          rintro e w1 ⟨rfl, rfl⟩
          go_wp2
          go_ret
          exact ⟨ret_int HI.out.symm, rfl⟩
        | false =>
          have HM : Hid (mt 4 x y = false) := hm
          cases hx : ((1 : Int) == x) with
          | false =>
            clear hm
            go_wp2_with fail
            refine Calls.mono (HK.out _) ?_
            rintro e w1 ⟨rfl, hw1⟩
            obtain rfl := hw1
            go_wp2
            go_round
            case rel => exact ⟨5, by omega, by omega, rfl, fun j h1 hj => by
              by_cases e : j = 4
              · subst e; exact HM.out
              · exact HN.out j h1 (by omega)⟩
            case measure => simp [intOf]
          | true =>
            obtain rfl : 1 = x := by simpa using hx
            have hy : ((128 : Int) == y) = false := by
              unfold mt afs sfs at hm
              simpa using hm
            clear hm hx
            go_wp2_with fail
            refine Calls.mono (HK.out _) ?_
            rintro e w1 ⟨rfl, hw1⟩
            obtain rfl := hw1
            go_wp2
            go_round
            case rel => exact ⟨5, by omega, by omega, rfl, fun j h1 hj => by
              by_cases e : j = 4
              · subst e; exact HM.out
              · exact HN.out j h1 (by omega)⟩
            case measure => simp [intOf]
      · have HK : Hid (∀ w, Calls Tryd.prog 32 #[.int .i64 5] w fun e w' => e = .returned (.tuple #[.int .u16 2, .int .u8 128, .bool true]) ∧ w' = w) := fun w => rafi_any 5 w
        cases hm : mt 5 x y with
        | true =>
          have HI : Hid (fmN x y = 5) := by unfold Hid fmN; have n1 := HN.out 1 (by omega) (by omega); have n2 := HN.out 2 (by omega) (by omega); have n3 := HN.out 3 (by omega) (by omega); have n4 := HN.out 4 (by omega) (by omega); simp [hm, n1, n2, n3, n4]
          obtain ⟨rfl, rfl⟩ : 2 = x ∧ 128 = y := by
            unfold mt afs sfs at hm
            simpa using hm
          clear hm
          go_wp2_with fail
          refine Calls.mono (HK.out _) ?_
          rintro e w1 ⟨rfl, rfl⟩
          go_wp2
          go_ret
          exact ⟨ret_int HI.out.symm, rfl⟩
        | false =>
          have HM : Hid (mt 5 x y = false) := hm
          cases hx : ((2 : Int) == x) with
          | false =>
            clear hm
            go_wp2_with fail
            refine Calls.mono (HK.out _) ?_
            rintro e w1 ⟨rfl, hw1⟩
            obtain rfl := hw1
            go_wp2
            go_round
            case rel => exact ⟨6, by omega, by omega, rfl, fun j h1 hj => by
              by_cases e : j = 5
              · subst e; exact HM.out
              · exact HN.out j h1 (by omega)⟩
            case measure => simp [intOf]
          | true =>
            obtain rfl : 2 = x := by simpa using hx
            have hy : ((128 : Int) == y) = false := by
              unfold mt afs sfs at hm
              simpa using hm
            clear hm hx
            go_wp2_with fail
            refine Calls.mono (HK.out _) ?_
            rintro e w1 ⟨rfl, hw1⟩
            obtain rfl := hw1
            go_wp2
            go_round
            case rel => exact ⟨6, by omega, by omega, rfl, fun j h1 hj => by
              by_cases e : j = 5
              · subst e; exact HM.out
              · exact HN.out j h1 (by omega)⟩
            case measure => simp [intOf]
    · obtain rfl : k = 6 := by omega
      have HI : Hid (fmN x y = 0) := by
        unfold Hid fmN
        have n1 := HN.out 1 (by omega) (by omega)
        have n2 := HN.out 2 (by omega) (by omega)
        have n3 := HN.out 3 (by omega) (by omega)
        have n4 := HN.out 4 (by omega) (by omega)
        have n5 := HN.out 5 (by omega) (by omega)
        simp [n1, n2, n3, n4, n5]
      go_wp2
      go_ret
      exact ⟨ret_int HI.out.symm, rfl⟩
/-- The pair of a pair's family is that pair. -/
theorem fm_pair {x y : Int} (h : fmN x y ≠ 0) : (afN (fmN x y) : Int) = x ∧ (sfN (fmN x y) : Int) = y := by
  unfold fmN at *
  by_cases h1 : mt 1 x y = true
  · rw [if_pos h1]; unfold mt afs sfs at h1; simp at h1; exact ⟨by rw [← h1.1]; decide, by rw [← h1.2]; decide⟩
  · rw [if_neg h1] at h ⊢
    by_cases h2 : mt 2 x y = true
    · rw [if_pos h2]; unfold mt afs sfs at h2; simp at h2; exact ⟨by rw [← h2.1]; decide, by rw [← h2.2]; decide⟩
    · rw [if_neg h2] at h ⊢
      by_cases h3 : mt 3 x y = true
      · rw [if_pos h3]; unfold mt afs sfs at h3; simp at h3; exact ⟨by rw [← h3.1]; decide, by rw [← h3.2]; decide⟩
      · rw [if_neg h3] at h ⊢
        by_cases h4 : mt 4 x y = true
        · rw [if_pos h4]; unfold mt afs sfs at h4; simp at h4; exact ⟨by rw [← h4.1]; decide, by rw [← h4.2]; decide⟩
        · rw [if_neg h4] at h ⊢
          by_cases h5 : mt 5 x y = true
          · rw [if_pos h5]; unfold mt afs sfs at h5; simp at h5; exact ⟨by rw [← h5.1]; decide, by rw [← h5.2]; decide⟩
          · rw [if_neg h5] at h; exact absurd rfl h
end Go.Proofs.YtkaghjohkhlimaaDoor
