/-
  The reference's: conditions and actions that may be.
-/
import Derived.Test.YthaebbmekonacaaGreatDoorEE
import Derived.Test.YthaebbmekonacaaGreatDoorTZ
import Derived.Test.YthaebbmekonacaaGreatDoorAD
import Derived.Test.YthaebbmekonacaaGreatDoorRL
set_option linter.unusedVariables false
set_option linter.unusedSimpArgs false
set_option maxRecDepth 100000
namespace Go.Proofs.YthaebbmekonacaaGreatDoor
open Go.RowKit
set_option maxHeartbeats 2000000 in
theorem rname16 (s : ByteArray) (w : World) (hs : s.size ≤ maxLen) : Calls Tryz.prog 67 #[.string s] w fun e w' => e = .returned (.bool (nameB s)) ∧ w' = w := by
  unfold maxLen at hs
  by_cases h0 : s.size < 1
  · have H : Hid (nameB s = false) := by unfold Hid nameB; simp; omega
    have h0' : (s.size : Int) < 1 := by omega
    generalize nameB s = r at *
    clear hs h0
    go_enter Tryz.func67, Tryz.ntmps67
    go_wp2
    go_ret
    exact ⟨ret_bool H.out.symm, rfl⟩
  · have hp : 0 < s.size := by omega
    have h0' : ¬ (s.size : Int) < 1 := by omega
    by_cases h16 : 16 < s.size
    · have H : Hid (nameB s = false) := by unfold Hid nameB; simp; omega
      have h16' : (16 : Int) < (s.size : Int) := by omega
      generalize nameB s = r at *
      go_enter Tryz.func67, Tryz.ntmps67
      go_wp2
      go_ret
      exact ⟨ret_bool H.out.symm, rfl⟩
    · have h16' : ¬ (16 : Int) < (s.size : Int) := by omega
      by_cases ha : 97 ≤ s[0].toNat
      · by_cases hz : s[0].toNat ≤ 122
        · have hl := let_yes ha hz
          have HN : Hid (nameB s = s.data.toList.all nameC) := by unfold Hid nameB; rw [head_let hp, hl]; simp; intro _ ; omega
          have ha' : ¬ ((s[0].toNat : Nat) : Int) < 97 := by omega
          have hz' : ¬ (122 : Int) < ((s[0].toNat : Nat) : Int) := by omega
          have hsz : (s.size : Int) ≤ 16 := by omega
          generalize nameB s = r at *
          clear ha hz hl h0
          go_enter Tryz.func67, Tryz.ntmps67
          go_wp2
          clear ha' hz'
          go_loop [3] (fun i => ∃ k : Nat, k ≤ s.size ∧ i = .int .i64 k ∧ (s.data.toList.take k).all nameC = true) (fun i => s.size - (intOf i).toNat)
          case atStart => exact ⟨0, Nat.zero_le _, rfl, by simp⟩
          case round =>
            obtain ⟨k, hk, rfl, hall⟩ := hrel
            have HA : Hid ((s.data.toList.take k).all nameC = true) := hall
            clear hall
            by_cases hlt : k < s.size
            · have hlt' : (k : Int) < (s.size : Int) := by omega
              have HY : Hid (nameC s[k] = true → (s.data.toList.take (k + 1)).all nameC = true) := fun h => by rw [all_snoc s k hlt, HA.out, h]; rfl
              have HX : Hid (nameC s[k] = false → r = false) := fun h => by rw [HN.out]; exact all_stop s k hlt h
              rcases name_cases s[k] with ⟨hn, q1, q2⟩ | ⟨hn, q1, q2, q3⟩ | ⟨hn, q1⟩ | ⟨hn, q1, q2, q3⟩ | ⟨hn, q1, q2, q3, q4⟩ | ⟨hn, q1, q2, q3, q4, q5⟩
              · have t1 : (97 : Int) ≤ (s[k].toNat : Int) := by omega
                have t2 : (s[k].toNat : Int) ≤ 122 := by omega
                have HZ : Hid (_ : Prop) := HY.out hn
                clear hn q1 q2
                go_wp2
                go_round
                case rel => exact ⟨k + 1, by omega, by go_num, HZ.out⟩
                case measure => simp [intOf]; omega
              · have t1 : ¬ (97 : Int) ≤ (s[k].toNat : Int) := by omega
                have t2 : (48 : Int) ≤ (s[k].toNat : Int) := by omega
                have t3 : (s[k].toNat : Int) ≤ 57 := by omega
                have HZ : Hid (_ : Prop) := HY.out hn
                clear hn q1 q2 q3
                go_wp2
                go_round
                case rel => exact ⟨k + 1, by omega, by go_num, HZ.out⟩
                case measure => simp [intOf]; omega
              · have t1 : (s[k].toNat : Int) = 45 := by omega
                have HZ : Hid (_ : Prop) := HY.out hn
                clear hn q1
                go_wp2
                go_round
                case rel => exact ⟨k + 1, by omega, by go_num, HZ.out⟩
                case measure => simp [intOf]; omega
              · have t1 : ¬ (97 : Int) ≤ (s[k].toNat : Int) := by omega
                have t2 : ¬ (48 : Int) ≤ (s[k].toNat : Int) := by omega
                have t3 : ¬ (s[k].toNat : Int) = 45 := by omega
                have HZ : Hid (_ : Prop) := HX.out hn
                have u1 : decide ((97 : Int) ≤ (s[k].toNat : Int)) = false := by simpa using t1
                have u2 : decide ((48 : Int) ≤ (s[k].toNat : Int)) = false := by simpa using t2
                have u3' : ((s[k].toNat : Int) == 45) = false := by simpa using t3
                clear hn q1 q2 q3
                go_wp2
                go_ret
                exact ⟨ret_bool HZ.out.symm, rfl⟩
              · have t1 : ¬ (97 : Int) ≤ (s[k].toNat : Int) := by omega
                have t2 : (48 : Int) ≤ (s[k].toNat : Int) := by omega
                have t3 : ¬ (s[k].toNat : Int) ≤ 57 := by omega
                have t4 : ¬ (s[k].toNat : Int) = 45 := by omega
                have HZ : Hid (_ : Prop) := HX.out hn
                have u1 : decide ((97 : Int) ≤ (s[k].toNat : Int)) = false := by simpa using t1
                have u2 : decide ((s[k].toNat : Int) ≤ 57) = false := by simpa using t3
                have u3' : ((s[k].toNat : Int) == 45) = false := by simpa using t4
                clear hn q1 q2 q3 q4
                go_wp2
                go_ret
                exact ⟨ret_bool HZ.out.symm, rfl⟩
              · have t1 : (97 : Int) ≤ (s[k].toNat : Int) := by omega
                have t2 : ¬ (s[k].toNat : Int) ≤ 122 := by omega
                have t3 : (48 : Int) ≤ (s[k].toNat : Int) := by omega
                have t4 : ¬ (s[k].toNat : Int) ≤ 57 := by omega
                have t5 : ¬ (s[k].toNat : Int) = 45 := by omega
                have HZ : Hid (_ : Prop) := HX.out hn
                have u1 : decide ((s[k].toNat : Int) ≤ 122) = false := by simpa using t2
                have u2 : decide ((s[k].toNat : Int) ≤ 57) = false := by simpa using t4
                have u3' : ((s[k].toNat : Int) == 45) = false := by simpa using t5
                clear hn q1 q2 q3 q4 q5
                go_wp2
                go_ret
                exact ⟨ret_bool HZ.out.symm, rfl⟩
            · have HX : Hid (r = true) := by unfold Hid; rw [HN.out]; have := HA.out; rwa [List.take_of_length_le (by simp; omega)] at this
              have hlt' : ¬ (k : Int) < (s.size : Int) := by omega
              go_wp2
              go_ret
              exact ⟨ret_bool HX.out.symm, rfl⟩
        · have H : Hid (nameB s = false) := by unfold Hid nameB; rw [head_let hp, let_no2 hz]; simp
          have ha' : ¬ ((s[0].toNat : Nat) : Int) < 97 := by omega
          have hz' : (122 : Int) < ((s[0].toNat : Nat) : Int) := by omega
          generalize nameB s = r at *
          go_enter Tryz.func67, Tryz.ntmps67
          go_wp2
          go_ret
          exact ⟨ret_bool H.out.symm, rfl⟩
      · have H : Hid (nameB s = false) := by unfold Hid nameB; rw [head_let hp, let_no1 ha]; simp
        have ha' : ((s[0].toNat : Nat) : Int) < 97 := by omega
        generalize nameB s = r at *
        go_enter Tryz.func67, Tryz.ntmps67
        go_wp2
        go_ret
        exact ⟨ret_bool H.out.symm, rfl⟩
theorem fam_sz (n : Int) : decide (0 < Pr.szOf n) = (decide (1 ≤ n) && decide (n ≤ 5)) := by
  unfold Pr.szOf
  by_cases h : n = 1 ∨ n = 3 ∨ n = 4
  · rw [if_pos h]; rcases h with rfl | rfl | rfl <;> rfl
  · rw [if_neg h]
    by_cases h2 : n = 2 ∨ n = 5
    · rw [if_pos h2]; rcases h2 with rfl | rfl <;> rfl
    · rw [if_neg h2]
      by_cases h3 : 1 ≤ n
      · have h4 : ¬ n ≤ 5 := by omega
        simp [h3, h4]
      · simp [h3]
set_option maxHeartbeats 4000000 in
theorem rcond_any (c : Cd) (w : World) (hs : c.nm.size ≤ maxLen) : Calls Tryz.prog 79 #[cdV c] w fun e w' => e = .returned (.bool (okC c)) ∧ Below w.heap.size w w' := by
  obtain ⟨k, nt, nm, n⟩ := c
  have HREF : Hid (okC ⟨k, nt, nm, n⟩ = if k = 1 ∨ k = 2 ∨ k = 3 ∨ k = 4 then nameB nm && (n == 0) else if k = 5 then (nm.toList == []) && (decide (0 ≤ n) && decide (n ≤ 2)) else if k = 6 then (nm.toList == []) && (decide (0 ≤ n) && decide (n ≤ 65535)) else if k = 7 then (nm.toList == []) && (decide (1 ≤ n) && decide (n ≤ 5)) else false) := by unfold Hid; rw [← fam_sz]; rfl
  have HB : Hid (∀ A B, Below w.heap.size w ((w.alloc (.cells A 37)).alloc (.cells B 37))) := fun A B => ((Below.refl _ _).alloc (Nat.le_refl _) _).alloc (by simp) _
  have HN : Hid (∀ X, Calls Tryz.prog 67 #[.string nm] X fun e w' => e = .returned (.bool (nameB nm)) ∧ w' = X) := fun X => rname16 nm X hs
  clear hs
  generalize okC ⟨k, nt, nm, n⟩ = r at *
  generalize nameB nm = zn at *
  unfold cdV
  dsimp only
  by_cases h0 : k = 1 ∨ k = 2 ∨ k = 3 ∨ k = 4
  · rw [if_pos h0] at HREF
    rcases h0 with rfl | rfl | rfl | rfl
    · obtain ⟨z, hz⟩ : ∃ z, ((1 : Int) == 1 && (nt == nt && (nm.toList == (nm : ByteArray).toList && n == 0))) = z := ⟨_, rfl⟩
      have hq : ∀ W, (binOp .eql 37 (.agg #[.int .i64 1, .bool nt, .string nm, .int .i64 n]) (.agg #[.int .i64 1, .bool nt, .string nm, .int .i64 0])).run Tryz.prog W = .ok (.bool z) W := fun W => (eqlC 1 1 nt nt nm nm n 0 W).trans (by rw [hz])
      have HZ : Hid ((n == 0) = z) := by unfold Hid; rw [← hz]; simp [ByteArray.toList_eq]
      clear hz
      rw [HZ.out] at HREF
      cases zn
      · skip
        go_enter Tryz.func79, Tryz.ntmps79
        go_wp2_with (go_at_call 67; refine Calls.mono (HN.out _) ?_; rintro e w2 ⟨rfl, rfl⟩)
        go_ret
        exact ⟨ret_bool (by first | exact HREF.out.symm | (rw [HREF.out]; first | rfl | simp)), HB.out _ _⟩
      · skip
        go_enter Tryz.func79, Tryz.ntmps79
        go_wp2_with (go_at_call 67; refine Calls.mono (HN.out _) ?_; rintro e w2 ⟨rfl, rfl⟩)
        go_ret
        exact ⟨ret_bool (by first | exact HREF.out.symm | (rw [HREF.out]; first | rfl | simp)), HB.out _ _⟩
    · obtain ⟨z, hz⟩ : ∃ z, ((2 : Int) == 2 && (nt == nt && (nm.toList == (nm : ByteArray).toList && n == 0))) = z := ⟨_, rfl⟩
      have hq : ∀ W, (binOp .eql 37 (.agg #[.int .i64 2, .bool nt, .string nm, .int .i64 n]) (.agg #[.int .i64 2, .bool nt, .string nm, .int .i64 0])).run Tryz.prog W = .ok (.bool z) W := fun W => (eqlC 2 2 nt nt nm nm n 0 W).trans (by rw [hz])
      have HZ : Hid ((n == 0) = z) := by unfold Hid; rw [← hz]; simp [ByteArray.toList_eq]
      clear hz
      rw [HZ.out] at HREF
      cases zn
      · skip
        go_enter Tryz.func79, Tryz.ntmps79
        go_wp2_with (go_at_call 67; refine Calls.mono (HN.out _) ?_; rintro e w2 ⟨rfl, rfl⟩)
        go_ret
        exact ⟨ret_bool (by first | exact HREF.out.symm | (rw [HREF.out]; first | rfl | simp)), HB.out _ _⟩
      · skip
        go_enter Tryz.func79, Tryz.ntmps79
        go_wp2_with (go_at_call 67; refine Calls.mono (HN.out _) ?_; rintro e w2 ⟨rfl, rfl⟩)
        go_ret
        exact ⟨ret_bool (by first | exact HREF.out.symm | (rw [HREF.out]; first | rfl | simp)), HB.out _ _⟩
    · obtain ⟨z, hz⟩ : ∃ z, ((3 : Int) == 3 && (nt == nt && (nm.toList == (nm : ByteArray).toList && n == 0))) = z := ⟨_, rfl⟩
      have hq : ∀ W, (binOp .eql 37 (.agg #[.int .i64 3, .bool nt, .string nm, .int .i64 n]) (.agg #[.int .i64 3, .bool nt, .string nm, .int .i64 0])).run Tryz.prog W = .ok (.bool z) W := fun W => (eqlC 3 3 nt nt nm nm n 0 W).trans (by rw [hz])
      have HZ : Hid ((n == 0) = z) := by unfold Hid; rw [← hz]; simp [ByteArray.toList_eq]
      clear hz
      rw [HZ.out] at HREF
      cases zn
      · skip
        go_enter Tryz.func79, Tryz.ntmps79
        go_wp2_with (go_at_call 67; refine Calls.mono (HN.out _) ?_; rintro e w2 ⟨rfl, rfl⟩)
        go_ret
        exact ⟨ret_bool (by first | exact HREF.out.symm | (rw [HREF.out]; first | rfl | simp)), HB.out _ _⟩
      · skip
        go_enter Tryz.func79, Tryz.ntmps79
        go_wp2_with (go_at_call 67; refine Calls.mono (HN.out _) ?_; rintro e w2 ⟨rfl, rfl⟩)
        go_ret
        exact ⟨ret_bool (by first | exact HREF.out.symm | (rw [HREF.out]; first | rfl | simp)), HB.out _ _⟩
    · obtain ⟨z, hz⟩ : ∃ z, ((4 : Int) == 4 && (nt == nt && (nm.toList == (nm : ByteArray).toList && n == 0))) = z := ⟨_, rfl⟩
      have hq : ∀ W, (binOp .eql 37 (.agg #[.int .i64 4, .bool nt, .string nm, .int .i64 n]) (.agg #[.int .i64 4, .bool nt, .string nm, .int .i64 0])).run Tryz.prog W = .ok (.bool z) W := fun W => (eqlC 4 4 nt nt nm nm n 0 W).trans (by rw [hz])
      have HZ : Hid ((n == 0) = z) := by unfold Hid; rw [← hz]; simp [ByteArray.toList_eq]
      clear hz
      rw [HZ.out] at HREF
      cases zn
      · skip
        go_enter Tryz.func79, Tryz.ntmps79
        go_wp2_with (go_at_call 67; refine Calls.mono (HN.out _) ?_; rintro e w2 ⟨rfl, rfl⟩)
        go_ret
        exact ⟨ret_bool (by first | exact HREF.out.symm | (rw [HREF.out]; first | rfl | simp)), HB.out _ _⟩
      · skip
        go_enter Tryz.func79, Tryz.ntmps79
        go_wp2_with (go_at_call 67; refine Calls.mono (HN.out _) ?_; rintro e w2 ⟨rfl, rfl⟩)
        go_ret
        exact ⟨ret_bool (by first | exact HREF.out.symm | (rw [HREF.out]; first | rfl | simp)), HB.out _ _⟩
  · rw [if_neg h0] at HREF
    have g1 : (k == 1) = false := beq_eq_false_iff_ne.2 (by omega)
    have g2 : (k == 2) = false := beq_eq_false_iff_ne.2 (by omega)
    have g3 : (k == 3) = false := beq_eq_false_iff_ne.2 (by omega)
    have g4 : (k == 4) = false := beq_eq_false_iff_ne.2 (by omega)
    by_cases h5 : k = 5
    · subst h5
      rw [if_pos rfl] at HREF
      clear g1 g2 g3 g4
      obtain ⟨z, hz⟩ : ∃ z, ((5 : Int) == 5 && (nt == nt && (nm.toList == (⟨#[]⟩ : ByteArray).toList && n == n))) = z := ⟨_, rfl⟩
      have hq : ∀ W, (binOp .eql 37 (.agg #[.int .i64 5, .bool nt, .string nm, .int .i64 n]) (.agg #[.int .i64 5, .bool nt, .string ⟨#[]⟩, .int .i64 n])).run Tryz.prog W = .ok (.bool z) W := fun W => (eqlC 5 5 nt nt nm ⟨#[]⟩ n n W).trans (by rw [hz])
      have HZ : Hid ((nm.toList == []) = z) := by unfold Hid; rw [← hz]; simp [ByteArray.toList_eq]
      clear hz
      rw [HZ.out] at HREF
      by_cases hp : 0 ≤ n
      · rw [decide_eq_true hp] at HREF
        by_cases hp2 : n ≤ 2
        · rw [decide_eq_true hp2] at HREF
          go_enter Tryz.func79, Tryz.ntmps79
          go_wp2
          go_ret
          exact ⟨ret_bool (by first | exact HREF.out.symm | (rw [HREF.out]; first | rfl | simp)), HB.out _ _⟩
        · rw [decide_eq_false hp2] at HREF
          go_enter Tryz.func79, Tryz.ntmps79
          go_wp2
          go_ret
          exact ⟨ret_bool (by first | exact HREF.out.symm | (rw [HREF.out]; first | rfl | simp)), HB.out _ _⟩
      · rw [decide_eq_false hp] at HREF
        go_enter Tryz.func79, Tryz.ntmps79
        go_wp2
        go_ret
        exact ⟨ret_bool (by first | exact HREF.out.symm | (rw [HREF.out]; first | rfl | simp)), HB.out _ _⟩
    · rw [if_neg h5] at HREF
      have g5 : (k == 5) = false := beq_eq_false_iff_ne.2 (by omega)
      by_cases h6 : k = 6
      · subst h6
        rw [if_pos rfl] at HREF
        clear g1 g2 g3 g4 g5
        obtain ⟨z, hz⟩ : ∃ z, ((6 : Int) == 6 && (nt == nt && (nm.toList == (⟨#[]⟩ : ByteArray).toList && n == n))) = z := ⟨_, rfl⟩
        have hq : ∀ W, (binOp .eql 37 (.agg #[.int .i64 6, .bool nt, .string nm, .int .i64 n]) (.agg #[.int .i64 6, .bool nt, .string ⟨#[]⟩, .int .i64 n])).run Tryz.prog W = .ok (.bool z) W := fun W => (eqlC 6 6 nt nt nm ⟨#[]⟩ n n W).trans (by rw [hz])
        have HZ : Hid ((nm.toList == []) = z) := by unfold Hid; rw [← hz]; simp [ByteArray.toList_eq]
        clear hz
        rw [HZ.out] at HREF
        by_cases hp : 0 ≤ n
        · rw [decide_eq_true hp] at HREF
          by_cases hp2 : n ≤ 65535
          · rw [decide_eq_true hp2] at HREF
            go_enter Tryz.func79, Tryz.ntmps79
            go_wp2
            go_ret
            exact ⟨ret_bool (by first | exact HREF.out.symm | (rw [HREF.out]; first | rfl | simp)), HB.out _ _⟩
          · rw [decide_eq_false hp2] at HREF
            go_enter Tryz.func79, Tryz.ntmps79
            go_wp2
            go_ret
            exact ⟨ret_bool (by first | exact HREF.out.symm | (rw [HREF.out]; first | rfl | simp)), HB.out _ _⟩
        · rw [decide_eq_false hp] at HREF
          go_enter Tryz.func79, Tryz.ntmps79
          go_wp2
          go_ret
          exact ⟨ret_bool (by first | exact HREF.out.symm | (rw [HREF.out]; first | rfl | simp)), HB.out _ _⟩
      · rw [if_neg h6] at HREF
        have g6 : (k == 6) = false := beq_eq_false_iff_ne.2 (by omega)
        by_cases h7 : k = 7
        · subst h7
          rw [if_pos rfl] at HREF
          clear g1 g2 g3 g4 g5 g6
          obtain ⟨z, hz⟩ : ∃ z, ((7 : Int) == 7 && (nt == nt && (nm.toList == (⟨#[]⟩ : ByteArray).toList && n == n))) = z := ⟨_, rfl⟩
          have hq : ∀ W, (binOp .eql 37 (.agg #[.int .i64 7, .bool nt, .string nm, .int .i64 n]) (.agg #[.int .i64 7, .bool nt, .string ⟨#[]⟩, .int .i64 n])).run Tryz.prog W = .ok (.bool z) W := fun W => (eqlC 7 7 nt nt nm ⟨#[]⟩ n n W).trans (by rw [hz])
          have HZ : Hid ((nm.toList == []) = z) := by unfold Hid; rw [← hz]; simp [ByteArray.toList_eq]
          clear hz
          rw [HZ.out] at HREF
          by_cases hp : 1 ≤ n
          · rw [decide_eq_true hp] at HREF
            by_cases hp2 : n ≤ 5
            · rw [decide_eq_true hp2] at HREF
              go_enter Tryz.func79, Tryz.ntmps79
              go_wp2
              go_ret
              exact ⟨ret_bool (by first | exact HREF.out.symm | (rw [HREF.out]; first | rfl | simp)), HB.out _ _⟩
            · rw [decide_eq_false hp2] at HREF
              go_enter Tryz.func79, Tryz.ntmps79
              go_wp2
              go_ret
              exact ⟨ret_bool (by first | exact HREF.out.symm | (rw [HREF.out]; first | rfl | simp)), HB.out _ _⟩
          · rw [decide_eq_false hp] at HREF
            go_enter Tryz.func79, Tryz.ntmps79
            go_wp2
            go_ret
            exact ⟨ret_bool (by first | exact HREF.out.symm | (rw [HREF.out]; first | rfl | simp)), HB.out _ _⟩
        · rw [if_neg h7] at HREF
          have g7 : (k == 7) = false := beq_eq_false_iff_ne.2 (by omega)
          clear h0 h5 h6 h7
          go_enter Tryz.func79, Tryz.ntmps79
          go_wp2
          go_ret
          exact ⟨ret_bool (by first | exact HREF.out.symm | (rw [HREF.out]; first | rfl | simp)), HB.out _ _⟩
end Go.Proofs.YthaebbmekonacaaGreatDoor

set_option linter.unusedVariables false
set_option linter.unusedSimpArgs false
set_option maxRecDepth 100000
namespace Go.Proofs.YthaebbmekonacaaGreatDoor
open Go.RowKit
set_option maxHeartbeats 4000000 in
theorem raction_any (a : Ac) (w : World) (hs : a.nm.size ≤ maxLen) (hd : a.ad.size ≤ maxLen) : Calls Tryz.prog 80 #[acV a] w fun e w' => e = .returned (.bool (okA' a)) ∧ Below w.heap.size w w' := by
  obtain ⟨k, nm, n, ad⟩ := a
  have HREF : Hid (okA' ⟨k, nm, n, ad⟩ = if k = 1 ∨ k = 2 ∨ k = 5 then (nm.toList == []) && ((n == 0) && (ad.toList == []))
  else if k = 3 ∨ k = 4 ∨ k = 6 then (nm.toList == []) && (ad.toList == [])
  else if k = 7 then ((n == 0) && (ad.toList == [])) && nameB nm
  else if k = 8 then ((nm.toList == []) && (ad.toList == [])) && (decide (1 ≤ n) && decide (n ≤ 8))
  else if k = 9 then ((nm.toList == []) && (n == 0)) && isAd ad
  else if k = 10 then ((nm.toList == []) && (ad.toList == [])) && decide (n ≤ 2)
  else false) := rfl
  have HB : Hid (∀ A B, Below w.heap.size w ((w.alloc (.cells A 40)).alloc (.cells B 40))) := fun A B => ((Below.refl _ _).alloc (Nat.le_refl _) _).alloc (by simp) _
  have HN : Hid (∀ X, Calls Tryz.prog 67 #[.string nm] X fun e w' => e = .returned (.bool (nameB nm)) ∧ w' = X) := fun X => rname16 nm X hs
  have HAd : Hid (isAd ad = decide (ad.size = 4 ∨ ad.size = 16)) := rfl
  unfold maxLen at hd
  clear hs
  generalize okA' ⟨k, nm, n, ad⟩ = r at *
  generalize nameB nm = zn at *
  generalize isAd ad = za at *
  unfold acV
  dsimp only
  by_cases h0 : k = 1 ∨ k = 2 ∨ k = 5
  · rw [if_pos h0] at HREF
    rcases h0 with rfl | rfl | rfl
    · obtain ⟨z, hz⟩ : ∃ z, ((1 : Int) == 1 && (nm.toList == (⟨#[]⟩ : ByteArray).toList && (n == 0 && ad.toList == (⟨#[]⟩ : ByteArray).toList))) = z := ⟨_, rfl⟩
      have hq : ∀ W, (binOp .eql 40 (.agg #[.int .i64 1, .string nm, .int .u32 (n : Int), .string ad]) (.agg #[.int .i64 1, .string ⟨#[]⟩, .int .u32 0, .string ⟨#[]⟩])).run Tryz.prog W = .ok (.bool z) W := fun W => (eqlA 1 1 nm ⟨#[]⟩ n 0 ad ⟨#[]⟩ W).trans (by rw [hz])
      have HZ : Hid (((nm.toList == []) && ((n == 0) && (ad.toList == []))) = z) := by unfold Hid; rw [← hz]; simp [ByteArray.toList_eq]
      clear hz
      rw [HZ.out] at HREF
      go_enter Tryz.func80, Tryz.ntmps80
      go_wp2
      go_ret
      exact ⟨ret_bool (by first | exact HREF.out.symm | (rw [HREF.out]; first | rfl | simp)), HB.out _ _⟩
    · obtain ⟨z, hz⟩ : ∃ z, ((2 : Int) == 2 && (nm.toList == (⟨#[]⟩ : ByteArray).toList && (n == 0 && ad.toList == (⟨#[]⟩ : ByteArray).toList))) = z := ⟨_, rfl⟩
      have hq : ∀ W, (binOp .eql 40 (.agg #[.int .i64 2, .string nm, .int .u32 (n : Int), .string ad]) (.agg #[.int .i64 2, .string ⟨#[]⟩, .int .u32 0, .string ⟨#[]⟩])).run Tryz.prog W = .ok (.bool z) W := fun W => (eqlA 2 2 nm ⟨#[]⟩ n 0 ad ⟨#[]⟩ W).trans (by rw [hz])
      have HZ : Hid (((nm.toList == []) && ((n == 0) && (ad.toList == []))) = z) := by unfold Hid; rw [← hz]; simp [ByteArray.toList_eq]
      clear hz
      rw [HZ.out] at HREF
      go_enter Tryz.func80, Tryz.ntmps80
      go_wp2
      go_ret
      exact ⟨ret_bool (by first | exact HREF.out.symm | (rw [HREF.out]; first | rfl | simp)), HB.out _ _⟩
    · obtain ⟨z, hz⟩ : ∃ z, ((5 : Int) == 5 && (nm.toList == (⟨#[]⟩ : ByteArray).toList && (n == 0 && ad.toList == (⟨#[]⟩ : ByteArray).toList))) = z := ⟨_, rfl⟩
      have hq : ∀ W, (binOp .eql 40 (.agg #[.int .i64 5, .string nm, .int .u32 (n : Int), .string ad]) (.agg #[.int .i64 5, .string ⟨#[]⟩, .int .u32 0, .string ⟨#[]⟩])).run Tryz.prog W = .ok (.bool z) W := fun W => (eqlA 5 5 nm ⟨#[]⟩ n 0 ad ⟨#[]⟩ W).trans (by rw [hz])
      have HZ : Hid (((nm.toList == []) && ((n == 0) && (ad.toList == []))) = z) := by unfold Hid; rw [← hz]; simp [ByteArray.toList_eq]
      clear hz
      rw [HZ.out] at HREF
      go_enter Tryz.func80, Tryz.ntmps80
      go_wp2
      go_ret
      exact ⟨ret_bool (by first | exact HREF.out.symm | (rw [HREF.out]; first | rfl | simp)), HB.out _ _⟩
  · rw [if_neg h0] at HREF
    have g1 : (k == 1) = false := beq_eq_false_iff_ne.2 (by omega)
    have g2 : (k == 2) = false := beq_eq_false_iff_ne.2 (by omega)
    have g5 : (k == 5) = false := beq_eq_false_iff_ne.2 (by omega)
    by_cases h1 : k = 3 ∨ k = 4 ∨ k = 6
    · rw [if_pos h1] at HREF
      clear g1 g2 g5 h0
      rcases h1 with rfl | rfl | rfl
      · obtain ⟨z, hz⟩ : ∃ z, ((3 : Int) == 3 && (nm.toList == (⟨#[]⟩ : ByteArray).toList && (n == n && ad.toList == (⟨#[]⟩ : ByteArray).toList))) = z := ⟨_, rfl⟩
        have hq : ∀ W, (binOp .eql 40 (.agg #[.int .i64 3, .string nm, .int .u32 (n : Int), .string ad]) (.agg #[.int .i64 3, .string ⟨#[]⟩, .int .u32 (n : Int), .string ⟨#[]⟩])).run Tryz.prog W = .ok (.bool z) W := fun W => (eqlA 3 3 nm ⟨#[]⟩ n n ad ⟨#[]⟩ W).trans (by rw [hz])
        have HZ : Hid (((nm.toList == []) && (ad.toList == [])) = z) := by unfold Hid; rw [← hz]; simp [ByteArray.toList_eq]
        clear hz
        rw [HZ.out] at HREF
        go_enter Tryz.func80, Tryz.ntmps80
        go_wp2
        go_ret
        exact ⟨ret_bool (by first | exact HREF.out.symm | (rw [HREF.out]; first | rfl | simp)), HB.out _ _⟩
      · obtain ⟨z, hz⟩ : ∃ z, ((4 : Int) == 4 && (nm.toList == (⟨#[]⟩ : ByteArray).toList && (n == n && ad.toList == (⟨#[]⟩ : ByteArray).toList))) = z := ⟨_, rfl⟩
        have hq : ∀ W, (binOp .eql 40 (.agg #[.int .i64 4, .string nm, .int .u32 (n : Int), .string ad]) (.agg #[.int .i64 4, .string ⟨#[]⟩, .int .u32 (n : Int), .string ⟨#[]⟩])).run Tryz.prog W = .ok (.bool z) W := fun W => (eqlA 4 4 nm ⟨#[]⟩ n n ad ⟨#[]⟩ W).trans (by rw [hz])
        have HZ : Hid (((nm.toList == []) && (ad.toList == [])) = z) := by unfold Hid; rw [← hz]; simp [ByteArray.toList_eq]
        clear hz
        rw [HZ.out] at HREF
        go_enter Tryz.func80, Tryz.ntmps80
        go_wp2
        go_ret
        exact ⟨ret_bool (by first | exact HREF.out.symm | (rw [HREF.out]; first | rfl | simp)), HB.out _ _⟩
      · obtain ⟨z, hz⟩ : ∃ z, ((6 : Int) == 6 && (nm.toList == (⟨#[]⟩ : ByteArray).toList && (n == n && ad.toList == (⟨#[]⟩ : ByteArray).toList))) = z := ⟨_, rfl⟩
        have hq : ∀ W, (binOp .eql 40 (.agg #[.int .i64 6, .string nm, .int .u32 (n : Int), .string ad]) (.agg #[.int .i64 6, .string ⟨#[]⟩, .int .u32 (n : Int), .string ⟨#[]⟩])).run Tryz.prog W = .ok (.bool z) W := fun W => (eqlA 6 6 nm ⟨#[]⟩ n n ad ⟨#[]⟩ W).trans (by rw [hz])
        have HZ : Hid (((nm.toList == []) && (ad.toList == [])) = z) := by unfold Hid; rw [← hz]; simp [ByteArray.toList_eq]
        clear hz
        rw [HZ.out] at HREF
        go_enter Tryz.func80, Tryz.ntmps80
        go_wp2
        go_ret
        exact ⟨ret_bool (by first | exact HREF.out.symm | (rw [HREF.out]; first | rfl | simp)), HB.out _ _⟩
    · rw [if_neg h1] at HREF
      have g3 : (k == 3) = false := beq_eq_false_iff_ne.2 (by omega)
      have g4 : (k == 4) = false := beq_eq_false_iff_ne.2 (by omega)
      have g6 : (k == 6) = false := beq_eq_false_iff_ne.2 (by omega)
      by_cases h2 : k = 7
      · rw [if_pos h2] at HREF
        clear g1 g2 g5 g3 g4 g6 h0 h1
        rcases h2 with rfl
        · obtain ⟨z, hz⟩ : ∃ z, ((7 : Int) == 7 && (nm.toList == (nm : ByteArray).toList && (n == 0 && ad.toList == (⟨#[]⟩ : ByteArray).toList))) = z := ⟨_, rfl⟩
          have hq : ∀ W, (binOp .eql 40 (.agg #[.int .i64 7, .string nm, .int .u32 (n : Int), .string ad]) (.agg #[.int .i64 7, .string nm, .int .u32 0, .string ⟨#[]⟩])).run Tryz.prog W = .ok (.bool z) W := fun W => (eqlA 7 7 nm nm n 0 ad ⟨#[]⟩ W).trans (by rw [hz])
          have HZ : Hid (((n == 0) && (ad.toList == [])) = z) := by unfold Hid; rw [← hz]; simp [ByteArray.toList_eq]
          clear hz
          rw [HZ.out] at HREF
          cases zn
          · skip
            go_enter Tryz.func80, Tryz.ntmps80
            go_wp2_with (go_at_call 67; refine Calls.mono (HN.out _) ?_; rintro e w2 ⟨rfl, rfl⟩)
            go_ret
            exact ⟨ret_bool (by first | exact HREF.out.symm | (rw [HREF.out]; first | rfl | simp)), HB.out _ _⟩
          · skip
            go_enter Tryz.func80, Tryz.ntmps80
            go_wp2_with (go_at_call 67; refine Calls.mono (HN.out _) ?_; rintro e w2 ⟨rfl, rfl⟩)
            go_ret
            exact ⟨ret_bool (by first | exact HREF.out.symm | (rw [HREF.out]; first | rfl | simp)), HB.out _ _⟩
      · rw [if_neg h2] at HREF
        have g7 : (k == 7) = false := beq_eq_false_iff_ne.2 (by omega)
        by_cases h3 : k = 8
        · rw [if_pos h3] at HREF
          clear g1 g2 g5 g3 g4 g6 g7 h0 h1 h2
          rcases h3 with rfl
          · obtain ⟨z, hz⟩ : ∃ z, ((8 : Int) == 8 && (nm.toList == (⟨#[]⟩ : ByteArray).toList && (n == n && ad.toList == (⟨#[]⟩ : ByteArray).toList))) = z := ⟨_, rfl⟩
            have hq : ∀ W, (binOp .eql 40 (.agg #[.int .i64 8, .string nm, .int .u32 (n : Int), .string ad]) (.agg #[.int .i64 8, .string ⟨#[]⟩, .int .u32 (n : Int), .string ⟨#[]⟩])).run Tryz.prog W = .ok (.bool z) W := fun W => (eqlA 8 8 nm ⟨#[]⟩ n n ad ⟨#[]⟩ W).trans (by rw [hz])
            have HZ : Hid (((nm.toList == []) && (ad.toList == [])) = z) := by unfold Hid; rw [← hz]; simp [ByteArray.toList_eq]
            clear hz
            rw [HZ.out] at HREF
            by_cases hp : 1 ≤ n
            · have hp1 : (1 : Int) ≤ (n : Int) := by omega
              rw [decide_eq_true hp] at HREF
              by_cases hq2 : n ≤ 8
              · have hp2 : (n : Int) ≤ 8 := by omega
                rw [decide_eq_true hq2] at HREF
                clear hp hq2
                go_enter Tryz.func80, Tryz.ntmps80
                go_wp2
                go_ret
                exact ⟨ret_bool (by first | exact HREF.out.symm | (rw [HREF.out]; first | rfl | simp)), HB.out _ _⟩
              · have hp2 : ¬ (n : Int) ≤ 8 := by omega
                rw [decide_eq_false hq2] at HREF
                clear hp hq2
                go_enter Tryz.func80, Tryz.ntmps80
                go_wp2
                go_ret
                exact ⟨ret_bool (by first | exact HREF.out.symm | (rw [HREF.out]; first | rfl | simp)), HB.out _ _⟩
            · have hp1 : ¬ (1 : Int) ≤ (n : Int) := by omega
              rw [decide_eq_false hp] at HREF
              clear hp
              go_enter Tryz.func80, Tryz.ntmps80
              go_wp2
              go_ret
              exact ⟨ret_bool (by first | exact HREF.out.symm | (rw [HREF.out]; first | rfl | simp)), HB.out _ _⟩
        · rw [if_neg h3] at HREF
          have g8 : (k == 8) = false := beq_eq_false_iff_ne.2 (by omega)
          by_cases h4 : k = 9
          · rw [if_pos h4] at HREF
            clear g1 g2 g5 g3 g4 g6 g7 g8 h0 h1 h2 h3
            rcases h4 with rfl
            · obtain ⟨z, hz⟩ : ∃ z, ((9 : Int) == 9 && (nm.toList == (⟨#[]⟩ : ByteArray).toList && (n == 0 && ad.toList == (ad : ByteArray).toList))) = z := ⟨_, rfl⟩
              have hq : ∀ W, (binOp .eql 40 (.agg #[.int .i64 9, .string nm, .int .u32 (n : Int), .string ad]) (.agg #[.int .i64 9, .string ⟨#[]⟩, .int .u32 0, .string ad])).run Tryz.prog W = .ok (.bool z) W := fun W => (eqlA 9 9 nm ⟨#[]⟩ n 0 ad ad W).trans (by rw [hz])
              have HZ : Hid (((nm.toList == []) && (n == 0)) = z) := by unfold Hid; rw [← hz]; simp [ByteArray.toList_eq]
              clear hz
              rw [HZ.out] at HREF
              by_cases q4 : ad.size = 4
              · have q4i : ((ad.size : Int) == 4) = true := by simp; omega
                have hza : za = true := by rw [HAd.out]; simp [q4]
                rw [hza] at HREF
                clear hza HAd q4
                go_enter Tryz.func80, Tryz.ntmps80
                go_wp2
                go_ret
                exact ⟨ret_bool (by first | exact HREF.out.symm | (rw [HREF.out]; first | rfl | simp)), HB.out _ _⟩
              · have q4i : ((ad.size : Int) == 4) = false := by simp; omega
                by_cases q6 : ad.size = 16
                · have q6i : ((ad.size : Int) == 16) = true := by simp; omega
                  have hza : za = true := by rw [HAd.out]; simp [q6]
                  rw [hza] at HREF
                  clear hza HAd q4 q6
                  go_enter Tryz.func80, Tryz.ntmps80
                  go_wp2
                  go_ret
                  exact ⟨ret_bool (by first | exact HREF.out.symm | (rw [HREF.out]; first | rfl | simp)), HB.out _ _⟩
                · have q6i : ((ad.size : Int) == 16) = false := by simp; omega
                  have hza : za = false := by rw [HAd.out]; simp [q4, q6]
                  rw [hza] at HREF
                  clear hza HAd q4 q6
                  go_enter Tryz.func80, Tryz.ntmps80
                  go_wp2
                  go_ret
                  exact ⟨ret_bool (by first | exact HREF.out.symm | (rw [HREF.out]; first | rfl | simp)), HB.out _ _⟩
          · rw [if_neg h4] at HREF
            have g9 : (k == 9) = false := beq_eq_false_iff_ne.2 (by omega)
            by_cases h5 : k = 10
            · rw [if_pos h5] at HREF
              clear g1 g2 g5 g3 g4 g6 g7 g8 g9 h0 h1 h2 h3 h4
              rcases h5 with rfl
              · obtain ⟨z, hz⟩ : ∃ z, ((10 : Int) == 10 && (nm.toList == (⟨#[]⟩ : ByteArray).toList && (n == n && ad.toList == (⟨#[]⟩ : ByteArray).toList))) = z := ⟨_, rfl⟩
                have hq : ∀ W, (binOp .eql 40 (.agg #[.int .i64 10, .string nm, .int .u32 (n : Int), .string ad]) (.agg #[.int .i64 10, .string ⟨#[]⟩, .int .u32 (n : Int), .string ⟨#[]⟩])).run Tryz.prog W = .ok (.bool z) W := fun W => (eqlA 10 10 nm ⟨#[]⟩ n n ad ⟨#[]⟩ W).trans (by rw [hz])
                have HZ : Hid (((nm.toList == []) && (ad.toList == [])) = z) := by unfold Hid; rw [← hz]; simp [ByteArray.toList_eq]
                clear hz
                rw [HZ.out] at HREF
                by_cases hq2 : n ≤ 2
                · have hp2 : (n : Int) ≤ 2 := by omega
                  rw [decide_eq_true hq2] at HREF
                  clear hq2
                  go_enter Tryz.func80, Tryz.ntmps80
                  go_wp2
                  go_ret
                  exact ⟨ret_bool (by first | exact HREF.out.symm | (rw [HREF.out]; first | rfl | simp)), HB.out _ _⟩
                · have hp2 : ¬ (n : Int) ≤ 2 := by omega
                  rw [decide_eq_false hq2] at HREF
                  clear hq2
                  go_enter Tryz.func80, Tryz.ntmps80
                  go_wp2
                  go_ret
                  exact ⟨ret_bool (by first | exact HREF.out.symm | (rw [HREF.out]; first | rfl | simp)), HB.out _ _⟩
            · rw [if_neg h5] at HREF
              have g10 : (k == 10) = false := beq_eq_false_iff_ne.2 (by omega)
              clear h0 h1 h2 h3 h4 h5
              go_enter Tryz.func80, Tryz.ntmps80
              go_wp2
              go_ret
              exact ⟨ret_bool (by first | exact HREF.out.symm | (rw [HREF.out]; first | rfl | simp)), HB.out _ _⟩
end Go.Proofs.YthaebbmekonacaaGreatDoor

set_option linter.unusedVariables false
set_option linter.unusedSimpArgs false
set_option maxRecDepth 100000
namespace Go.Proofs.YthaebbmekonacaaGreatDoor
open Go.RowKit
/-- Words, a blank ahead of each. -/
def txt (ws : List (List UInt8)) : List UInt8 := ws.flatMap fun x => 32 :: x
theorem txt_nil : txt [] = [] := rfl
theorem txt_cons (x : List UInt8) (r : List (List UInt8)) : txt (x :: r) = 32 :: (x ++ txt r) := by simp [txt]
theorem txt_app (a b : List (List UInt8)) : txt (a ++ b) = txt a ++ txt b := by simp [txt]
def NoBl (ws : List (List UInt8)) : Prop := ∀ x ∈ ws, (32 : UInt8) ∉ x
theorem NoBl.app {a b : List (List UInt8)} (h : NoBl a) (k : NoBl b) : NoBl (a ++ b) := fun x hx => by
  rcases List.mem_append.1 hx with e | e
  · exact h x e
  · exact k x e
theorem NoBl.cons {x : List UInt8} {b : List (List UInt8)} (h : (32 : UInt8) ∉ x) (k : NoBl b) : NoBl (x :: b) := fun y hy => by
  rcases List.mem_cons.1 hy with e | e
  · rw [e]; exact h
  · exact k y e
theorem NoBl.nil : NoBl [] := fun x hx => by simp at hx
theorem spl_cons (c : UInt8) (l : List UInt8) (h : c ≠ 32) (x : List UInt8) (r : List (List UInt8)) (e : spl l = x :: r) : spl (c :: l) = (c :: x) :: r := by
  rw [spl, if_neg h, e]
theorem spl_word (x l : List UInt8) (h : (32 : UInt8) ∉ x) (y : List UInt8) (r : List (List UInt8)) (e : spl l = y :: r) : spl (x ++ l) = (x ++ y) :: r := by
  induction x with
  | nil => exact e
  | cons c x ih =>
    rw [List.mem_cons, not_or] at h
    exact spl_cons c (x ++ l) (fun k => h.1 k.symm) _ _ (ih h.2)
theorem spl_txt : ∀ (r : List (List UInt8)) (x : List UInt8), (32 : UInt8) ∉ x → NoBl r → spl (x ++ txt r) = x :: r
  | [], x, hx, _ => by
    have := spl_word x [] hx [] [] rfl
    rw [List.append_nil] at this
    rw [txt_nil, List.append_nil]
    exact this
  | y :: r, x, hx, hr => by
    rw [txt_cons]
    have h1 : spl (y ++ txt r) = y :: r := spl_txt r y (hr y (by simp)) fun z hz => hr z (by simp [hz])
    have h2 : spl (32 :: (y ++ txt r)) = [] :: (y :: r) := by rw [spl, if_pos rfl, h1]
    have := spl_word x _ hx [] _ h2
    rw [List.append_nil] at this
    exact this
/-- A text that is told by its words. -/
theorem spl_of (l x : List UInt8) (r : List (List UInt8)) (h : 32 :: l = txt (x :: r)) (hx : (32 : UInt8) ∉ x) (hr : NoBl r) : spl l = x :: r := by
  rw [txt_cons] at h
  injection h with _ h
  rw [h]
  exact spl_txt r x hx hr
def notW : List UInt8 := [110, 111, 116]
/-- The words of a condition, of an action. -/
def wC (c : Cd) : List (List UInt8) := (if c.nt then [notW] else []) ++ [cwL.getD c.k.toNat [], cvT c]
def wA (a : Ac) : List (List UInt8) := awL.getD a.k.toNat [] :: (if avT a = [] then [] else [avT a])
theorem txt_c (c : Cd) : txt (wC c) = 32 :: cT c := by
  unfold wC cT
  cases c.nt
  · simp [txt]
  · simp [txt, notW]
theorem txt_a (a : Ac) : txt (wA a) = 32 :: aT a := by
  unfold wA aT
  by_cases h : avT a = []
  · simp [txt, h]
  · simp [txt, h]
theorem flatW_app : ∀ (W : List (List (List UInt8))) (t : List (List UInt8)), flatW W t = flatW W [] ++ t
  | [], t => rfl
  | [a], t => by simp [flatW]
  | a :: b :: l, t => by
    simp only [flatW]
    rw [flatW_app (b :: l) t]
    simp
theorem txt_join {α : Type} (f : α → List UInt8) (g : α → List (List UInt8)) (h : ∀ a, txt (g a) = 32 :: f a) : ∀ (L : List α), L ≠ [] → txt (flatW (L.map g) []) = 32 :: Lib.join (L.map f) andT
  | [], hn => absurd rfl hn
  | [a], _ => by
    simp only [List.map_cons, List.map_nil, flatW, List.append_nil]
    rw [h a]
    simp [Lib.join]
  | a :: b :: l, _ => by
    have ih := txt_join f g h (b :: l) (by simp)
    simp only [List.map_cons] at ih ⊢
    simp only [flatW]
    rw [txt_app, txt_cons, ih, h a]
    simp [Lib.join, andT, andW]
/-- The words of a term. -/
def ifT : List UInt8 := [105, 102]
def thT : List UInt8 := [116, 104, 101, 110]
def wT (T : Tm) : List (List UInt8) := (if T.cs = [] then [] else ifT :: flatW (T.cs.map wC) []) ++ thT :: flatW (T.acs.map wA) []
theorem txt_t (T : Tm) (h : T.acs ≠ []) : txt (wT T) = 32 :: tT T := by
  unfold wT tT
  rw [txt_app, txt_cons, txt_join aT wA txt_a T.acs h]
  by_cases hc : T.cs = []
  · simp [hc, txt, thT]
  · rw [if_neg hc, if_neg hc, txt_cons, txt_join cT wC txt_c T.cs hc]
    simp [thT, ifT]
end Go.Proofs.YthaebbmekonacaaGreatDoor
set_option linter.unusedVariables false
set_option linter.unusedSimpArgs false
set_option maxRecDepth 100000
namespace Go.Proofs.YthaebbmekonacaaGreatDoor
open Go.RowKit
theorem free_join (sep : UInt8) (h : sep ≠ 32) (L : List (List UInt8)) (hL : ∀ x ∈ L, (32 : UInt8) ∉ x) : (32 : UInt8) ∉ Lib.join L [sep] := by
  cases L with
  | nil => rw [Lib.join_nil]; simp
  | cons x r =>
    rw [Lib.join_cons]
    intro e
    rcases List.mem_append.1 e with e | e
    · exact hL x (by simp) e
    · unfold Lib.joinTail at e
      obtain ⟨y, hy, hm⟩ := List.mem_flatten.1 e
      obtain ⟨z, hz, rfl⟩ := List.mem_map.1 hy
      rcases List.mem_append.1 hm with q | q
      · simp at q; exact h q.symm
      · exact hL z (by simp [hz]) q
theorem dig_free (n : Nat) : (32 : UInt8) ∉ Lib.decDigits n := fun e => by
  have := (digits_are n _ e).1
  revert this; decide
theorem hex_free (n : Nat) : (32 : UInt8) ∉ hexD n := Ad.Digs.free Ad.digs16 (by omega) (by omega) Ad.m32 n
theorem com_free (n : Nat) : (32 : UInt8) ∉ comT n := by
  unfold comT
  split
  · decide
  split
  · decide
  split
  · decide
  · intro e
    rcases List.mem_append.1 e with e | e
    · exact dig_free _ e
    rcases List.mem_append.1 e with e | e
    · revert e; decide
    · exact dig_free _ e
theorem adT_free (b : ByteArray) (h : b.size = 4 ∨ b.size = 16) : (32 : UInt8) ∉ adT b := by
  rcases h with h | h
  · obtain ⟨ns, h1, h2, rfl⟩ := Ad.of_four b h
    rw [Ad.adT_4 ns h1 h2]
    exact free_join 46 (by decide) _ fun x hx => by
      obtain ⟨n, _, rfl⟩ := List.mem_map.1 hx
      exact dig_free n
  · obtain ⟨ns, h1, h2, rfl⟩ := Ad.of_sixteen b h
    rw [Ad.adT_16 ns h1 h2]
    exact free_join 58 (by decide) _ fun x hx => by
      obtain ⟨n, _, rfl⟩ := List.mem_map.1 hx
      exact hex_free n
theorem name_free {s : ByteArray} (h : nameB s = true) : (32 : UInt8) ∉ s.data.toList := fun e => by
  unfold nameB at h
  simp only [Bool.and_eq_true, List.all_eq_true] at h
  have := h.2 _ e
  revert this; decide
theorem tab_free {tab : List (List UInt8)} (h : ∀ x ∈ tab, (32 : UInt8) ∉ x) (k : Nat) : (32 : UInt8) ∉ tab.getD k [] := by
  rw [List.getD_eq_getElem?_getD]
  cases e : tab[k]? with
  | none => simp
  | some x => exact h x (List.mem_of_getElem? e)
theorem cw_free : ∀ x ∈ cwL, (32 : UInt8) ∉ x := by decide
theorem aw_free : ∀ x ∈ awL, (32 : UInt8) ∉ x := by decide
theorem ow_free : ∀ x ∈ owL, (32 : UInt8) ∉ x := by decide
theorem fw_free : ∀ x ∈ fwL, (32 : UInt8) ∉ x := by decide
theorem cv_free (c : Cd) (h : okC c = true) : (32 : UInt8) ∉ cvT c := by
  unfold cvT
  split
  · exact tab_free ow_free _
  split
  · exact dig_free _
  split
  · exact tab_free fw_free _
  · next h5 h6 h7 =>
    rcases ok_kinds h with ⟨_, hn, _⟩ | ⟨hk, _⟩ | ⟨hk, _⟩ | ⟨hk, _⟩
    · exact name_free hn
    · exact absurd hk h5
    · exact absurd hk h6
    · exact absurd hk h7
theorem okA_kinds {a : Ac} (h : okA' a = true) : (a.k = 1 ∨ a.k = 2 ∨ a.k = 5) ∧ a.nm.toList = [] ∧ a.n = 0 ∧ a.ad.toList = [] ∨ (a.k = 3 ∨ a.k = 4 ∨ a.k = 6 ∨ a.k = 8) ∧ a.nm.toList = [] ∧ a.ad.toList = [] ∨ a.k = 7 ∧ a.n = 0 ∧ a.ad.toList = [] ∧ nameB a.nm = true ∨ a.k = 9 ∧ a.nm.toList = [] ∧ a.n = 0 ∧ (a.ad.size = 4 ∨ a.ad.size = 16) ∨ a.k = 10 ∧ a.nm.toList = [] ∧ a.ad.toList = [] ∧ a.n ≤ 2 := by
  unfold okA' at h
  split at h
  · next hk =>
    simp only [Bool.and_eq_true, beq_iff_eq] at h
    exact Or.inl ⟨hk, h.1, h.2.1, h.2.2⟩
  split at h
  · next hk =>
    simp only [Bool.and_eq_true, beq_iff_eq] at h
    exact Or.inr (Or.inl ⟨by omega, h.1, h.2⟩)
  split at h
  · next hk =>
    simp only [Bool.and_eq_true, beq_iff_eq] at h
    exact Or.inr (Or.inr (Or.inl ⟨hk, h.1.1, h.1.2, h.2⟩))
  split at h
  · next hk =>
    simp only [Bool.and_eq_true, beq_iff_eq] at h
    exact Or.inr (Or.inl ⟨by omega, h.1.1, h.1.2⟩)
  split at h
  · next hk =>
    simp only [Bool.and_eq_true, beq_iff_eq] at h
    refine Or.inr (Or.inr (Or.inr (Or.inl ⟨hk, h.1.1, h.1.2, ?_⟩)))
    have := h.2
    unfold isAd at this
    simpa using this
  split at h
  · next hk =>
    simp only [Bool.and_eq_true, beq_iff_eq, decide_eq_true_eq] at h
    exact Or.inr (Or.inr (Or.inr (Or.inr ⟨hk, h.1.1, h.1.2, h.2⟩)))
  · cases h
theorem av_free (a : Ac) (h : okA' a = true) : (32 : UInt8) ∉ avT a := by
  unfold avT
  split
  · exact dig_free _
  split
  · exact com_free _
  split
  · next h9 =>
    unfold okA' at h
    rw [if_neg (by omega), if_neg (by omega), if_neg (by omega), if_neg (by omega), if_pos h9] at h
    simp only [Bool.and_eq_true] at h
    have := h.2
    unfold isAd at this
    exact adT_free _ (by simpa using this)
  split
  · exact tab_free ow_free _
  · next h3 h6 h9 h10 =>
    rcases okA_kinds h with ⟨hk, e1, _⟩ | ⟨hk, _⟩ | ⟨hk, _, _, e1⟩ | ⟨hk, _⟩ | ⟨hk, _⟩
    · rw [ByteArray.toList_eq] at e1
      rw [e1]; simp
    · omega
    · exact name_free e1
    · omega
    · omega
theorem wc_free (c : Cd) (h : okC c = true) : NoBl (wC c) := by
  unfold wC
  refine NoBl.app ?_ (NoBl.cons (tab_free cw_free _) (NoBl.cons (cv_free c h) NoBl.nil))
  split
  · exact NoBl.cons (by decide) NoBl.nil
  · exact NoBl.nil
theorem wa_free (a : Ac) (h : okA' a = true) : NoBl (wA a) := by
  unfold wA
  refine NoBl.cons (tab_free aw_free _) ?_
  split
  · exact NoBl.nil
  · exact NoBl.cons (av_free a h) NoBl.nil
theorem flat_free : ∀ (W : List (List (List UInt8))), (∀ x ∈ W, NoBl x) → NoBl (flatW W [])
  | [], _ => NoBl.nil
  | [a], h => by simp only [flatW, List.append_nil]; exact h a (by simp)
  | a :: b :: l, h => by
    simp only [flatW]
    exact NoBl.app (h a (by simp)) (NoBl.cons (by decide) (flat_free (b :: l) fun x hx => h x (by simp [hx])))
theorem wt_free (T : Tm) (h : okT T = true) : NoBl (wT T) := by
  have o := ok_term h
  unfold wT
  refine NoBl.app ?_ (NoBl.cons (by decide) (flat_free _ fun x hx => ?_))
  · split
    · exact NoBl.nil
    · refine NoBl.cons (by decide) (flat_free _ fun x hx => ?_)
      obtain ⟨c, hc, rfl⟩ := List.mem_map.1 hx
      exact wc_free c (o.2.2.2.1 c hc)
  · obtain ⟨a, ha, rfl⟩ := List.mem_map.1 hx
    exact wa_free a (o.2.2.2.2.1 a ha)
theorem wt_first (T : Tm) : ∃ x r, wT T = x :: r := by
  unfold wT
  split
  · exact ⟨_, _, rfl⟩
  · exact ⟨_, _, rfl⟩
theorem acs_ne {T : Tm} (h : okT T = true) : T.acs ≠ [] := fun e => by
  have o := (ok_term h).2.1
  rw [e] at o
  simp at o
/-- The words of a term's text; with a blank behind; with one ahead. -/
theorem spl_t (T : Tm) (h : okT T = true) : spl (tT T) = wT T := by
  obtain ⟨x, r, e⟩ := wt_first T
  have f := wt_free T h
  rw [e] at f ⊢
  refine spl_of _ x r ?_ (f x (by simp)) fun y hy => f y (by simp [hy])
  rw [← e, txt_t T (acs_ne h)]
end Go.Proofs.YthaebbmekonacaaGreatDoor
