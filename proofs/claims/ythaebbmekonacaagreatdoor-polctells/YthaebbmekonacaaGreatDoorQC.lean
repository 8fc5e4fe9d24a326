/-
  The reference's: conditions and actions that may be.
-/
import Derived.Test.YthaebbmekonacaaGreatDoorE2
set_option linter.unusedVariables false
set_option linter.unusedSimpArgs false
set_option maxRecDepth 100000
namespace Go.Proofs.YthaebbmekonacaaGreatDoor
open Go.RowKit
set_option maxHeartbeats 2000000 in
theorem rname16 (s : ByteArray) (w : World) (hs : s.size ≤ maxLen) : Calls Tryz.prog 67 #[.string s] w fun e w' => e = .returned (.bool (nameB s)) ∧ w' = w := by
  unfold maxLen at hs
  by_cases h0 : s.size < 1
  · have H : Hid (nameB s = false) := by unfold Hid nameB; simp; omega
    have h0' : (s.size : Int) < 1 := by omega
    generalize nameB s = r at *
    clear hs h0
    go_enter Tryz.func67, Tryz.ntmps67
    go_wp2
    go_ret
    exact ⟨ret_bool H.out.symm, rfl⟩
  · have hp : 0 < s.size := by omega
    have h0' : ¬ (s.size : Int) < 1 := by omega
    by_cases h16 : 16 < s.size
    · have H : Hid (nameB s = false) := by unfold Hid nameB; simp; omega
      have h16' : (16 : Int) < (s.size : Int) := by omega
      generalize nameB s = r at *
      go_enter Tryz.func67, Tryz.ntmps67
      go_wp2
      go_ret
      exact ⟨ret_bool H.out.symm, rfl⟩
    · have h16' : ¬ (16 : Int) < (s.size : Int) := by omega
      by_cases ha : 97 ≤ s[0].toNat
      · by_cases hz : s[0].toNat ≤ 122
        · have hl := let_yes ha hz
          have HN : Hid (nameB s = s.data.toList.all nameC) := by unfold Hid nameB; rw [head_let hp, hl]; simp; intro _ ; omega
          have ha' : ¬ ((s[0].toNat : Nat) : Int) < 97 := by omega
          have hz' : ¬ (122 : Int) < ((s[0].toNat : Nat) : Int) := by omega
          have hsz : (s.size : Int) ≤ 16 := by omega
          generalize nameB s = r at *
          clear ha hz hl h0
          go_enter Tryz.func67, Tryz.ntmps67
          go_wp2
          clear ha' hz'
          go_loop [3] (fun i => ∃ k : Nat, k ≤ s.size ∧ i = .int .i64 k ∧ (s.data.toList.take k).all nameC = true) (fun i => s.size - (intOf i).toNat)
          case atStart => exact ⟨0, Nat.zero_le _, rfl, by simp⟩
          case round =>
            obtain ⟨k, hk, rfl, hall⟩ := hrel
            have HA : Hid ((s.data.toList.take k).all nameC = true) := hall
            clear hall
            by_cases hlt : k < s.size
            · have hlt' : (k : Int) < (s.size : Int) := by omega
              have HY : Hid (nameC s[k] = true → (s.data.toList.take (k + 1)).all nameC = true) := fun h => by rw [all_snoc s k hlt, HA.out, h]; rfl
              have HX : Hid (nameC s[k] = false → r = false) := fun h => by rw [HN.out]; exact all_stop s k hlt h
              rcases name_cases s[k] with ⟨hn, q1, q2⟩ | ⟨hn, q1, q2, q3⟩ | ⟨hn, q1⟩ | ⟨hn, q1, q2, q3⟩ | ⟨hn, q1, q2, q3, q4⟩ | ⟨hn, q1, q2, q3, q4, q5⟩
              · have t1 : (97 : Int) ≤ (s[k].toNat : Int) := by omega
                have t2 : (s[k].toNat : Int) ≤ 122 := by omega
                have HZ : Hid (_ : Prop) := HY.out hn
                clear hn q1 q2
                go_wp2
                go_round
                case rel => exact ⟨k + 1, by omega, by go_num, HZ.out⟩
                case measure => simp [intOf]; omega
              · have t1 : ¬ (97 : Int) ≤ (s[k].toNat : Int) := by omega
                have t2 : (48 : Int) ≤ (s[k].toNat : Int) := by omega
                have t3 : (s[k].toNat : Int) ≤ 57 := by omega
                have HZ : Hid (_ : Prop) := HY.out hn
                clear hn q1 q2 q3
                go_wp2
                go_round
                case rel => exact ⟨k + 1, by omega, by go_num, HZ.out⟩
                case measure => simp [intOf]; omega
              · have t1 : (s[k].toNat : Int) = 45 := by omega
                have HZ : Hid (_ : Prop) := HY.out hn
                clear hn q1
                go_wp2
                go_round
                case rel => exact ⟨k + 1, by omega, by go_num, HZ.out⟩
                case measure => simp [intOf]; omega
              · have t1 : ¬ (97 : Int) ≤ (s[k].toNat : Int) := by omega
                have t2 : ¬ (48 : Int) ≤ (s[k].toNat : Int) := by omega
                have t3 : ¬ (s[k].toNat : Int) = 45 := by omega
                have HZ : Hid (_ : Prop) := HX.out hn
                have u1 : decide ((97 : Int) ≤ (s[k].toNat : Int)) = false := by simpa using t1
                have u2 : decide ((48 : Int) ≤ (s[k].toNat : Int)) = false := by simpa using t2
                have u3' : ((s[k].toNat : Int) == 45) = false := by simpa using t3
                clear hn q1 q2 q3
                go_wp2
                go_ret
                exact ⟨ret_bool HZ.out.symm, rfl⟩
              · have t1 : ¬ (97 : Int) ≤ (s[k].toNat : Int) := by omega
                have t2 : (48 : Int) ≤ (s[k].toNat : Int) := by omega
                have t3 : ¬ (s[k].toNat : Int) ≤ 57 := by omega
                have t4 : ¬ (s[k].toNat : Int) = 45 := by omega
                have HZ : Hid (_ : Prop) := HX.out hn
                have u1 : decide ((97 : Int) ≤ (s[k].toNat : Int)) = false := by simpa using t1
                have u2 : decide ((s[k].toNat : Int) ≤ 57) = false := by simpa using t3
                have u3' : ((s[k].toNat : Int) == 45) = false := by simpa using t4
                clear hn q1 q2 q3 q4
                go_wp2
                go_ret
                exact ⟨ret_bool HZ.out.symm, rfl⟩
              · have t1 : (97 : Int) ≤ (s[k].toNat : Int) := by omega
                have t2 : ¬ (s[k].toNat : Int) ≤ 122 := by omega
                have t3 : (48 : Int) ≤ (s[k].toNat : Int) := by omega
                have t4 : ¬ (s[k].toNat : Int) ≤ 57 := by omega
                have t5 : ¬ (s[k].toNat : Int) = 45 := by omega
                have HZ : Hid (_ : Prop) := HX.out hn
                have u1 : decide ((s[k].toNat : Int) ≤ 122) = false := by simpa using t2
                have u2 : decide ((s[k].toNat : Int) ≤ 57) = false := by simpa using t4
                have u3' : ((s[k].toNat : Int) == 45) = false := by simpa using t5
                clear hn q1 q2 q3 q4 q5
                go_wp2
                go_ret
                exact ⟨ret_bool HZ.out.symm, rfl⟩
            · have HX : Hid (r = true) := by unfold Hid; rw [HN.out]; have := HA.out; rwa [List.take_of_length_le (by simp; omega)] at this
              have hlt' : ¬ (k : Int) < (s.size : Int) := by omega
              go_wp2
              go_ret
              exact ⟨ret_bool HX.out.symm, rfl⟩
        · have H : Hid (nameB s = false) := by unfold Hid nameB; rw [head_let hp, let_no2 hz]; simp
          have ha' : ¬ ((s[0].toNat : Nat) : Int) < 97 := by omega
          have hz' : (122 : Int) < ((s[0].toNat : Nat) : Int) := by omega
          generalize nameB s = r at *
          go_enter Tryz.func67, Tryz.ntmps67
          go_wp2
          go_ret
          exact ⟨ret_bool H.out.symm, rfl⟩
      · have H : Hid (nameB s = false) := by unfold Hid nameB; rw [head_let hp, let_no1 ha]; simp
        have ha' : ((s[0].toNat : Nat) : Int) < 97 := by omega
        generalize nameB s = r at *
        go_enter Tryz.func67, Tryz.ntmps67
        go_wp2
        go_ret
        exact ⟨ret_bool H.out.symm, rfl⟩
theorem fam_sz (n : Int) : decide (0 < Pr.szOf n) = (decide (1 ≤ n) && decide (n ≤ 5)) := by
  unfold Pr.szOf
  by_cases h : n = 1 ∨ n = 3 ∨ n = 4
  · rw [if_pos h]; rcases h with rfl | rfl | rfl <;> rfl
  · rw [if_neg h]
    by_cases h2 : n = 2 ∨ n = 5
    · rw [if_pos h2]; rcases h2 with rfl | rfl <;> rfl
    · rw [if_neg h2]
      by_cases h3 : 1 ≤ n
      · have h4 : ¬ n ≤ 5 := by omega
        simp [h3, h4]
      · simp [h3]
set_option maxHeartbeats 4000000 in
theorem rcond_any (c : Cd) (w : World) (hs : c.nm.size ≤ maxLen) : Calls Tryz.prog 79 #[cdV c] w fun e w' => e = .returned (.bool (okC c)) ∧ Below w.heap.size w w' := by
  obtain ⟨k, nt, nm, n⟩ := c
  have HREF : Hid (okC ⟨k, nt, nm, n⟩ = if k = 1 ∨ k = 2 ∨ k = 3 ∨ k = 4 then nameB nm && (n == 0) else if k = 5 then (nm.toList == []) && (decide (0 ≤ n) && decide (n ≤ 2)) else if k = 6 then (nm.toList == []) && (decide (0 ≤ n) && decide (n ≤ 65535)) else if k = 7 then (nm.toList == []) && (decide (1 ≤ n) && decide (n ≤ 5)) else false) := by unfold Hid; rw [← fam_sz]; rfl
  have HB : Hid (∀ A B, Below w.heap.size w ((w.alloc (.cells A 37)).alloc (.cells B 37))) := fun A B => ((Below.refl _ _).alloc (Nat.le_refl _) _).alloc (by simp) _
  have HN : Hid (∀ X, Calls Tryz.prog 67 #[.string nm] X fun e w' => e = .returned (.bool (nameB nm)) ∧ w' = X) := fun X => rname16 nm X hs
  clear hs
  generalize okC ⟨k, nt, nm, n⟩ = r at *
  generalize nameB nm = zn at *
  unfold cdV
  dsimp only
  by_cases h0 : k = 1 ∨ k = 2 ∨ k = 3 ∨ k = 4
  · rw [if_pos h0] at HREF
    rcases h0 with rfl | rfl | rfl | rfl
    · obtain ⟨z, hz⟩ : ∃ z, ((1 : Int) == 1 && (nt == nt && (nm.toList == (nm : ByteArray).toList && n == 0))) = z := ⟨_, rfl⟩
      have hq : ∀ W, (binOp .eql 37 (.agg #[.int .i64 1, .bool nt, .string nm, .int .i64 n]) (.agg #[.int .i64 1, .bool nt, .string nm, .int .i64 0])).run Tryz.prog W = .ok (.bool z) W := fun W => (eqlC 1 1 nt nt nm nm n 0 W).trans (by rw [hz])
      have HZ : Hid ((n == 0) = z) := by unfold Hid; rw [← hz]; simp [ByteArray.toList_eq]
      clear hz
      rw [HZ.out] at HREF
      cases zn
      · skip
        go_enter Tryz.func79, Tryz.ntmps79
        go_wp2_with (go_at_call 67; refine Calls.mono (HN.out _) ?_; rintro e w2 ⟨rfl, rfl⟩)
        go_ret
        exact ⟨ret_bool (by first | exact HREF.out.symm | (rw [HREF.out]; first | rfl | simp)), HB.out _ _⟩
      · skip
        go_enter Tryz.func79, Tryz.ntmps79
        go_wp2_with (go_at_call 67; refine Calls.mono (HN.out _) ?_; rintro e w2 ⟨rfl, rfl⟩)
        go_ret
        exact ⟨ret_bool (by first | exact HREF.out.symm | (rw [HREF.out]; first | rfl | simp)), HB.out _ _⟩
    · obtain ⟨z, hz⟩ : ∃ z, ((2 : Int) == 2 && (nt == nt && (nm.toList == (nm : ByteArray).toList && n == 0))) = z := ⟨_, rfl⟩
      have hq : ∀ W, (binOp .eql 37 (.agg #[.int .i64 2, .bool nt, .string nm, .int .i64 n]) (.agg #[.int .i64 2, .bool nt, .string nm, .int .i64 0])).run Tryz.prog W = .ok (.bool z) W := fun W => (eqlC 2 2 nt nt nm nm n 0 W).trans (by rw [hz])
      have HZ : Hid ((n == 0) = z) := by unfold Hid; rw [← hz]; simp [ByteArray.toList_eq]
      clear hz
      rw [HZ.out] at HREF
      cases zn
      · skip
        go_enter Tryz.func79, Tryz.ntmps79
        go_wp2_with (go_at_call 67; refine Calls.mono (HN.out _) ?_; rintro e w2 ⟨rfl, rfl⟩)
        go_ret
        exact ⟨ret_bool (by first | exact HREF.out.symm | (rw [HREF.out]; first | rfl | simp)), HB.out _ _⟩
      · skip
        go_enter Tryz.func79, Tryz.ntmps79
        go_wp2_with (go_at_call 67; refine Calls.mono (HN.out _) ?_; rintro e w2 ⟨rfl, rfl⟩)
        go_ret
        exact ⟨ret_bool (by first | exact HREF.out.symm | (rw [HREF.out]; first | rfl | simp)), HB.out _ _⟩
    · obtain ⟨z, hz⟩ : ∃ z, ((3 : Int) == 3 && (nt == nt && (nm.toList == (nm : ByteArray).toList && n == 0))) = z := ⟨_, rfl⟩
      have hq : ∀ W, (binOp .eql 37 (.agg #[.int .i64 3, .bool nt, .string nm, .int .i64 n]) (.agg #[.int .i64 3, .bool nt, .string nm, .int .i64 0])).run Tryz.prog W = .ok (.bool z) W := fun W => (eqlC 3 3 nt nt nm nm n 0 W).trans (by rw [hz])
      have HZ : Hid ((n == 0) = z) := by unfold Hid; rw [← hz]; simp [ByteArray.toList_eq]
      clear hz
      rw [HZ.out] at HREF
      cases zn
      · skip
        go_enter Tryz.func79, Tryz.ntmps79
        go_wp2_with (go_at_call 67; refine Calls.mono (HN.out _) ?_; rintro e w2 ⟨rfl, rfl⟩)
        go_ret
        exact ⟨ret_bool (by first | exact HREF.out.symm | (rw [HREF.out]; first | rfl | simp)), HB.out _ _⟩
      · skip
        go_enter Tryz.func79, Tryz.ntmps79
        go_wp2_with (go_at_call 67; refine Calls.mono (HN.out _) ?_; rintro e w2 ⟨rfl, rfl⟩)
        go_ret
        exact ⟨ret_bool (by first | exact HREF.out.symm | (rw [HREF.out]; first | rfl | simp)), HB.out _ _⟩
    · obtain ⟨z, hz⟩ : ∃ z, ((4 : Int) == 4 && (nt == nt && (nm.toList == (nm : ByteArray).toList && n == 0))) = z := ⟨_, rfl⟩
      have hq : ∀ W, (binOp .eql 37 (.agg #[.int .i64 4, .bool nt, .string nm, .int .i64 n]) (.agg #[.int .i64 4, .bool nt, .string nm, .int .i64 0])).run Tryz.prog W = .ok (.bool z) W := fun W => (eqlC 4 4 nt nt nm nm n 0 W).trans (by rw [hz])
      have HZ : Hid ((n == 0) = z) := by unfold Hid; rw [← hz]; simp [ByteArray.toList_eq]
      clear hz
      rw [HZ.out] at HREF
      cases zn
      · skip
        go_enter Tryz.func79, Tryz.ntmps79
        go_wp2_with (go_at_call 67; refine Calls.mono (HN.out _) ?_; rintro e w2 ⟨rfl, rfl⟩)
        go_ret
        exact ⟨ret_bool (by first | exact HREF.out.symm | (rw [HREF.out]; first | rfl | simp)), HB.out _ _⟩
      · skip
        go_enter Tryz.func79, Tryz.ntmps79
        go_wp2_with (go_at_call 67; refine Calls.mono (HN.out _) ?_; rintro e w2 ⟨rfl, rfl⟩)
        go_ret
        exact ⟨ret_bool (by first | exact HREF.out.symm | (rw [HREF.out]; first | rfl | simp)), HB.out _ _⟩
  · rw [if_neg h0] at HREF
    have g1 : (k == 1) = false := beq_eq_false_iff_ne.2 (by omega)
    have g2 : (k == 2) = false := beq_eq_false_iff_ne.2 (by omega)
    have g3 : (k == 3) = false := beq_eq_false_iff_ne.2 (by omega)
    have g4 : (k == 4) = false := beq_eq_false_iff_ne.2 (by omega)
    by_cases h5 : k = 5
    · subst h5
      rw [if_pos rfl] at HREF
      clear g1 g2 g3 g4
      obtain ⟨z, hz⟩ : ∃ z, ((5 : Int) == 5 && (nt == nt && (nm.toList == (⟨#[]⟩ : ByteArray).toList && n == n))) = z := ⟨_, rfl⟩
      have hq : ∀ W, (binOp .eql 37 (.agg #[.int .i64 5, .bool nt, .string nm, .int .i64 n]) (.agg #[.int .i64 5, .bool nt, .string ⟨#[]⟩, .int .i64 n])).run Tryz.prog W = .ok (.bool z) W := fun W => (eqlC 5 5 nt nt nm ⟨#[]⟩ n n W).trans (by rw [hz])
      have HZ : Hid ((nm.toList == []) = z) := by unfold Hid; rw [← hz]; simp [ByteArray.toList_eq]
      clear hz
      rw [HZ.out] at HREF
      by_cases hp : 0 ≤ n
      · rw [decide_eq_true hp] at HREF
        by_cases hp2 : n ≤ 2
        · rw [decide_eq_true hp2] at HREF
          go_enter Tryz.func79, Tryz.ntmps79
          go_wp2
          go_ret
          exact ⟨ret_bool (by first | exact HREF.out.symm | (rw [HREF.out]; first | rfl | simp)), HB.out _ _⟩
        · rw [decide_eq_false hp2] at HREF
          go_enter Tryz.func79, Tryz.ntmps79
          go_wp2
          go_ret
          exact ⟨ret_bool (by first | exact HREF.out.symm | (rw [HREF.out]; first | rfl | simp)), HB.out _ _⟩
      · rw [decide_eq_false hp] at HREF
        go_enter Tryz.func79, Tryz.ntmps79
        go_wp2
        go_ret
        exact ⟨ret_bool (by first | exact HREF.out.symm | (rw [HREF.out]; first | rfl | simp)), HB.out _ _⟩
    · rw [if_neg h5] at HREF
      have g5 : (k == 5) = false := beq_eq_false_iff_ne.2 (by omega)
      by_cases h6 : k = 6
      · subst h6
        rw [if_pos rfl] at HREF
        clear g1 g2 g3 g4 g5
        obtain ⟨z, hz⟩ : ∃ z, ((6 : Int) == 6 && (nt == nt && (nm.toList == (⟨#[]⟩ : ByteArray).toList && n == n))) = z := ⟨_, rfl⟩
        have hq : ∀ W, (binOp .eql 37 (.agg #[.int .i64 6, .bool nt, .string nm, .int .i64 n]) (.agg #[.int .i64 6, .bool nt, .string ⟨#[]⟩, .int .i64 n])).run Tryz.prog W = .ok (.bool z) W := fun W => (eqlC 6 6 nt nt nm ⟨#[]⟩ n n W).trans (by rw [hz])
        have HZ : Hid ((nm.toList == []) = z) := by unfold Hid; rw [← hz]; simp [ByteArray.toList_eq]
        clear hz
        rw [HZ.out] at HREF
        by_cases hp : 0 ≤ n
        · rw [decide_eq_true hp] at HREF
          by_cases hp2 : n ≤ 65535
          · rw [decide_eq_true hp2] at HREF
            go_enter Tryz.func79, Tryz.ntmps79
            go_wp2
            go_ret
            exact ⟨ret_bool (by first | exact HREF.out.symm | (rw [HREF.out]; first | rfl | simp)), HB.out _ _⟩
          · rw [decide_eq_false hp2] at HREF
            go_enter Tryz.func79, Tryz.ntmps79
            go_wp2
            go_ret
            exact ⟨ret_bool (by first | exact HREF.out.symm | (rw [HREF.out]; first | rfl | simp)), HB.out _ _⟩
        · rw [decide_eq_false hp] at HREF
          go_enter Tryz.func79, Tryz.ntmps79
          go_wp2
          go_ret
          exact ⟨ret_bool (by first | exact HREF.out.symm | (rw [HREF.out]; first | rfl | simp)), HB.out _ _⟩
      · rw [if_neg h6] at HREF
        have g6 : (k == 6) = false := beq_eq_false_iff_ne.2 (by omega)
        by_cases h7 : k = 7
        · subst h7
          rw [if_pos rfl] at HREF
          clear g1 g2 g3 g4 g5 g6
          obtain ⟨z, hz⟩ : ∃ z, ((7 : Int) == 7 && (nt == nt && (nm.toList == (⟨#[]⟩ : ByteArray).toList && n == n))) = z := ⟨_, rfl⟩
          have hq : ∀ W, (binOp .eql 37 (.agg #[.int .i64 7, .bool nt, .string nm, .int .i64 n]) (.agg #[.int .i64 7, .bool nt, .string ⟨#[]⟩, .int .i64 n])).run Tryz.prog W = .ok (.bool z) W := fun W => (eqlC 7 7 nt nt nm ⟨#[]⟩ n n W).trans (by rw [hz])
          have HZ : Hid ((nm.toList == []) = z) := by unfold Hid; rw [← hz]; simp [ByteArray.toList_eq]
          clear hz
          rw [HZ.out] at HREF
          by_cases hp : 1 ≤ n
          · rw [decide_eq_true hp] at HREF
            by_cases hp2 : n ≤ 5
            · rw [decide_eq_true hp2] at HREF
              go_enter Tryz.func79, Tryz.ntmps79
              go_wp2
              go_ret
              exact ⟨ret_bool (by first | exact HREF.out.symm | (rw [HREF.out]; first | rfl | simp)), HB.out _ _⟩
            · rw [decide_eq_false hp2] at HREF
              go_enter Tryz.func79, Tryz.ntmps79
              go_wp2
              go_ret
              exact ⟨ret_bool (by first | exact HREF.out.symm | (rw [HREF.out]; first | rfl | simp)), HB.out _ _⟩
          · rw [decide_eq_false hp] at HREF
            go_enter Tryz.func79, Tryz.ntmps79
            go_wp2
            go_ret
            exact ⟨ret_bool (by first | exact HREF.out.symm | (rw [HREF.out]; first | rfl | simp)), HB.out _ _⟩
        · rw [if_neg h7] at HREF
          have g7 : (k == 7) = false := beq_eq_false_iff_ne.2 (by omega)
          clear h0 h5 h6 h7
          go_enter Tryz.func79, Tryz.ntmps79
          go_wp2
          go_ret
          exact ⟨ret_bool (by first | exact HREF.out.symm | (rw [HREF.out]; first | rfl | simp)), HB.out _ _⟩
end Go.Proofs.YthaebbmekonacaaGreatDoor
