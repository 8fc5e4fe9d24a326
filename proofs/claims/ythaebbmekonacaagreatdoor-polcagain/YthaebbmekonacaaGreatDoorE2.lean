/-
  Actions and terms that may be.
-/
import Derived.Test.YthaebbmekonacaaGreatDoorE1
import Derived.Test.YthaebbmekonacaaGreatDoorS1
set_option linter.unusedVariables false
set_option linter.unusedSimpArgs false
set_option maxRecDepth 100000
namespace Go.Proofs.YthaebbmekonacaaGreatDoor
open Go.RowKit
set_option maxHeartbeats 4000000 in
theorem mayAction_any (a : Ac) (w : World) (he : EnvT w) (hs : a.nm.size ≤ maxLen) (hd : a.ad.size ≤ maxLen) : Calls Tryz.prog 72 #[acV a] w fun e w' => e = .returned (.bool (okA' a)) ∧ Below w.heap.size w w' := by
  obtain ⟨k, nm, n, ad⟩ := a
  have HREF : Hid (okA' ⟨k, nm, n, ad⟩ = if k = 1 ∨ k = 2 ∨ k = 5 then (nm.toList == []) && ((n == 0) && (ad.toList == []))
  else if k = 3 ∨ k = 4 ∨ k = 6 then (nm.toList == []) && (ad.toList == [])
  else if k = 7 then ((n == 0) && (ad.toList == [])) && nameB nm
  else if k = 8 then ((nm.toList == []) && (ad.toList == [])) && (decide (1 ≤ n) && decide (n ≤ 8))
  else if k = 9 then ((nm.toList == []) && (n == 0)) && isAd ad
  else if k = 10 then ((nm.toList == []) && (ad.toList == [])) && decide (n ≤ 2)
  else false) := rfl
  have HB : Hid (Below _ _ _) := below_box w (.cells #[.int .i64 k, .string nm, .int .u32 (n : Int), .string ad] 40)
  have HN : Hid (∀ X, Below w.heap.size w X → Calls Tryz.prog 65 #[.string nm] X fun e w' => e = .returned (.bool (nameB nm)) ∧ Below X.heap.size X w') := fun X hX => pname_any nm X (he.t.below hX) hs
  have HD : Hid (∀ X, Below w.heap.size w X → Calls Tryz.prog 120 #[.string ad] X fun e w' => e = .returned (.bool (isAd ad)) ∧ Below X.heap.size X w') := fun X hX => isAddr_any ad X (he.below hX) hd
  clear hs hd he
  generalize okA' ⟨k, nm, n, ad⟩ = r at *
  generalize nameB nm = zn at *
  generalize isAd ad = za at *
  unfold acV
  dsimp only
  by_cases h0 : k = 1 ∨ k = 2 ∨ k = 5
  · rw [if_pos h0] at HREF
    rcases h0 with rfl | rfl | rfl
    · obtain ⟨z, hz⟩ : ∃ z, ((1 : Int) == 1 && (nm.toList == (⟨#[]⟩ : ByteArray).toList && (n == 0 && ad.toList == (⟨#[]⟩ : ByteArray).toList))) = z := ⟨_, rfl⟩
      have hq : ∀ W, (binOp .eql 40 (.agg #[.int .i64 1, .string nm, .int .u32 (n : Int), .string ad]) (.agg #[.int .i64 1, .string ⟨#[]⟩, .int .u32 0, .string ⟨#[]⟩])).run Tryz.prog W = .ok (.bool z) W := fun W => (eqlA 1 1 nm ⟨#[]⟩ n 0 ad ⟨#[]⟩ W).trans (by rw [hz])
      have HZ : Hid (((nm.toList == []) && ((n == 0) && (ad.toList == []))) = z) := by unfold Hid; rw [← hz]; simp [ByteArray.toList_eq]
      clear hz
      rw [HZ.out] at HREF
      go_enter Tryz.func72, Tryz.ntmps72
      go_wp2
      go_ret
      exact ⟨ret_bool (by first | exact HREF.out.symm | (rw [HREF.out]; first | rfl | simp)), HB.out⟩
    · obtain ⟨z, hz⟩ : ∃ z, ((2 : Int) == 2 && (nm.toList == (⟨#[]⟩ : ByteArray).toList && (n == 0 && ad.toList == (⟨#[]⟩ : ByteArray).toList))) = z := ⟨_, rfl⟩
      have hq : ∀ W, (binOp .eql 40 (.agg #[.int .i64 2, .string nm, .int .u32 (n : Int), .string ad]) (.agg #[.int .i64 2, .string ⟨#[]⟩, .int .u32 0, .string ⟨#[]⟩])).run Tryz.prog W = .ok (.bool z) W := fun W => (eqlA 2 2 nm ⟨#[]⟩ n 0 ad ⟨#[]⟩ W).trans (by rw [hz])
      have HZ : Hid (((nm.toList == []) && ((n == 0) && (ad.toList == []))) = z) := by unfold Hid; rw [← hz]; simp [ByteArray.toList_eq]
      clear hz
      rw [HZ.out] at HREF
      go_enter Tryz.func72, Tryz.ntmps72
      go_wp2
      go_ret
      exact ⟨ret_bool (by first | exact HREF.out.symm | (rw [HREF.out]; first | rfl | simp)), HB.out⟩
    · obtain ⟨z, hz⟩ : ∃ z, ((5 : Int) == 5 && (nm.toList == (⟨#[]⟩ : ByteArray).toList && (n == 0 && ad.toList == (⟨#[]⟩ : ByteArray).toList))) = z := ⟨_, rfl⟩
      have hq : ∀ W, (binOp .eql 40 (.agg #[.int .i64 5, .string nm, .int .u32 (n : Int), .string ad]) (.agg #[.int .i64 5, .string ⟨#[]⟩, .int .u32 0, .string ⟨#[]⟩])).run Tryz.prog W = .ok (.bool z) W := fun W => (eqlA 5 5 nm ⟨#[]⟩ n 0 ad ⟨#[]⟩ W).trans (by rw [hz])
      have HZ : Hid (((nm.toList == []) && ((n == 0) && (ad.toList == []))) = z) := by unfold Hid; rw [← hz]; simp [ByteArray.toList_eq]
      clear hz
      rw [HZ.out] at HREF
      go_enter Tryz.func72, Tryz.ntmps72
      go_wp2
      go_ret
      exact ⟨ret_bool (by first | exact HREF.out.symm | (rw [HREF.out]; first | rfl | simp)), HB.out⟩
  · rw [if_neg h0] at HREF
    have g1 : (k == 1) = false := beq_eq_false_iff_ne.2 (by omega)
    have g2 : (k == 2) = false := beq_eq_false_iff_ne.2 (by omega)
    have g5 : (k == 5) = false := beq_eq_false_iff_ne.2 (by omega)
    by_cases h1 : k = 3 ∨ k = 4 ∨ k = 6
    · rw [if_pos h1] at HREF
      clear g1 g2 g5 h0
      rcases h1 with rfl | rfl | rfl
      · obtain ⟨z, hz⟩ : ∃ z, ((3 : Int) == 3 && (nm.toList == (⟨#[]⟩ : ByteArray).toList && (n == n && ad.toList == (⟨#[]⟩ : ByteArray).toList))) = z := ⟨_, rfl⟩
        have hq : ∀ W, (binOp .eql 40 (.agg #[.int .i64 3, .string nm, .int .u32 (n : Int), .string ad]) (.agg #[.int .i64 3, .string ⟨#[]⟩, .int .u32 (n : Int), .string ⟨#[]⟩])).run Tryz.prog W = .ok (.bool z) W := fun W => (eqlA 3 3 nm ⟨#[]⟩ n n ad ⟨#[]⟩ W).trans (by rw [hz])
        have HZ : Hid (((nm.toList == []) && (ad.toList == [])) = z) := by unfold Hid; rw [← hz]; simp [ByteArray.toList_eq]
        clear hz
        rw [HZ.out] at HREF
        go_enter Tryz.func72, Tryz.ntmps72
        go_wp2
        go_ret
        exact ⟨ret_bool (by first | exact HREF.out.symm | (rw [HREF.out]; first | rfl | simp)), HB.out⟩
      · obtain ⟨z, hz⟩ : ∃ z, ((4 : Int) == 4 && (nm.toList == (⟨#[]⟩ : ByteArray).toList && (n == n && ad.toList == (⟨#[]⟩ : ByteArray).toList))) = z := ⟨_, rfl⟩
        have hq : ∀ W, (binOp .eql 40 (.agg #[.int .i64 4, .string nm, .int .u32 (n : Int), .string ad]) (.agg #[.int .i64 4, .string ⟨#[]⟩, .int .u32 (n : Int), .string ⟨#[]⟩])).run Tryz.prog W = .ok (.bool z) W := fun W => (eqlA 4 4 nm ⟨#[]⟩ n n ad ⟨#[]⟩ W).trans (by rw [hz])
        have HZ : Hid (((nm.toList == []) && (ad.toList == [])) = z) := by unfold Hid; rw [← hz]; simp [ByteArray.toList_eq]
        clear hz
        rw [HZ.out] at HREF
        go_enter Tryz.func72, Tryz.ntmps72
        go_wp2
        go_ret
        exact ⟨ret_bool (by first | exact HREF.out.symm | (rw [HREF.out]; first | rfl | simp)), HB.out⟩
      · obtain ⟨z, hz⟩ : ∃ z, ((6 : Int) == 6 && (nm.toList == (⟨#[]⟩ : ByteArray).toList && (n == n && ad.toList == (⟨#[]⟩ : ByteArray).toList))) = z := ⟨_, rfl⟩
        have hq : ∀ W, (binOp .eql 40 (.agg #[.int .i64 6, .string nm, .int .u32 (n : Int), .string ad]) (.agg #[.int .i64 6, .string ⟨#[]⟩, .int .u32 (n : Int), .string ⟨#[]⟩])).run Tryz.prog W = .ok (.bool z) W := fun W => (eqlA 6 6 nm ⟨#[]⟩ n n ad ⟨#[]⟩ W).trans (by rw [hz])
        have HZ : Hid (((nm.toList == []) && (ad.toList == [])) = z) := by unfold Hid; rw [← hz]; simp [ByteArray.toList_eq]
        clear hz
        rw [HZ.out] at HREF
        go_enter Tryz.func72, Tryz.ntmps72
        go_wp2
        go_ret
        exact ⟨ret_bool (by first | exact HREF.out.symm | (rw [HREF.out]; first | rfl | simp)), HB.out⟩
    · rw [if_neg h1] at HREF
      have g3 : (k == 3) = false := beq_eq_false_iff_ne.2 (by omega)
      have g4 : (k == 4) = false := beq_eq_false_iff_ne.2 (by omega)
      have g6 : (k == 6) = false := beq_eq_false_iff_ne.2 (by omega)
      by_cases h2 : k = 7
      · rw [if_pos h2] at HREF
        clear g1 g2 g5 g3 g4 g6 h0 h1
        rcases h2 with rfl
        · obtain ⟨z, hz⟩ : ∃ z, ((7 : Int) == 7 && (nm.toList == (nm : ByteArray).toList && (n == 0 && ad.toList == (⟨#[]⟩ : ByteArray).toList))) = z := ⟨_, rfl⟩
          have hq : ∀ W, (binOp .eql 40 (.agg #[.int .i64 7, .string nm, .int .u32 (n : Int), .string ad]) (.agg #[.int .i64 7, .string nm, .int .u32 0, .string ⟨#[]⟩])).run Tryz.prog W = .ok (.bool z) W := fun W => (eqlA 7 7 nm nm n 0 ad ⟨#[]⟩ W).trans (by rw [hz])
          have HZ : Hid (((n == 0) && (ad.toList == [])) = z) := by unfold Hid; rw [← hz]; simp [ByteArray.toList_eq]
          clear hz
          rw [HZ.out] at HREF
          cases z
          · skip
            go_enter Tryz.func72, Tryz.ntmps72
            go_wp2
            go_ret
            exact ⟨ret_bool (by first | exact HREF.out.symm | (rw [HREF.out]; first | rfl | simp)), HB.out⟩
          · skip
            go_enter Tryz.func72, Tryz.ntmps72
            go_wp2_with (go_at_call 65; refine Calls.mono (HN.out _ HB.out) ?_; rintro e w2 ⟨rfl, hb2⟩)
            go_ret
            exact ⟨ret_bool (by first | exact HREF.out.symm | (rw [HREF.out]; first | rfl | simp)), HB.out.trans (hb2.mono HB.out.size)⟩
      · rw [if_neg h2] at HREF
        have g7 : (k == 7) = false := beq_eq_false_iff_ne.2 (by omega)
        by_cases h3 : k = 8
        · rw [if_pos h3] at HREF
          clear g1 g2 g5 g3 g4 g6 g7 h0 h1 h2
          rcases h3 with rfl
          · obtain ⟨z, hz⟩ : ∃ z, ((8 : Int) == 8 && (nm.toList == (⟨#[]⟩ : ByteArray).toList && (n == n && ad.toList == (⟨#[]⟩ : ByteArray).toList))) = z := ⟨_, rfl⟩
            have hq : ∀ W, (binOp .eql 40 (.agg #[.int .i64 8, .string nm, .int .u32 (n : Int), .string ad]) (.agg #[.int .i64 8, .string ⟨#[]⟩, .int .u32 (n : Int), .string ⟨#[]⟩])).run Tryz.prog W = .ok (.bool z) W := fun W => (eqlA 8 8 nm ⟨#[]⟩ n n ad ⟨#[]⟩ W).trans (by rw [hz])
            have HZ : Hid (((nm.toList == []) && (ad.toList == [])) = z) := by unfold Hid; rw [← hz]; simp [ByteArray.toList_eq]
            clear hz
            rw [HZ.out] at HREF
            cases z
            · skip
              go_enter Tryz.func72, Tryz.ntmps72
              go_wp2
              go_ret
              exact ⟨ret_bool (by first | exact HREF.out.symm | (rw [HREF.out]; first | rfl | simp)), HB.out⟩
            · skip
              have e1 : ((1 : Int) ≤ (n : Int)) = (1 ≤ n) := propext (by omega)
              have e2 : ((n : Int) ≤ 8) = (n ≤ 8) := propext (by omega)
              by_cases hp : 1 ≤ n
              · have hp1 : (1 : Int) ≤ (n : Int) := by omega
                rw [decide_eq_true hp] at HREF
                clear hp
                go_enter Tryz.func72, Tryz.ntmps72
                go_wp2
                go_ret
                exact ⟨ret_bool (by first | exact HREF.out.symm | (rw [HREF.out]; first | rfl | simp)), HB.out⟩
              · have hp1 : ¬ (1 : Int) ≤ (n : Int) := by omega
                rw [decide_eq_false hp] at HREF
                clear hp
                go_enter Tryz.func72, Tryz.ntmps72
                go_wp2
                go_ret
                exact ⟨ret_bool (by first | exact HREF.out.symm | (rw [HREF.out]; first | rfl | simp)), HB.out⟩
        · rw [if_neg h3] at HREF
          have g8 : (k == 8) = false := beq_eq_false_iff_ne.2 (by omega)
          by_cases h4 : k = 9
          · rw [if_pos h4] at HREF
            clear g1 g2 g5 g3 g4 g6 g7 g8 h0 h1 h2 h3
            rcases h4 with rfl
            · obtain ⟨z, hz⟩ : ∃ z, ((9 : Int) == 9 && (nm.toList == (⟨#[]⟩ : ByteArray).toList && (n == 0 && ad.toList == (ad : ByteArray).toList))) = z := ⟨_, rfl⟩
              have hq : ∀ W, (binOp .eql 40 (.agg #[.int .i64 9, .string nm, .int .u32 (n : Int), .string ad]) (.agg #[.int .i64 9, .string ⟨#[]⟩, .int .u32 0, .string ad])).run Tryz.prog W = .ok (.bool z) W := fun W => (eqlA 9 9 nm ⟨#[]⟩ n 0 ad ad W).trans (by rw [hz])
              have HZ : Hid (((nm.toList == []) && (n == 0)) = z) := by unfold Hid; rw [← hz]; simp [ByteArray.toList_eq]
              clear hz
              rw [HZ.out] at HREF
              cases z
              · skip
                go_enter Tryz.func72, Tryz.ntmps72
                go_wp2
                go_ret
                exact ⟨ret_bool (by first | exact HREF.out.symm | (rw [HREF.out]; first | rfl | simp)), HB.out⟩
              · skip
                go_enter Tryz.func72, Tryz.ntmps72
                go_wp2_with (go_at_call 120; refine Calls.mono (HD.out _ HB.out) ?_; rintro e w2 ⟨rfl, hb2⟩)
                go_ret
                exact ⟨ret_bool (by first | exact HREF.out.symm | (rw [HREF.out]; first | rfl | simp)), HB.out.trans (hb2.mono HB.out.size)⟩
          · rw [if_neg h4] at HREF
            have g9 : (k == 9) = false := beq_eq_false_iff_ne.2 (by omega)
            by_cases h5 : k = 10
            · rw [if_pos h5] at HREF
              clear g1 g2 g5 g3 g4 g6 g7 g8 g9 h0 h1 h2 h3 h4
              rcases h5 with rfl
              · obtain ⟨z, hz⟩ : ∃ z, ((10 : Int) == 10 && (nm.toList == (⟨#[]⟩ : ByteArray).toList && (n == n && ad.toList == (⟨#[]⟩ : ByteArray).toList))) = z := ⟨_, rfl⟩
                have hq : ∀ W, (binOp .eql 40 (.agg #[.int .i64 10, .string nm, .int .u32 (n : Int), .string ad]) (.agg #[.int .i64 10, .string ⟨#[]⟩, .int .u32 (n : Int), .string ⟨#[]⟩])).run Tryz.prog W = .ok (.bool z) W := fun W => (eqlA 10 10 nm ⟨#[]⟩ n n ad ⟨#[]⟩ W).trans (by rw [hz])
                have HZ : Hid (((nm.toList == []) && (ad.toList == [])) = z) := by unfold Hid; rw [← hz]; simp [ByteArray.toList_eq]
                clear hz
                rw [HZ.out] at HREF
                cases z
                · skip
                  go_enter Tryz.func72, Tryz.ntmps72
                  go_wp2
                  go_ret
                  exact ⟨ret_bool (by first | exact HREF.out.symm | (rw [HREF.out]; first | rfl | simp)), HB.out⟩
                · skip
                  have e2 : ((n : Int) ≤ 2) = (n ≤ 2) := propext (by omega)
                  go_enter Tryz.func72, Tryz.ntmps72
                  go_wp2
                  go_ret
                  exact ⟨ret_bool (by first | exact HREF.out.symm | (rw [HREF.out]; first | rfl | simp)), HB.out⟩
            · rw [if_neg h5] at HREF
              have g10 : (k == 10) = false := beq_eq_false_iff_ne.2 (by omega)
              clear h0 h1 h2 h3 h4 h5
              go_enter Tryz.func72, Tryz.ntmps72
              go_wp2
              go_ret
              exact ⟨ret_bool (by first | exact HREF.out.symm | (rw [HREF.out]; first | rfl | simp)), HB.out⟩
end Go.Proofs.YthaebbmekonacaaGreatDoor
