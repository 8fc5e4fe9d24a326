/-
  Conditions and actions that may be.
-/
import Derived.Test.YthaebbmekonacaaGreatDoorD1
import Derived.Test.YthaebbmekonacaaGreatDoorWA
import Derived.Test.YthaebbmekonacaaGreatDoorSV
import Derived.Laws.BitsAllLaws
set_option linter.unusedVariables false
set_option linter.unusedSimpArgs false
set_option maxRecDepth 100000
namespace Go.Proofs.YthaebbmekonacaaGreatDoor
open Go.RowKit
theorem empty_set (w : World) (s : ByteArray) : SetAt w ⟨s, 2, [], [], []⟩ (.slice none 0 0) (.slice none 0 0) (.slice none 0 0) :=
  ⟨⟨none, 0, 0, 0, rfl, Or.inr rfl, Nat.le_refl _, fun j h => by simp at h⟩, ⟨none, 0, 0, 0, rfl, Or.inr rfl, Nat.le_refl _, fun j h => by simp at h⟩, ⟨none, 0, 0, 0, rfl, Or.inr rfl, Nat.le_refl _, fun j h => by simp at h⟩⟩
theorem pname_any (s : ByteArray) (w : World) (ht : Pr.Tabs w) (hs : s.size ≤ maxLen) : Calls Tryz.prog 65 #[.string s] w fun e w' => e = .returned (.bool (nameB s)) ∧ Below w.heap.size w w' := by
  have HK : Hid (Calls Tryz.prog 64 #[.agg #[.string s, .int .i64 2, .slice none 0 0, .slice none 0 0, .slice none 0 0]] w _) := checkS_any ⟨s, 2, [], [], []⟩ (.slice none 0 0) (.slice none 0 0) (.slice none 0 0) w ht (empty_set w s) ⟨hs, by simp, by simp, by simp, by simp, by simp⟩
  have hc : chS ⟨s, 2, [], [], []⟩ = if nameB s then 0 else 2 := by
    unfold chS okS
    rw [show holdB ⟨s, 2, [], [], []⟩ = true by rfl, Bool.and_true]
  rw [hc] at HK
  clear hc hs ht
  generalize nameB s = z at *
  cases z
  · go_enter Tryz.func65, Tryz.ntmps65
    go_wp2_with (go_at_call 64; refine Calls.mono HK.out ?_; rintro e w2 ⟨rfl, hb2⟩)
    go_ret
    exact ⟨rfl, hb2⟩
  · go_enter Tryz.func65, Tryz.ntmps65
    go_wp2_with (go_at_call 64; refine Calls.mono HK.out ?_; rintro e w2 ⟨rfl, hb2⟩)
    go_ret
    exact ⟨rfl, hb2⟩
theorem isAddr_any (s : ByteArray) (w : World) (he : EnvT w) (hs : s.size ≤ maxLen) : Calls Tryz.prog 120 #[.string s] w fun e w' => e = .returned (.bool (isAd s)) ∧ Below w.heap.size w w' := by
  have HK : Hid (Calls Tryz.prog 126 #[.string s] w _) := addrText_any s w he hs
  unfold adE at HK
  clear he hs
  generalize adT s = tx at *
  generalize isAd s = z at *
  cases z
  · go_enter Tryz.func120, Tryz.ntmps120
    go_wp2_with (go_at_call 126; refine Calls.mono HK.out ?_; rintro e w2 ⟨rfl, hb2⟩)
    go_ret
    exact ⟨rfl, hb2⟩
  · go_enter Tryz.func120, Tryz.ntmps120
    go_wp2_with (go_at_call 126; refine Calls.mono HK.out ?_; rintro e w2 ⟨rfl, hb2⟩)
    go_ret
    exact ⟨rfl, hb2⟩
/-- May a condition be? -/
def okC (c : Cd) : Bool :=
  if c.k = 1 ∨ c.k = 2 ∨ c.k = 3 ∨ c.k = 4 then nameB c.nm && (c.n == 0)
  else if c.k = 5 then (c.nm.toList == []) && (decide (0 ≤ c.n) && decide (c.n ≤ 2))
  else if c.k = 6 then (c.nm.toList == []) && (decide (0 ≤ c.n) && decide (c.n ≤ 65535))
  else if c.k = 7 then (c.nm.toList == []) && decide (0 < Pr.szOf c.n)
  else false
/-- May an action be? -/
def okA' (a : Ac) : Bool :=
  if a.k = 1 ∨ a.k = 2 ∨ a.k = 5 then (a.nm.toList == []) && ((a.n == 0) && (a.ad.toList == []))
  else if a.k = 3 ∨ a.k = 4 ∨ a.k = 6 then (a.nm.toList == []) && (a.ad.toList == [])
  else if a.k = 7 then ((a.n == 0) && (a.ad.toList == [])) && nameB a.nm
  else if a.k = 8 then ((a.nm.toList == []) && (a.ad.toList == [])) && (decide (1 ≤ a.n) && decide (a.n ≤ 8))
  else if a.k = 9 then ((a.nm.toList == []) && (a.n == 0)) && isAd a.ad
  else if a.k = 10 then ((a.nm.toList == []) && (a.ad.toList == [])) && decide (a.n ≤ 2)
  else false
set_option maxHeartbeats 2000000 in
theorem mayCond_any (c : Cd) (w : World) (ht : Pr.Tabs w) (hs : c.nm.size ≤ maxLen) : Calls Tryz.prog 70 #[cdV c] w fun e w' => e = .returned (.bool (okC c)) ∧ Below w.heap.size w w' := by
  obtain ⟨k, nt, nm, n⟩ := c
  have HREF : Hid (okC ⟨k, nt, nm, n⟩ = if k = 1 ∨ k = 2 ∨ k = 3 ∨ k = 4 then nameB nm && (n == 0) else if k = 5 then (nm.toList == []) && (decide (0 ≤ n) && decide (n ≤ 2)) else if k = 6 then (nm.toList == []) && (decide (0 ≤ n) && decide (n ≤ 65535)) else if k = 7 then (nm.toList == []) && decide (0 < Pr.szOf n) else false) := rfl
  have HB : Hid (Below _ _ _) := below_box w (.cells #[.int .i64 k, .bool nt, .string nm, .int .i64 n] 37)
  have HN : Hid (∀ X, Below w.heap.size w X → Calls Tryz.prog 65 #[.string nm] X fun e w' => e = .returned (.bool (nameB nm)) ∧ Below X.heap.size X w') := fun X hX => pname_any nm X (ht.below hX) hs
  have HS : Hid (∀ X, Below w.heap.size w X → Calls Tryz.prog 117 #[.int .i64 n] X fun e w' => e = .returned (.int .i64 (Pr.szOf n)) ∧ w' = X) := fun X hX => Pr.size_any n X (ht.below hX).sizes
  clear hs ht
  generalize okC ⟨k, nt, nm, n⟩ = r at *
  unfold cdV
  dsimp only
  by_cases h1 : k = 1 ∨ k = 2 ∨ k = 3 ∨ k = 4
  · rw [if_pos h1] at HREF
    generalize nameB nm = z at *
    rcases h1 with rfl | rfl | rfl | rfl
    all_goals
      cases z
      · go_enter Tryz.func70, Tryz.ntmps70
        go_wp2_with (go_at_call 65; refine Calls.mono (HN.out _ HB.out) ?_; rintro e w2 ⟨rfl, hb2⟩)
        go_ret
        exact ⟨ret_bool HREF.out.symm, HB.out.trans (hb2.mono HB.out.size)⟩
      · have HC : Hid (∀ (a : Int) w2, Below (w.alloc (.cells #[.int .i64 a, .bool nt, .string nm, .int .i64 n] 37)).heap.size (w.alloc (.cells #[.int .i64 a, .bool nt, .string nm, .int .i64 n] 37)) w2 → w2.cell? ⟨w.heap.size, 3, none⟩ = some (.int .i64 n)) := fun a w2 hb => below_cell hb (by rw [World.cell?_alloc_new]; rfl)
        go_enter Tryz.func70, Tryz.ntmps70
        go_wp2_with (go_at_call 65; refine Calls.mono (HN.out _ HB.out) ?_; rintro e w2 ⟨rfl, hb2⟩; have c3 := HC.out _ w2 hb2)
        go_ret
        exact ⟨ret_bool HREF.out.symm, HB.out.trans (hb2.mono HB.out.size)⟩
  · rw [if_neg h1] at HREF
    have g1 : (k == 1) = false := beq_eq_false_iff_ne.2 (by omega)
    have g2 : (k == 2) = false := beq_eq_false_iff_ne.2 (by omega)
    have g3 : (k == 3) = false := beq_eq_false_iff_ne.2 (by omega)
    have g4 : (k == 4) = false := beq_eq_false_iff_ne.2 (by omega)
    by_cases h5 : k = 5
    · subst h5
      clear g1 g2 g3 g4 h1
      rw [if_pos rfl] at HREF
      cases hz : (nm.toList == ([] : List UInt8))
      · rw [hz] at HREF
        go_enter Tryz.func70, Tryz.ntmps70
        go_wp2
        go_ret
        exact ⟨ret_bool HREF.out.symm, HB.out⟩
      · rw [hz] at HREF
        by_cases h0 : 0 ≤ n
        · rw [decide_eq_true h0] at HREF
          go_enter Tryz.func70, Tryz.ntmps70
          go_wp2
          go_ret
          exact ⟨ret_bool HREF.out.symm, HB.out⟩
        · rw [decide_eq_false h0] at HREF
          go_enter Tryz.func70, Tryz.ntmps70
          go_wp2
          go_ret
          exact ⟨ret_bool HREF.out.symm, HB.out⟩
    · rw [if_neg h5] at HREF
      have g5 : (k == 5) = false := beq_eq_false_iff_ne.2 (by omega)
      by_cases h6 : k = 6
      · subst h6
        clear g1 g2 g3 g4 g5 h1
        rw [if_pos rfl] at HREF
        cases hz : (nm.toList == ([] : List UInt8))
        · rw [hz] at HREF
          go_enter Tryz.func70, Tryz.ntmps70
          go_wp2
          go_ret
          exact ⟨ret_bool HREF.out.symm, HB.out⟩
        · rw [hz] at HREF
          by_cases h0 : 0 ≤ n
          · rw [decide_eq_true h0] at HREF
            go_enter Tryz.func70, Tryz.ntmps70
            go_wp2
            go_ret
            exact ⟨ret_bool HREF.out.symm, HB.out⟩
          · rw [decide_eq_false h0] at HREF
            go_enter Tryz.func70, Tryz.ntmps70
            go_wp2
            go_ret
            exact ⟨ret_bool HREF.out.symm, HB.out⟩
      · rw [if_neg h6] at HREF
        have g6 : (k == 6) = false := beq_eq_false_iff_ne.2 (by omega)
        by_cases h7 : k = 7
        · subst h7
          clear g1 g2 g3 g4 g5 g6 h1
          rw [if_pos rfl] at HREF
          cases hz : (nm.toList == ([] : List UInt8))
          · rw [hz] at HREF
            go_enter Tryz.func70, Tryz.ntmps70
            go_wp2
            go_ret
            exact ⟨ret_bool HREF.out.symm, HB.out⟩
          · rw [hz] at HREF
            generalize Pr.szOf n = q at *
            go_enter Tryz.func70, Tryz.ntmps70
            go_wp2_with (go_at_call 117; refine Calls.mono (HS.out _ HB.out) ?_; rintro e w2 ⟨rfl, rfl⟩)
            go_ret
            exact ⟨ret_bool HREF.out.symm, HB.out⟩
        · rw [if_neg h7] at HREF
          have g7 : (k == 7) = false := beq_eq_false_iff_ne.2 (by omega)
          clear h1 h5 h6 h7
          go_enter Tryz.func70, Tryz.ntmps70
          go_wp2
          go_ret
          exact ⟨ret_bool HREF.out.symm, HB.out⟩
end Go.Proofs.YthaebbmekonacaaGreatDoor

set_option linter.unusedVariables false
set_option linter.unusedSimpArgs false
set_option maxRecDepth 100000
namespace Go.Proofs.YthaebbmekonacaaGreatDoor
open Go.RowKit
set_option maxHeartbeats 4000000 in
theorem mayAction_any (a : Ac) (w : World) (he : EnvT w) (hs : a.nm.size ≤ maxLen) (hd : a.ad.size ≤ maxLen) : Calls Tryz.prog 72 #[acV a] w fun e w' => e = .returned (.bool (okA' a)) ∧ Below w.heap.size w w' := by
  obtain ⟨k, nm, n, ad⟩ := a
  have HREF : Hid (okA' ⟨k, nm, n, ad⟩ = if k = 1 ∨ k = 2 ∨ k = 5 then (nm.toList == []) && ((n == 0) && (ad.toList == []))
  else if k = 3 ∨ k = 4 ∨ k = 6 then (nm.toList == []) && (ad.toList == [])
  else if k = 7 then ((n == 0) && (ad.toList == [])) && nameB nm
  else if k = 8 then ((nm.toList == []) && (ad.toList == [])) && (decide (1 ≤ n) && decide (n ≤ 8))
  else if k = 9 then ((nm.toList == []) && (n == 0)) && isAd ad
  else if k = 10 then ((nm.toList == []) && (ad.toList == [])) && decide (n ≤ 2)
  else false) := rfl
  have HB : Hid (Below _ _ _) := below_box w (.cells #[.int .i64 k, .string nm, .int .u32 (n : Int), .string ad] 40)
  have HN : Hid (∀ X, Below w.heap.size w X → Calls Tryz.prog 65 #[.string nm] X fun e w' => e = .returned (.bool (nameB nm)) ∧ Below X.heap.size X w') := fun X hX => pname_any nm X (he.t.below hX) hs
  have HD : Hid (∀ X, Below w.heap.size w X → Calls Tryz.prog 120 #[.string ad] X fun e w' => e = .returned (.bool (isAd ad)) ∧ Below X.heap.size X w') := fun X hX => isAddr_any ad X (he.below hX) hd
  clear hs hd he
  generalize okA' ⟨k, nm, n, ad⟩ = r at *
  generalize nameB nm = zn at *
  generalize isAd ad = za at *
  unfold acV
  dsimp only
  by_cases h0 : k = 1 ∨ k = 2 ∨ k = 5
  · rw [if_pos h0] at HREF
    rcases h0 with rfl | rfl | rfl
    · obtain ⟨z, hz⟩ : ∃ z, ((1 : Int) == 1 && (nm.toList == (⟨#[]⟩ : ByteArray).toList && (n == 0 && ad.toList == (⟨#[]⟩ : ByteArray).toList))) = z := ⟨_, rfl⟩
      have hq : ∀ W, (binOp .eql 40 (.agg #[.int .i64 1, .string nm, .int .u32 (n : Int), .string ad]) (.agg #[.int .i64 1, .string ⟨#[]⟩, .int .u32 0, .string ⟨#[]⟩])).run Tryz.prog W = .ok (.bool z) W := fun W => (eqlA 1 1 nm ⟨#[]⟩ n 0 ad ⟨#[]⟩ W).trans (by rw [hz])
      have HZ : Hid (((nm.toList == []) && ((n == 0) && (ad.toList == []))) = z) := by unfold Hid; rw [← hz]; simp [ByteArray.toList_eq]
      clear hz
      rw [HZ.out] at HREF
      go_enter Tryz.func72, Tryz.ntmps72
      go_wp2
      go_ret
      exact ⟨ret_bool (by first | exact HREF.out.symm | (rw [HREF.out]; first | rfl | simp)), HB.out⟩
    · obtain ⟨z, hz⟩ : ∃ z, ((2 : Int) == 2 && (nm.toList == (⟨#[]⟩ : ByteArray).toList && (n == 0 && ad.toList == (⟨#[]⟩ : ByteArray).toList))) = z := ⟨_, rfl⟩
      have hq : ∀ W, (binOp .eql 40 (.agg #[.int .i64 2, .string nm, .int .u32 (n : Int), .string ad]) (.agg #[.int .i64 2, .string ⟨#[]⟩, .int .u32 0, .string ⟨#[]⟩])).run Tryz.prog W = .ok (.bool z) W := fun W => (eqlA 2 2 nm ⟨#[]⟩ n 0 ad ⟨#[]⟩ W).trans (by rw [hz])
      have HZ : Hid (((nm.toList == []) && ((n == 0) && (ad.toList == []))) = z) := by unfold Hid; rw [← hz]; simp [ByteArray.toList_eq]
      clear hz
      rw [HZ.out] at HREF
      go_enter Tryz.func72, Tryz.ntmps72
      go_wp2
      go_ret
      exact ⟨ret_bool (by first | exact HREF.out.symm | (rw [HREF.out]; first | rfl | simp)), HB.out⟩
    · obtain ⟨z, hz⟩ : ∃ z, ((5 : Int) == 5 && (nm.toList == (⟨#[]⟩ : ByteArray).toList && (n == 0 && ad.toList == (⟨#[]⟩ : ByteArray).toList))) = z := ⟨_, rfl⟩
      have hq : ∀ W, (binOp .eql 40 (.agg #[.int .i64 5, .string nm, .int .u32 (n : Int), .string ad]) (.agg #[.int .i64 5, .string ⟨#[]⟩, .int .u32 0, .string ⟨#[]⟩])).run Tryz.prog W = .ok (.bool z) W := fun W => (eqlA 5 5 nm ⟨#[]⟩ n 0 ad ⟨#[]⟩ W).trans (by rw [hz])
      have HZ : Hid (((nm.toList == []) && ((n == 0) && (ad.toList == []))) = z) := by unfold Hid; rw [← hz]; simp [ByteArray.toList_eq]
      clear hz
      rw [HZ.out] at HREF
      go_enter Tryz.func72, Tryz.ntmps72
      go_wp2
      go_ret
      exact ⟨ret_bool (by first | exact HREF.out.symm | (rw [HREF.out]; first | rfl | simp)), HB.out⟩
  · rw [if_neg h0] at HREF
    have g1 : (k == 1) = false := beq_eq_false_iff_ne.2 (by omega)
    have g2 : (k == 2) = false := beq_eq_false_iff_ne.2 (by omega)
    have g5 : (k == 5) = false := beq_eq_false_iff_ne.2 (by omega)
    by_cases h1 : k = 3 ∨ k = 4 ∨ k = 6
    · rw [if_pos h1] at HREF
      clear g1 g2 g5 h0
      rcases h1 with rfl | rfl | rfl
      · obtain ⟨z, hz⟩ : ∃ z, ((3 : Int) == 3 && (nm.toList == (⟨#[]⟩ : ByteArray).toList && (n == n && ad.toList == (⟨#[]⟩ : ByteArray).toList))) = z := ⟨_, rfl⟩
        have hq : ∀ W, (binOp .eql 40 (.agg #[.int .i64 3, .string nm, .int .u32 (n : Int), .string ad]) (.agg #[.int .i64 3, .string ⟨#[]⟩, .int .u32 (n : Int), .string ⟨#[]⟩])).run Tryz.prog W = .ok (.bool z) W := fun W => (eqlA 3 3 nm ⟨#[]⟩ n n ad ⟨#[]⟩ W).trans (by rw [hz])
        have HZ : Hid (((nm.toList == []) && (ad.toList == [])) = z) := by unfold Hid; rw [← hz]; simp [ByteArray.toList_eq]
        clear hz
        rw [HZ.out] at HREF
        go_enter Tryz.func72, Tryz.ntmps72
        go_wp2
        go_ret
        exact ⟨ret_bool (by first | exact HREF.out.symm | (rw [HREF.out]; first | rfl | simp)), HB.out⟩
      · obtain ⟨z, hz⟩ : ∃ z, ((4 : Int) == 4 && (nm.toList == (⟨#[]⟩ : ByteArray).toList && (n == n && ad.toList == (⟨#[]⟩ : ByteArray).toList))) = z := ⟨_, rfl⟩
        have hq : ∀ W, (binOp .eql 40 (.agg #[.int .i64 4, .string nm, .int .u32 (n : Int), .string ad]) (.agg #[.int .i64 4, .string ⟨#[]⟩, .int .u32 (n : Int), .string ⟨#[]⟩])).run Tryz.prog W = .ok (.bool z) W := fun W => (eqlA 4 4 nm ⟨#[]⟩ n n ad ⟨#[]⟩ W).trans (by rw [hz])
        have HZ : Hid (((nm.toList == []) && (ad.toList == [])) = z) := by unfold Hid; rw [← hz]; simp [ByteArray.toList_eq]
        clear hz
        rw [HZ.out] at HREF
        go_enter Tryz.func72, Tryz.ntmps72
        go_wp2
        go_ret
        exact ⟨ret_bool (by first | exact HREF.out.symm | (rw [HREF.out]; first | rfl | simp)), HB.out⟩
      · obtain ⟨z, hz⟩ : ∃ z, ((6 : Int) == 6 && (nm.toList == (⟨#[]⟩ : ByteArray).toList && (n == n && ad.toList == (⟨#[]⟩ : ByteArray).toList))) = z := ⟨_, rfl⟩
        have hq : ∀ W, (binOp .eql 40 (.agg #[.int .i64 6, .string nm, .int .u32 (n : Int), .string ad]) (.agg #[.int .i64 6, .string ⟨#[]⟩, .int .u32 (n : Int), .string ⟨#[]⟩])).run Tryz.prog W = .ok (.bool z) W := fun W => (eqlA 6 6 nm ⟨#[]⟩ n n ad ⟨#[]⟩ W).trans (by rw [hz])
        have HZ : Hid (((nm.toList == []) && (ad.toList == [])) = z) := by unfold Hid; rw [← hz]; simp [ByteArray.toList_eq]
        clear hz
        rw [HZ.out] at HREF
        go_enter Tryz.func72, Tryz.ntmps72
        go_wp2
        go_ret
        exact ⟨ret_bool (by first | exact HREF.out.symm | (rw [HREF.out]; first | rfl | simp)), HB.out⟩
    · rw [if_neg h1] at HREF
      have g3 : (k == 3) = false := beq_eq_false_iff_ne.2 (by omega)
      have g4 : (k == 4) = false := beq_eq_false_iff_ne.2 (by omega)
      have g6 : (k == 6) = false := beq_eq_false_iff_ne.2 (by omega)
      by_cases h2 : k = 7
      · rw [if_pos h2] at HREF
        clear g1 g2 g5 g3 g4 g6 h0 h1
        rcases h2 with rfl
        · obtain ⟨z, hz⟩ : ∃ z, ((7 : Int) == 7 && (nm.toList == (nm : ByteArray).toList && (n == 0 && ad.toList == (⟨#[]⟩ : ByteArray).toList))) = z := ⟨_, rfl⟩
          have hq : ∀ W, (binOp .eql 40 (.agg #[.int .i64 7, .string nm, .int .u32 (n : Int), .string ad]) (.agg #[.int .i64 7, .string nm, .int .u32 0, .string ⟨#[]⟩])).run Tryz.prog W = .ok (.bool z) W := fun W => (eqlA 7 7 nm nm n 0 ad ⟨#[]⟩ W).trans (by rw [hz])
          have HZ : Hid (((n == 0) && (ad.toList == [])) = z) := by unfold Hid; rw [← hz]; simp [ByteArray.toList_eq]
          clear hz
          rw [HZ.out] at HREF
          cases z
          · skip
            go_enter Tryz.func72, Tryz.ntmps72
            go_wp2
            go_ret
            exact ⟨ret_bool (by first | exact HREF.out.symm | (rw [HREF.out]; first | rfl | simp)), HB.out⟩
          · skip
            go_enter Tryz.func72, Tryz.ntmps72
            go_wp2_with (go_at_call 65; refine Calls.mono (HN.out _ HB.out) ?_; rintro e w2 ⟨rfl, hb2⟩)
            go_ret
            exact ⟨ret_bool (by first | exact HREF.out.symm | (rw [HREF.out]; first | rfl | simp)), HB.out.trans (hb2.mono HB.out.size)⟩
      · rw [if_neg h2] at HREF
        have g7 : (k == 7) = false := beq_eq_false_iff_ne.2 (by omega)
        by_cases h3 : k = 8
        · rw [if_pos h3] at HREF
          clear g1 g2 g5 g3 g4 g6 g7 h0 h1 h2
          rcases h3 with rfl
          · obtain ⟨z, hz⟩ : ∃ z, ((8 : Int) == 8 && (nm.toList == (⟨#[]⟩ : ByteArray).toList && (n == n && ad.toList == (⟨#[]⟩ : ByteArray).toList))) = z := ⟨_, rfl⟩
            have hq : ∀ W, (binOp .eql 40 (.agg #[.int .i64 8, .string nm, .int .u32 (n : Int), .string ad]) (.agg #[.int .i64 8, .string ⟨#[]⟩, .int .u32 (n : Int), .string ⟨#[]⟩])).run Tryz.prog W = .ok (.bool z) W := fun W => (eqlA 8 8 nm ⟨#[]⟩ n n ad ⟨#[]⟩ W).trans (by rw [hz])
            have HZ : Hid (((nm.toList == []) && (ad.toList == [])) = z) := by unfold Hid; rw [← hz]; simp [ByteArray.toList_eq]
            clear hz
            rw [HZ.out] at HREF
            cases z
            · skip
              go_enter Tryz.func72, Tryz.ntmps72
              go_wp2
              go_ret
              exact ⟨ret_bool (by first | exact HREF.out.symm | (rw [HREF.out]; first | rfl | simp)), HB.out⟩
            · skip
              have e1 : ((1 : Int) ≤ (n : Int)) = (1 ≤ n) := propext (by omega)
              have e2 : ((n : Int) ≤ 8) = (n ≤ 8) := propext (by omega)
              by_cases hp : 1 ≤ n
              · have hp1 : (1 : Int) ≤ (n : Int) := by omega
                rw [decide_eq_true hp] at HREF
                clear hp
                go_enter Tryz.func72, Tryz.ntmps72
                go_wp2
                go_ret
                exact ⟨ret_bool (by first | exact HREF.out.symm | (rw [HREF.out]; first | rfl | simp)), HB.out⟩
              · have hp1 : ¬ (1 : Int) ≤ (n : Int) := by omega
                rw [decide_eq_false hp] at HREF
                clear hp
                go_enter Tryz.func72, Tryz.ntmps72
                go_wp2
                go_ret
                exact ⟨ret_bool (by first | exact HREF.out.symm | (rw [HREF.out]; first | rfl | simp)), HB.out⟩
        · rw [if_neg h3] at HREF
          have g8 : (k == 8) = false := beq_eq_false_iff_ne.2 (by omega)
          by_cases h4 : k = 9
          · rw [if_pos h4] at HREF
            clear g1 g2 g5 g3 g4 g6 g7 g8 h0 h1 h2 h3
            rcases h4 with rfl
            · obtain ⟨z, hz⟩ : ∃ z, ((9 : Int) == 9 && (nm.toList == (⟨#[]⟩ : ByteArray).toList && (n == 0 && ad.toList == (ad : ByteArray).toList))) = z := ⟨_, rfl⟩
              have hq : ∀ W, (binOp .eql 40 (.agg #[.int .i64 9, .string nm, .int .u32 (n : Int), .string ad]) (.agg #[.int .i64 9, .string ⟨#[]⟩, .int .u32 0, .string ad])).run Tryz.prog W = .ok (.bool z) W := fun W => (eqlA 9 9 nm ⟨#[]⟩ n 0 ad ad W).trans (by rw [hz])
              have HZ : Hid (((nm.toList == []) && (n == 0)) = z) := by unfold Hid; rw [← hz]; simp [ByteArray.toList_eq]
              clear hz
              rw [HZ.out] at HREF
              cases z
              · skip
                go_enter Tryz.func72, Tryz.ntmps72
                go_wp2
                go_ret
                exact ⟨ret_bool (by first | exact HREF.out.symm | (rw [HREF.out]; first | rfl | simp)), HB.out⟩
              · skip
                go_enter Tryz.func72, Tryz.ntmps72
                go_wp2_with (go_at_call 120; refine Calls.mono (HD.out _ HB.out) ?_; rintro e w2 ⟨rfl, hb2⟩)
                go_ret
                exact ⟨ret_bool (by first | exact HREF.out.symm | (rw [HREF.out]; first | rfl | simp)), HB.out.trans (hb2.mono HB.out.size)⟩
          · rw [if_neg h4] at HREF
            have g9 : (k == 9) = false := beq_eq_false_iff_ne.2 (by omega)
            by_cases h5 : k = 10
            · rw [if_pos h5] at HREF
              clear g1 g2 g5 g3 g4 g6 g7 g8 g9 h0 h1 h2 h3 h4
              rcases h5 with rfl
              · obtain ⟨z, hz⟩ : ∃ z, ((10 : Int) == 10 && (nm.toList == (⟨#[]⟩ : ByteArray).toList && (n == n && ad.toList == (⟨#[]⟩ : ByteArray).toList))) = z := ⟨_, rfl⟩
                have hq : ∀ W, (binOp .eql 40 (.agg #[.int .i64 10, .string nm, .int .u32 (n : Int), .string ad]) (.agg #[.int .i64 10, .string ⟨#[]⟩, .int .u32 (n : Int), .string ⟨#[]⟩])).run Tryz.prog W = .ok (.bool z) W := fun W => (eqlA 10 10 nm ⟨#[]⟩ n n ad ⟨#[]⟩ W).trans (by rw [hz])
                have HZ : Hid (((nm.toList == []) && (ad.toList == [])) = z) := by unfold Hid; rw [← hz]; simp [ByteArray.toList_eq]
                clear hz
                rw [HZ.out] at HREF
                cases z
                · skip
                  go_enter Tryz.func72, Tryz.ntmps72
                  go_wp2
                  go_ret
                  exact ⟨ret_bool (by first | exact HREF.out.symm | (rw [HREF.out]; first | rfl | simp)), HB.out⟩
                · skip
                  have e2 : ((n : Int) ≤ 2) = (n ≤ 2) := propext (by omega)
                  go_enter Tryz.func72, Tryz.ntmps72
                  go_wp2
                  go_ret
                  exact ⟨ret_bool (by first | exact HREF.out.symm | (rw [HREF.out]; first | rfl | simp)), HB.out⟩
            · rw [if_neg h5] at HREF
              have g10 : (k == 10) = false := beq_eq_false_iff_ne.2 (by omega)
              clear h0 h1 h2 h3 h4 h5
              go_enter Tryz.func72, Tryz.ntmps72
              go_wp2
              go_ret
              exact ⟨ret_bool (by first | exact HREF.out.symm | (rw [HREF.out]; first | rfl | simp)), HB.out⟩
end Go.Proofs.YthaebbmekonacaaGreatDoor

set_option linter.unusedVariables false
set_option linter.unusedSimpArgs false
set_option maxRecDepth 100000
namespace Go.Proofs.YthaebbmekonacaaGreatDoor
open Go.RowKit
def goB (a : Ac) : Bool := !(a.k == 1) && !(a.k == 2)
theorem goesOn_any (a : Ac) (w : World) : Calls Tryz.prog 73 #[acV a] w fun e w' => e = .returned (.bool (goB a)) ∧ Below w.heap.size w w' := by
  obtain ⟨k, nm, n, ad⟩ := a
  have HREF : Hid (goB ⟨k, nm, n, ad⟩ = (!(k == 1) && !(k == 2))) := rfl
  have HB : Hid (Below _ _ _) := below_box w (.cells #[.int .i64 k, .string nm, .int .u32 (n : Int), .string ad] 40)
  generalize goB ⟨k, nm, n, ad⟩ = r at *
  unfold acV
  dsimp only
  by_cases h1 : k = 1
  · subst h1
    go_enter Tryz.func73, Tryz.ntmps73
    go_wp2
    go_ret
    exact ⟨ret_bool (by rw [HREF.out]; rfl), HB.out⟩
  · have g1 : (k == 1) = false := beq_eq_false_iff_ne.2 h1
    have g1' : (k != 1) = true := by simp [h1]
    rw [g1] at HREF
    by_cases h2 : k = 2
    · subst h2
      clear h1 g1 g1'
      go_enter Tryz.func73, Tryz.ntmps73
      go_wp2
      go_ret
      exact ⟨ret_bool (by rw [HREF.out]; rfl), HB.out⟩
    · have g2 : (k == 2) = false := beq_eq_false_iff_ne.2 h2
      have g2' : (k != 2) = true := by simp [h2]
      rw [g2] at HREF
      clear h1 h2
      go_enter Tryz.func73, Tryz.ntmps73
      go_wp2
      go_ret
      exact ⟨ret_bool (by rw [HREF.out]; rfl), HB.out⟩
/-- May a term be? -/
def okT (T : Tm) : Bool := decide (T.cs.length ≤ 64 ∧ 1 ≤ T.acs.length ∧ T.acs.length ≤ 64) && (T.cs.all okC && (T.acs.all okA' && T.acs.dropLast.all goB))
/-- What comes in is no longer than any machine's memory. -/
structure SmT (T : Tm) : Prop where
  c : ∀ c ∈ T.cs, c.nm.size ≤ maxLen
  a : ∀ a ∈ T.acs, a.nm.size ≤ maxLen ∧ a.ad.size ≤ maxLen
  lc : T.cs.length ≤ 1152921504606846976
  la : T.acs.length ≤ 1152921504606846976
theorem AcAt.less {w : World} {ad : Option Addr} {cap m : Nat} {L : List Ac} (h : AcAt w (.slice ad L.length cap) L) (hm : L.length = m + 1) : AcAt w (.slice ad m cap) L.dropLast := by
  obtain ⟨ad', b, off, cap', e, h1, h2, h3⟩ := h
  injection e with e1 e2 e3
  subst e1; subst e3
  have hl : L.dropLast.length = m := by rw [List.length_dropLast]; omega
  refine ⟨ad, b, off, cap, by rw [hl], Or.inl (by rcases h1 with h | h; exact h; omega), by omega, fun j hj => ?_⟩
  have hj' : j < L.length := by omega
  have := h3 j hj'
  rw [List.getElem_dropLast]
  exact this
set_option maxHeartbeats 2000000 in
theorem mayTerm_any (v : Value) (T : Tm) (w : World) (he : EnvT w) (hv : TmAt w v T) (hs : SmT T) : Calls Tryz.prog 40 #[v] w fun e w' => e = .returned (.bool (okT T)) ∧ Below w.heap.size w w' := by
  obtain ⟨vc, va, rfl, hc, ha⟩ := hv
  obtain ⟨cs, acs⟩ := T
  dsimp only at hc ha
  obtain ⟨adc, capc, rfl⟩ := hc.len
  obtain ⟨ada, capa, rfl⟩ := ha.len
  have HREF : Hid (okT ⟨cs, acs⟩ = (decide (cs.length ≤ 64 ∧ 1 ≤ acs.length ∧ acs.length ≤ 64) && (cs.all okC && (acs.all okA' && acs.dropLast.all goB)))) := rfl
  have HB : Hid (Below _ _ _) := below_box w (.cells #[.slice adc cs.length capc, .slice ada acs.length capa] 63)
  generalize okT ⟨cs, acs⟩ = r at *
  have l1 := hs.lc
  have l2 := hs.la
  dsimp only at l1 l2
  by_cases h : cs.length ≤ 64 ∧ 1 ≤ acs.length ∧ acs.length ≤ 64
  · rw [decide_eq_true h, Bool.true_and] at HREF
    have HA : Hid (∀ X, Below w.heap.size w X → Calls Tryz.prog 69 #[.slice adc cs.length capc, .func (.func 70) #[] #[]] X fun e w' => e = .returned (.bool (cs.all okC)) ∧ Below X.heap.size X w') := fun X hX => allCd _ cs okC X (hc.below hX) (by omega) fun k hk y Y hY hy => by subst hy; exact mayCond_any _ Y (he.t.below (hX.trans (hY.mono hX.size))) (hs.c _ (List.getElem_mem hk))
    have HC : Hid (∀ X, Below w.heap.size w X → Calls Tryz.prog 71 #[.slice ada acs.length capa, .func (.func 72) #[] #[]] X fun e w' => e = .returned (.bool (acs.all okA')) ∧ Below X.heap.size X w') := fun X hX => allAc _ acs okA' X (ha.below hX) (by omega) fun k hk y Y hY hy => by subst hy; exact mayAction_any _ Y (he.below (hX.trans (hY.mono hX.size))) (hs.a _ (List.getElem_mem hk)).1 (hs.a _ (List.getElem_mem hk)).2
    obtain ⟨m, hm⟩ : ∃ m, acs.length = m + 1 := ⟨acs.length - 1, by omega⟩
    have HG : Hid (∀ X, Below w.heap.size w X → Calls Tryz.prog 71 #[.slice ada m capa, .func (.func 73) #[] #[]] X fun e w' => e = .returned (.bool (acs.dropLast.all goB)) ∧ Below X.heap.size X w') := fun X hX => allGo _ acs.dropLast goB X ((ha.less hm).below hX) (by rw [List.length_dropLast]; omega) fun k hk y Y hY hy => by subst hy; exact goesOn_any _ Y
    have hcap : m + 1 ≤ capa := by obtain ⟨_, _, _, _, e, _, h3, _⟩ := ha; injection e with _ _ e; omega
    rw [hm] at HC HB l2 h ⊢
    clear ha hc hs he hm
    generalize cs.all okC = z1 at *
    generalize acs.all okA' = z2 at *
    generalize acs.dropLast.all goB = z3 at *
    generalize cs.length = n at *
    have HX : Hid (∀ X, Below (w.alloc (.cells #[.slice adc n capc, .slice ada (m + 1) capa] 63)).heap.size (w.alloc (.cells #[.slice adc n capc, .slice ada (m + 1) capa] 63)) X → X.cell? ⟨w.heap.size, 1, none⟩ = some (.slice ada (m + 1) capa)) := fun X hX => below_cell hX (by rw [World.cell?_alloc_new]; rfl)
    have q1 : ¬ (64 : Int) < (n : Int) := by omega
    have q2 : (m : Int) < 64 := by omega
    have q3 : (0 : Int) ≤ (m : Int) := by omega
    have q4 : (m : Int) ≤ (capa : Int) := by omega
    cases z1
    · go_enter Tryz.func40, Tryz.ntmps40
      go_wp2_with (go_at_call 69; refine Calls.mono (HA.out _ HB.out) ?_; rintro e w2 ⟨rfl, hb2⟩)
      go_ret
      exact ⟨ret_bool HREF.out.symm, HB.out.trans (hb2.mono HB.out.size)⟩
    · cases z2
      · go_enter Tryz.func40, Tryz.ntmps40
        go_wp2_with (go_at_call 69; refine Calls.mono (HA.out _ HB.out) ?_; rintro e w2 ⟨rfl, hb2⟩; have c1 := HX.out w2 hb2; have HB2 : Hid (Below w.heap.size w w2) := HB.out.trans (hb2.mono HB.out.size))
        refine Calls.mono (HC.out _ HB2.out) ?_
        rintro e w3 ⟨rfl, hb3⟩
        go_wp2
        go_ret
        exact ⟨ret_bool HREF.out.symm, HB2.out.trans (hb3.mono HB2.out.size)⟩
      · go_enter Tryz.func40, Tryz.ntmps40
        go_wp2_with (go_at_call 69; refine Calls.mono (HA.out _ HB.out) ?_; rintro e w2 ⟨rfl, hb2⟩; have c1 := HX.out w2 hb2; have HB2 : Hid (Below w.heap.size w w2) := HB.out.trans (hb2.mono HB.out.size))
        refine Calls.mono (HC.out _ HB2.out) ?_
        rintro e w3 ⟨rfl, hb3⟩
        have c2 := below_cell hb3 c1
        have HB3 : Hid (Below w.heap.size w w3) := HB2.out.trans (hb3.mono HB2.out.size)
        clear c1 hb3
        go_wp2_with fail
        refine Calls.mono (HG.out _ HB3.out) ?_
        rintro e w4 ⟨rfl, hb4⟩
        go_wp2
        go_ret
        exact ⟨ret_bool HREF.out.symm, HB3.out.trans (hb4.mono HB3.out.size)⟩
  · rw [decide_eq_false h, Bool.false_and] at HREF
    clear hc ha he hs
    generalize cs.length = n at *
    generalize acs.length = m at *
    by_cases g1 : (64 : Int) < (n : Int)
    · go_enter Tryz.func40, Tryz.ntmps40
      go_wp2
      go_ret
      exact ⟨ret_bool HREF.out.symm, HB.out⟩
    · by_cases g2 : m = 0
      · subst g2
        go_enter Tryz.func40, Tryz.ntmps40
        go_wp2
        go_ret
        exact ⟨ret_bool HREF.out.symm, HB.out⟩
      · obtain ⟨k, rfl⟩ : ∃ k, m = k + 1 := ⟨m - 1, by omega⟩
        have g3 : (64 : Int) ≤ (k : Int) := by omega
        clear h g2
        go_enter Tryz.func40, Tryz.ntmps40
        go_wp2
        go_ret
        exact ⟨ret_bool HREF.out.symm, HB.out⟩
end Go.Proofs.YthaebbmekonacaaGreatDoor

set_option linter.unusedVariables false
set_option linter.unusedSimpArgs false
set_option maxRecDepth 100000
namespace Go.Proofs.YthaebbmekonacaaGreatDoor
open Go.RowKit
def comCells : Array Value := #[.int .u32 4294967041, .string ⟨#[110, 111, 45, 101, 120, 112, 111, 114, 116]⟩, .int .u32 4294967042, .string ⟨#[110, 111, 45, 97, 100, 118, 101, 114, 116, 105, 115, 101]⟩, .int .u32 4294967043, .string ⟨#[110, 111, 45, 101, 120, 112, 111, 114, 116, 45, 115, 117, 98, 99, 111, 110, 102, 101, 100]⟩]
def ComAt (w : World) : Prop := ∃ t fr, w.heap[2]? = some (.cells comCells t fr)
theorem ComAt.below {w w' : World} (h : ComAt w) (hb : Below w.heap.size w w') : ComAt w' := by
  obtain ⟨t, fr, h⟩ := h
  exact ⟨t, fr, (hb.block 2 (Array.getElem?_eq_some_iff.mp h).1).trans h⟩
/-- A community's text. -/
def comT (c : Nat) : List UInt8 := if c = 4294967041 then [110, 111, 45, 101, 120, 112, 111, 114, 116] else if c = 4294967042 then [110, 111, 45, 97, 100, 118, 101, 114, 116, 105, 115, 101] else if c = 4294967043 then [110, 111, 45, 101, 120, 112, 111, 114, 116, 45, 115, 117, 98, 99, 111, 110, 102, 101, 100] else Lib.decDigits (c / 65536) ++ ([58] ++ Lib.decDigits (c % 65536))
theorem info217 : (Tryz.prog.info? 217).map (·.size) = some comCells.size := by kernel_rfl
theorem cx0 (w : World) : (Instr.index 217 (.agg comCells) (.int .i64 0)).run Tryz.prog w = .ok (.agg #[.int .u32 4294967041, .string ⟨#[110, 111, 45, 101, 120, 112, 111, 114, 116]⟩]) w := by kernel_rfl
theorem cx1 (w : World) : (Instr.index 217 (.agg comCells) (.int .i64 1)).run Tryz.prog w = .ok (.agg #[.int .u32 4294967042, .string ⟨#[110, 111, 45, 97, 100, 118, 101, 114, 116, 105, 115, 101]⟩]) w := by kernel_rfl
theorem cx2 (w : World) : (Instr.index 217 (.agg comCells) (.int .i64 2)).run Tryz.prog w = .ok (.agg #[.int .u32 4294967043, .string ⟨#[110, 111, 45, 101, 120, 112, 111, 114, 116, 45, 115, 117, 98, 99, 111, 110, 102, 101, 100]⟩]) w := by kernel_rfl
theorem half_any (v : Nat) (hv : v < 65536) (w : World) (hp : PowAt w) : Calls Tryz.prog 160 #[.int .u32 (v : Int)] w fun e w' => e = .returned (.string ⟨(Lib.decDigits v).toArray⟩) ∧ Below w.heap.size w w' := by
  have hw : IntKind.u64.wrap (v : Int) = v := by rw [IntKind.wrap_u64]; omega
  go_enter Tryz.func160, Tryz.ntmps160
  go_wp2_with fail
  refine (fmt_any v (by omega) w hp).mono ?_
  rintro e w1 ⟨rfl, hb⟩
  go_wp2
  go_ret
  exact ⟨rfl, hb⟩
theorem ret_str {a b : ByteArray} (h : a = b) : Ending.returned (.string a) = .returned (.string b) := by rw [h]
theorem str_app (a b : List UInt8) : (⟨a.toArray⟩ : ByteArray) ++ ⟨b.toArray⟩ = ⟨(a ++ b).toArray⟩ := by
  apply ByteArray.ext; simp
theorem add_l (a b : List UInt8) (h : a.length + b.length ≤ 1000000) (W : World) : (Op.stringOp .add (⟨a.toArray⟩ : ByteArray) ⟨b.toArray⟩).run Tryz.prog W = .ok (.string ⟨(a ++ b).toArray⟩) W := by
  rw [run_string_add_sum W _ _ (by rw [show (ByteArray.mk a.toArray).size = a.length from List.size_toArray .., show (ByteArray.mk b.toArray).size = b.length from List.size_toArray ..]; omega), str_app]
theorem and16 (c : Nat) (h : c < 4294967296) : bits .and .u32 (c : Int) 65535 = ((c % 65536 : Nat) : Int) := by
  have := u32_and_nat c 65535 h (by decide)
  rw [show (c &&& 65535 : Nat) = c % 65536 from Nat.and_two_pow_sub_one_eq_mod c 16] at this
  exact this
set_option maxHeartbeats 2000000 in
theorem comText_any (c : Nat) (w : World) (hc : c < 4294967296) (ht : ComAt w) (hp : PowAt w) : Calls Tryz.prog 125 #[.int .u32 (c : Int)] w fun e w' => e = .returned (.string ⟨(comT c).toArray⟩) ∧ Below w.heap.size w w' := by
  obtain ⟨t, fr, h0⟩ := ht
  have H0 : Hid (w.heap[2]? = some (.cells comCells t fr)) := h0
  have HP : Hid (PowAt w) := hp
  have hc0 := cx0
  have hc1 := cx1
  have hc2 := cx2
  clear h0 hp
  have HB1 : Hid (∀ A, Below w.heap.size w (w.alloc (.cells A 216))) := fun A => (Below.refl _ _).alloc (Nat.le_refl _) _
  have HB2 : Hid (∀ A B, Below w.heap.size w ((w.alloc (.cells A 216)).alloc (.cells B 216))) := fun A B => ((Below.refl _ _).alloc (Nat.le_refl _) _).alloc (by simp) _
  have HB3 : Hid (∀ A B C, Below w.heap.size w (((w.alloc (.cells A 216)).alloc (.cells B 216)).alloc (.cells C 216))) := fun A B C => (((Below.refl _ _).alloc (Nat.le_refl _) _).alloc (by simp) _).alloc (by simp; omega) _
  by_cases h0 : c = 4294967041
  · have HT : Hid (comT c = [110, 111, 45, 101, 120, 112, 111, 114, 116]) := by unfold Hid comT; simp [h0]
    have q0 : ((4294967041 : Int) == (c : Int)) = true := by simp; omega
    generalize comT c = tx at *
    clear h0
    go_enter Tryz.func125, Tryz.ntmps125
    go_wp2_with (refine wpList_load_row rfl 217 _ rfl 2 rfl t _ fr _ H0.out Tryz.underlying217 rfl info217 ?_)
    refine wp_loop_rounds 1 ?_
    rw [rounds_succ]
    go_wp2_with fail
    go_ret
    exact ⟨by rw [HT.out]; rfl, HB1.out _⟩
  · skip
    by_cases h1 : c = 4294967042
    · have HT : Hid (comT c = [110, 111, 45, 97, 100, 118, 101, 114, 116, 105, 115, 101]) := by unfold Hid comT; simp [h1]
      have q0 : ((4294967041 : Int) == (c : Int)) = false := by simp; omega
      have q1 : ((4294967042 : Int) == (c : Int)) = true := by simp; omega
      generalize comT c = tx at *
      clear h1
      go_enter Tryz.func125, Tryz.ntmps125
      go_wp2_with (refine wpList_load_row rfl 217 _ rfl 2 rfl t _ fr _ H0.out Tryz.underlying217 rfl info217 ?_)
      refine wp_loop_rounds 2 ?_
      rw [rounds_succ]
      go_wp2_with fail
      rw [rounds_succ]
      go_wp2_with fail
      go_ret
      exact ⟨by rw [HT.out]; rfl, HB2.out _ _⟩
    · skip
      by_cases h2 : c = 4294967043
      · have HT : Hid (comT c = [110, 111, 45, 101, 120, 112, 111, 114, 116, 45, 115, 117, 98, 99, 111, 110, 102, 101, 100]) := by unfold Hid comT; simp [h2]
        have q0 : ((4294967041 : Int) == (c : Int)) = false := by simp; omega
        have q1 : ((4294967042 : Int) == (c : Int)) = false := by simp; omega
        have q2 : ((4294967043 : Int) == (c : Int)) = true := by simp; omega
        generalize comT c = tx at *
        clear h2
        go_enter Tryz.func125, Tryz.ntmps125
        go_wp2_with (refine wpList_load_row rfl 217 _ rfl 2 rfl t _ fr _ H0.out Tryz.underlying217 rfl info217 ?_)
        refine wp_loop_rounds 3 ?_
        rw [rounds_succ]
        go_wp2_with fail
        rw [rounds_succ]
        go_wp2_with fail
        rw [rounds_succ]
        go_wp2_with fail
        go_ret
        exact ⟨by rw [HT.out]; rfl, HB3.out _ _ _⟩
      · skip
        have HT : Hid (comT c = Lib.decDigits (c / 65536) ++ ([58] ++ Lib.decDigits (c % 65536))) := by unfold Hid comT; rw [if_neg h0, if_neg h1, if_neg h2]
        have q0 : ((4294967041 : Int) == (c : Int)) = false := by simp; omega
        have q1 : ((4294967042 : Int) == (c : Int)) = false := by simp; omega
        have q2 : ((4294967043 : Int) == (c : Int)) = false := by simp; omega
        have ha := and16 c hc
        have hd : (c : Int) / 65536 = ((c / 65536 : Nat) : Int) := by omega
        have z1 : c / 65536 < 65536 := by omega
        have z2 : c % 65536 < 65536 := by omega
        generalize comT c = tx at *
        generalize c / 65536 = a at *
        generalize c % 65536 = b at *
        clear h0 h1 h2 hc
        have HA : Hid (∀ W, PowAt W → Calls Tryz.prog 160 #[.int .u32 (a : Int)] W _) := fun W hp => half_any a z1 W hp
        have HC : Hid (∀ W, PowAt W → Calls Tryz.prog 160 #[.int .u32 (b : Int)] W _) := fun W hp => half_any b z2 W hp
        have d1 := dig_pow 4 a (by omega)
        have d2 := dig_pow 4 b (by omega)
        generalize Lib.decDigits a = A at *
        generalize Lib.decDigits b = B at *
        have a1 : ∀ W, (Op.stringOp .add (⟨A.toArray⟩ : ByteArray) ⟨#[58]⟩).run Tryz.prog W = .ok (.string ⟨(A ++ [58]).toArray⟩) W := fun W => add_l A [58] (by simp; omega) W
        have HL : Hid ((A ++ [58]) ++ B = A ++ ([58] ++ B)) := List.append_assoc ..
        have hL : (A ++ [58]).length ≤ 6 := by simp; omega
        generalize A ++ [58] = M at *
        have a2 := add_l M B (by omega)
        clear d1 d2 hL
        go_enter Tryz.func125, Tryz.ntmps125
        go_wp2_with (refine wpList_load_row rfl 217 _ rfl 2 rfl t _ fr _ H0.out Tryz.underlying217 rfl info217 ?_)
        refine wp_loop_rounds 4 ?_
        rw [rounds_succ]
        go_wp2_with fail
        rw [rounds_succ]
        go_wp2_with fail
        rw [rounds_succ]
        go_wp2_with fail
        rw [rounds_succ]
        go_wp2_with fail
        refine Calls.mono (HA.out _ (HP.out.below (HB3.out _ _ _))) ?_
        rintro e w1 ⟨rfl, hb1⟩
        have HX : Hid (Below w.heap.size w w1) := (HB3.out _ _ _).trans (hb1.mono (HB3.out _ _ _).size)
        clear hb1
        go_wp2_with fail
        refine Calls.mono (HC.out _ (HP.out.below HX.out)) ?_
        rintro e w2 ⟨rfl, hb2⟩
        go_wp2
        go_ret
        refine ⟨?_, HX.out.trans (hb2.mono HX.out.size)⟩
        rw [HT.out, ← HL.out]
        rfl
end Go.Proofs.YthaebbmekonacaaGreatDoor
