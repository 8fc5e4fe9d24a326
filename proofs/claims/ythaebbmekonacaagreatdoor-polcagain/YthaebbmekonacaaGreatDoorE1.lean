/-
  Conditions and actions that may be.
-/
import Derived.Test.YthaebbmekonacaaGreatDoorD1
import Derived.Test.YthaebbmekonacaaGreatDoorAT
set_option linter.unusedVariables false
set_option linter.unusedSimpArgs false
set_option maxRecDepth 100000
namespace Go.Proofs.YthaebbmekonacaaGreatDoor
open Go.RowKit
theorem empty_set (w : World) (s : ByteArray) : SetAt w ⟨s, 2, [], [], []⟩ (.slice none 0 0) (.slice none 0 0) (.slice none 0 0) :=
  ⟨⟨none, 0, 0, 0, rfl, Or.inr rfl, Nat.le_refl _, fun j h => by simp at h⟩, ⟨none, 0, 0, 0, rfl, Or.inr rfl, Nat.le_refl _, fun j h => by simp at h⟩, ⟨none, 0, 0, 0, rfl, Or.inr rfl, Nat.le_refl _, fun j h => by simp at h⟩⟩
theorem pname_any (s : ByteArray) (w : World) (ht : Pr.Tabs w) (hs : s.size ≤ maxLen) : Calls Tryz.prog 65 #[.string s] w fun e w' => e = .returned (.bool (nameB s)) ∧ Below w.heap.size w w' := by
  have HK : Hid (Calls Tryz.prog 64 #[.agg #[.string s, .int .i64 2, .slice none 0 0, .slice none 0 0, .slice none 0 0]] w _) := checkS_any ⟨s, 2, [], [], []⟩ (.slice none 0 0) (.slice none 0 0) (.slice none 0 0) w ht (empty_set w s) ⟨hs, by simp, by simp, by simp, by simp, by simp⟩
  have hc : chS ⟨s, 2, [], [], []⟩ = if nameB s then 0 else 2 := by
    unfold chS okS
    rw [show holdB ⟨s, 2, [], [], []⟩ = true by rfl, Bool.and_true]
  rw [hc] at HK
  clear hc hs ht
  generalize nameB s = z at *
  cases z
  · go_enter Tryz.func65, Tryz.ntmps65
    go_wp2_with (go_at_call 64; refine Calls.mono HK.out ?_; rintro e w2 ⟨rfl, hb2⟩)
    go_ret
    exact ⟨rfl, hb2⟩
  · go_enter Tryz.func65, Tryz.ntmps65
    go_wp2_with (go_at_call 64; refine Calls.mono HK.out ?_; rintro e w2 ⟨rfl, hb2⟩)
    go_ret
    exact ⟨rfl, hb2⟩
theorem isAddr_any (s : ByteArray) (w : World) (he : EnvT w) (hs : s.size ≤ maxLen) : Calls Tryz.prog 120 #[.string s] w fun e w' => e = .returned (.bool (isAd s)) ∧ Below w.heap.size w w' := by
  have HK : Hid (Calls Tryz.prog 126 #[.string s] w _) := addrText_any s w he hs
  unfold adE at HK
  clear he hs
  generalize adT s = tx at *
  generalize isAd s = z at *
  cases z
  · go_enter Tryz.func120, Tryz.ntmps120
    go_wp2_with (go_at_call 126; refine Calls.mono HK.out ?_; rintro e w2 ⟨rfl, hb2⟩)
    go_ret
    exact ⟨rfl, hb2⟩
  · go_enter Tryz.func120, Tryz.ntmps120
    go_wp2_with (go_at_call 126; refine Calls.mono HK.out ?_; rintro e w2 ⟨rfl, hb2⟩)
    go_ret
    exact ⟨rfl, hb2⟩
/-- May a condition be? -/
def okC (c : Cd) : Bool :=
  if c.k = 1 ∨ c.k = 2 ∨ c.k = 3 ∨ c.k = 4 then nameB c.nm && (c.n == 0)
  else if c.k = 5 then (c.nm.toList == []) && (decide (0 ≤ c.n) && decide (c.n ≤ 2))
  else if c.k = 6 then (c.nm.toList == []) && (decide (0 ≤ c.n) && decide (c.n ≤ 65535))
  else if c.k = 7 then (c.nm.toList == []) && decide (0 < Pr.szOf c.n)
  else false
/-- May an action be? -/
def okA' (a : Ac) : Bool :=
  if a.k = 1 ∨ a.k = 2 ∨ a.k = 5 then (a.nm.toList == []) && ((a.n == 0) && (a.ad.toList == []))
  else if a.k = 3 ∨ a.k = 4 ∨ a.k = 6 then (a.nm.toList == []) && (a.ad.toList == [])
  else if a.k = 7 then ((a.n == 0) && (a.ad.toList == [])) && nameB a.nm
  else if a.k = 8 then ((a.nm.toList == []) && (a.ad.toList == [])) && (decide (1 ≤ a.n) && decide (a.n ≤ 8))
  else if a.k = 9 then ((a.nm.toList == []) && (a.n == 0)) && isAd a.ad
  else if a.k = 10 then ((a.nm.toList == []) && (a.ad.toList == [])) && decide (a.n ≤ 2)
  else false
set_option maxHeartbeats 2000000 in
theorem mayCond_any (c : Cd) (w : World) (ht : Pr.Tabs w) (hs : c.nm.size ≤ maxLen) : Calls Tryz.prog 70 #[cdV c] w fun e w' => e = .returned (.bool (okC c)) ∧ Below w.heap.size w w' := by
  obtain ⟨k, nt, nm, n⟩ := c
  have HREF : Hid (okC ⟨k, nt, nm, n⟩ = if k = 1 ∨ k = 2 ∨ k = 3 ∨ k = 4 then nameB nm && (n == 0) else if k = 5 then (nm.toList == []) && (decide (0 ≤ n) && decide (n ≤ 2)) else if k = 6 then (nm.toList == []) && (decide (0 ≤ n) && decide (n ≤ 65535)) else if k = 7 then (nm.toList == []) && decide (0 < Pr.szOf n) else false) := rfl
  have HB : Hid (Below _ _ _) := below_box w (.cells #[.int .i64 k, .bool nt, .string nm, .int .i64 n] 37)
  have HN : Hid (∀ X, Below w.heap.size w X → Calls Tryz.prog 65 #[.string nm] X fun e w' => e = .returned (.bool (nameB nm)) ∧ Below X.heap.size X w') := fun X hX => pname_any nm X (ht.below hX) hs
  have HS : Hid (∀ X, Below w.heap.size w X → Calls Tryz.prog 117 #[.int .i64 n] X fun e w' => e = .returned (.int .i64 (Pr.szOf n)) ∧ w' = X) := fun X hX => Pr.size_any n X (ht.below hX).sizes
  clear hs ht
  generalize okC ⟨k, nt, nm, n⟩ = r at *
  unfold cdV
  dsimp only
  by_cases h1 : k = 1 ∨ k = 2 ∨ k = 3 ∨ k = 4
  · rw [if_pos h1] at HREF
    generalize nameB nm = z at *
    rcases h1 with rfl | rfl | rfl | rfl
    all_goals
      cases z
      · go_enter Tryz.func70, Tryz.ntmps70
        go_wp2_with (go_at_call 65; refine Calls.mono (HN.out _ HB.out) ?_; rintro e w2 ⟨rfl, hb2⟩)
        go_ret
        exact ⟨ret_bool HREF.out.symm, HB.out.trans (hb2.mono HB.out.size)⟩
      · have HC : Hid (∀ (a : Int) w2, Below (w.alloc (.cells #[.int .i64 a, .bool nt, .string nm, .int .i64 n] 37)).heap.size (w.alloc (.cells #[.int .i64 a, .bool nt, .string nm, .int .i64 n] 37)) w2 → w2.cell? ⟨w.heap.size, 3, none⟩ = some (.int .i64 n)) := fun a w2 hb => below_cell hb (by rw [World.cell?_alloc_new]; rfl)
        go_enter Tryz.func70, Tryz.ntmps70
        go_wp2_with (go_at_call 65; refine Calls.mono (HN.out _ HB.out) ?_; rintro e w2 ⟨rfl, hb2⟩; have c3 := HC.out _ w2 hb2)
        go_ret
        exact ⟨ret_bool HREF.out.symm, HB.out.trans (hb2.mono HB.out.size)⟩
  · rw [if_neg h1] at HREF
    have g1 : (k == 1) = false := beq_eq_false_iff_ne.2 (by omega)
    have g2 : (k == 2) = false := beq_eq_false_iff_ne.2 (by omega)
    have g3 : (k == 3) = false := beq_eq_false_iff_ne.2 (by omega)
    have g4 : (k == 4) = false := beq_eq_false_iff_ne.2 (by omega)
    by_cases h5 : k = 5
    · subst h5
      clear g1 g2 g3 g4 h1
      rw [if_pos rfl] at HREF
      cases hz : (nm.toList == ([] : List UInt8))
      · rw [hz] at HREF
        go_enter Tryz.func70, Tryz.ntmps70
        go_wp2
        go_ret
        exact ⟨ret_bool HREF.out.symm, HB.out⟩
      · rw [hz] at HREF
        by_cases h0 : 0 ≤ n
        · rw [decide_eq_true h0] at HREF
          go_enter Tryz.func70, Tryz.ntmps70
          go_wp2
          go_ret
          exact ⟨ret_bool HREF.out.symm, HB.out⟩
        · rw [decide_eq_false h0] at HREF
          go_enter Tryz.func70, Tryz.ntmps70
          go_wp2
          go_ret
          exact ⟨ret_bool HREF.out.symm, HB.out⟩
    · rw [if_neg h5] at HREF
      have g5 : (k == 5) = false := beq_eq_false_iff_ne.2 (by omega)
      by_cases h6 : k = 6
      · subst h6
        clear g1 g2 g3 g4 g5 h1
        rw [if_pos rfl] at HREF
        cases hz : (nm.toList == ([] : List UInt8))
        · rw [hz] at HREF
          go_enter Tryz.func70, Tryz.ntmps70
          go_wp2
          go_ret
          exact ⟨ret_bool HREF.out.symm, HB.out⟩
        · rw [hz] at HREF
          by_cases h0 : 0 ≤ n
          · rw [decide_eq_true h0] at HREF
            go_enter Tryz.func70, Tryz.ntmps70
            go_wp2
            go_ret
            exact ⟨ret_bool HREF.out.symm, HB.out⟩
          · rw [decide_eq_false h0] at HREF
            go_enter Tryz.func70, Tryz.ntmps70
            go_wp2
            go_ret
            exact ⟨ret_bool HREF.out.symm, HB.out⟩
      · rw [if_neg h6] at HREF
        have g6 : (k == 6) = false := beq_eq_false_iff_ne.2 (by omega)
        by_cases h7 : k = 7
        · subst h7
          clear g1 g2 g3 g4 g5 g6 h1
          rw [if_pos rfl] at HREF
          cases hz : (nm.toList == ([] : List UInt8))
          · rw [hz] at HREF
            go_enter Tryz.func70, Tryz.ntmps70
            go_wp2
            go_ret
            exact ⟨ret_bool HREF.out.symm, HB.out⟩
          · rw [hz] at HREF
            generalize Pr.szOf n = q at *
            go_enter Tryz.func70, Tryz.ntmps70
            go_wp2_with (go_at_call 117; refine Calls.mono (HS.out _ HB.out) ?_; rintro e w2 ⟨rfl, rfl⟩)
            go_ret
            exact ⟨ret_bool HREF.out.symm, HB.out⟩
        · rw [if_neg h7] at HREF
          have g7 : (k == 7) = false := beq_eq_false_iff_ne.2 (by omega)
          clear h1 h5 h6 h7
          go_enter Tryz.func70, Tryz.ntmps70
          go_wp2
          go_ret
          exact ⟨ret_bool HREF.out.symm, HB.out⟩
end Go.Proofs.YthaebbmekonacaaGreatDoor
