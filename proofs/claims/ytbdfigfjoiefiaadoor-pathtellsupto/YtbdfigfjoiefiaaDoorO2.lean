/-
  The reference's Prepend: the other cases.
-/
import Derived.Test.YtbdfigfjoiefiaaDoorO1
namespace Go.Proofs.YtbdfigfjoiefiaaDoor
open Go.RowKit
theorem OwnS.oneCell {w : World} {base : Nat} {v : Value} {R : List Sv} (h : OwnS w base v R) : ∀ u ∈ cellsS R, u.oneCell' = true := by
  intro u hu
  simp only [cellsS, List.mem_flatMap] at hu
  obtain ⟨r, hr, hu⟩ := hu
  obtain ⟨ad, c, e⟩ := slice_of_owns (h.2.1 r hr).1
  simp at hu
  rcases hu with rfl | rfl
  · rfl
  · rw [e]; rfl
/-- Segments put behind one. -/
theorem OwnS.join {w w' : World} {base : Nat} {v v' vo : Value} {k : Int} {u : Value} {l : List Nat} {R : List Sv} {n : Nat} (h : OwnS w base v [(k, u, l)]) (ho : OwnS w base vo R)
    (h' : w'.ownsRow base 48 2 v' (1 + n) ([.int .i64 k, u] ++ cellsS R)) (hg : w.grownBy w' v.ownBlock) (hn : n = R.length ∧ R.length + 1 ≤ 4398046511104) : OwnS w' base v' ((k, u, l) :: R) := by
  obtain ⟨rfl, hn⟩ := hn
  refine ⟨by rw [show ((k, u, l) :: R).length = 1 + R.length by simp; omega]; exact h', fun r hr => ?_, by simpa using hn⟩
  rcases List.mem_cons.mp hr with rfl | hr
  · exact (h.2.1 _ (by simp)).grown h.1 hg
  · exact (ho.2.1 r hr).grown h.1 hg
set_option maxRecDepth 100000 in
set_option maxHeartbeats 1600000 in
theorem rprep_takes_true (s : Sg) (T : List Sg) (v : Value) (a : Nat) (w : World) (h : PathAt w v (s :: T)) (hok : okPath (s :: T) = true) (ha : a < 4294967296) (ha0 : a ≠ 0) (hs : s.1 = 3) (hl : s.2.length < 255) :
    Calls Tryd.prog 28 #[v, .int .u32 (a : Int), .bool true] w fun e w' => RPrepOk w ((3, a :: s.2) :: T) 0 e w' := by
  obtain ⟨i0, hi, hz0, hz1, hz2⟩ := info_parts info23
  have H : Hid (PathAt _ _ _) := h
  obtain ⟨ad, b, off, cap, rfl, h2⟩ := h
  have HK : Hid (okPath (s :: T) = true) := hok
  clear h2 hok
  have hane : ((a : Int) == 0) = false := by rw [beq_eq_false_iff_ne]; omega
  have hav : 0 < s.2.length := by
    have hk := HK.out
    simp only [okPath, Bool.and_eq_true, List.all_eq_true] at hk
    have := (okSeg_iff _).mp (hk.2 _ (List.mem_cons_self ..))
    exact this.2.2.1
  go_enter Tryd.func28, Tryd.ntmps28
  go_wp2_with fail
  refine (rcheck_any _ (s :: T) w H.out).mono ?_
  rintro e w1 ⟨rfl, hw⟩
  obtain rfl : w = w1 := hw.symm
  clear hw
  rw [show chkOf (s :: T) = 0 by simp [chkOf, HK.out]]
  go_wp2_with fail
  refine (ownAll_any _ (s :: T) w H.out).mono ?_
  rintro e w2 ⟨v2, R2, rfl, hR, ho, hb2⟩
  obtain ⟨r, R, rfl⟩ : ∃ r R, R2 = r :: R := by
    cases R2 with
    | nil => simp [sgs] at hR
    | cons r R => exact ⟨r, R, rfl⟩
  obtain ⟨k0, u0, l0⟩ := r
  simp only [sgs, List.map_cons, List.cons.injEq] at hR
  obtain ⟨hs0, hT⟩ := hR
  obtain ⟨g, cap2, cur, rfl, hg, hh, hc, hsz, ht⟩ := ho.open
  subst hs0
  simp only at hs hl hav
  subst hs
  have hu := ho.2.1 (3, u0, l0) (by simp)
  simp only at hu
  obtain ⟨ad3, b3, off3, c3, rfl, had3, ⟨hc3, hl3⟩, hr3⟩ := hu.at
  obtain rfl : ad3 = some ⟨b3, off3, none⟩ := by rcases had3 with h | h; exact h; omega
  have x0 := (ho.cells 0 (by simp)).1
  have x1 := (ho.cells 0 (by simp)).2
  simp only [Nat.zero_mul, List.getElem_cons_zero, Nat.zero_add] at x0 x1
  have hsz2 := hb2.size
  have gf : w2.frozen? ⟨g, 1, none⟩ = false := by simp [World.frozen?, hh]
  have hgl : g < w2.heap.size := lt_of_cell x0
  have HO : Hid (OwnS _ _ _ _) := ho
  have HB2 : Hid (Below _ _ _) := hb2
  have HRU : Hid (RowU _ _ _ _) := hr3
  have HLT : Hid (∀ x ∈ l0, x < 4294967296) := hu.2.1
  have HTT : Hid (sgs R = T) := hT
  clear ho hb2 hr3 hu hT had3 ht hh hsz
  have hba : Below w2.heap.size w2 (w2.alloc (.cells #[.int .u32 (a : Int)] 23)) := (Below.refl _ _).alloc (Nat.le_refl _) _
  have HN : Hid (∀ (j : Nat) (u : Value), (cellsU l0)[j]? = some u → (w2.alloc (.cells #[.int .u32 (a : Int)] 23)).cell? (Addr.add ⟨b3, off3, none⟩ j) = some u) := cellsU_at (HRU.out.below hba)
  have HO1 : Hid (OwnU (w2.alloc (.cells #[.int .u32 (a : Int)] 23)) w2.heap.size (.slice (some ⟨w2.heap.size, 0, none⟩) 1 1) [a]) := own_one (Nat.le_refl _) (heap_at_new _ _) ha
  have y1 : ∀ o, (w2.alloc o).cell? ⟨g, 1, none⟩ = some (.slice (some ⟨b3, off3, none⟩) l0.length c3) := fun o => below_cell ((Below.refl _ _).alloc (Nat.le_refl _) o) x1
  have hl0' : (l0.length : Int) < 255 := by omega
  go_wp2_with (at_builtin; refine wpList_append_own _ rfl _ _ 31 rfl w2.heap.size 23 i0 (.int .u32 0) 1 4 Tryd.underlying31 hi hz0 hz1 hz2 rfl (by decide) (.slice (some ⟨w2.heap.size, 0, none⟩) 1 1) 1 [.int .u32 (a : Int)] rfl HO1.out.1 ⟨b3, off3, none⟩ l0.length c3 (cellsU l0) rfl (by simp [cellsU]) HN.out (cellsU_one l0) (by unfold maxLen; omega) (by omega) (by simp) ?_; intro v3 w3 hown3 hgrow3 _; obtain ⟨ad5, c5, rfl⟩ := slice_of_owns hown3; have hb3 : Below w2.heap.size w2 w3 := hba.grown hgrow3 (by simp) (by intro k hk; simp [Value.ownBlock] at hk; omega); have z1 := below_cell hb3 x1; have zf : w3.frozen? ⟨g, 1, none⟩ = false := by rw [hb3.frozen (p := ⟨g, 1, none⟩) hgl]; exact gf)
  have hown4 : OwnU w3 w2.heap.size (.slice ad5 (1 + l0.length) c5) (a :: l0) := ⟨by
    rw [show (a :: l0).length = 1 + l0.length by simp; omega]
    exact hown3, by
    intro x hx
    rcases List.mem_cons.mp hx with h | h
    · rw [h]; exact ha
    · exact HLT.out x h, by simp; omega⟩
  have HP : Hid (PathAt (w3.setCell ⟨g, 1, none⟩ (.slice ad5 (1 + l0.length) c5)) (.slice (some ⟨g, 0, none⟩) (R.length + 1) cap2) ((3, a :: l0) :: sgs R)) := (HO.out.below hb3).setFirst hown4
  have HB4 : Hid (Below w.heap.size w (w3.setCell ⟨g, 1, none⟩ (.slice ad5 (1 + l0.length) c5))) := (HB2.out.trans (hb3.mono hsz2)).setCell (by exact hg) _
  clear hown3 hgrow3 hown4 hb3
  go_wp2
  go_ret2
  exact ⟨_, rfl, by have := HP.out; rw [HTT.out] at this; exact this, HB4.out⟩
set_option maxRecDepth 100000 in
set_option maxHeartbeats 1600000 in
theorem rprep_other_false (L : List Sg) (v : Value) (a : Nat) (w : World) (h : PathAt w v L) (hok : okPath L = true) (ha : a < 4294967296) (ha0 : a ≠ 0) (htk : takes 2 L = false) :
    Calls Tryd.prog 28 #[v, .int .u32 (a : Int), .bool false] w fun e w' => RPrepOk w (otherP 2 a L) (otherE L) e w' := by
  obtain ⟨i0, hi, hz0, hz1, hz2⟩ := info_parts info48
  have H : Hid (PathAt _ _ _) := h
  obtain ⟨ad, b, off, cap, rfl, h2⟩ := h
  have HK : Hid (okPath L = true) := hok
  have h16 : L.length ≤ 16 := by simp only [okPath, Bool.and_eq_true, decide_eq_true_eq] at hok; exact hok.1
  have HTK : Hid (takes 2 L = false) := htk
  clear h2 hok htk
  have hane : ((a : Int) == 0) = false := by rw [beq_eq_false_iff_ne]; omega
  go_enter Tryd.func28, Tryd.ntmps28
  go_wp2_with fail
  refine (rcheck_any _ L w H.out).mono ?_
  rintro e w1 ⟨rfl, hw⟩
  obtain rfl : w = w1 := hw.symm
  clear hw
  rw [show chkOf L = 0 by simp [chkOf, HK.out]]
  go_wp2_with fail
  refine (ownAll_any _ L w H.out).mono ?_
  rintro e w2 ⟨v2, R, rfl, hR, ho, hb2⟩
  have hlen : R.length = L.length := by rw [← hR, sgs_length]
  have hsz2 := hb2.size
  have HO : Hid (OwnS _ _ _ _) := ho
  have HB2 : Hid (Below _ _ _) := hb2
  have HRL : Hid (sgs R = L) := hR
  obtain ⟨ad3, c3, rfl⟩ := slice_of_owns ho.1
  cases ad3 with
  | none =>
    obtain rfl : R = [] := by
      obtain ⟨⟨_, hv⟩, _, _⟩ := ho
      rcases hv with ⟨_, h0⟩ | ⟨g', cap', cur, e, _⟩
      · exact List.length_eq_zero_iff.mp h0
      · simp at e
    obtain rfl : L = [] := by rw [← hR]; rfl
    clear ho hb2 hR hlen
    go_wp2
    go_ret2
    exact ⟨_, rfl, by
      have hq := (own_seg1 (w := w2.alloc (.cells #[.int .u32 (a : Int)] 23)) (k := 2) (Nat.zero_le _) (own_one (Nat.zero_le _) (heap_at_new _ _) ha)).at
      rw [World.size_alloc] at hq
      exact hq, (HB2.out.alloc hsz2 _).alloc (Nat.le_trans hsz2 (by simp)) _⟩
  | some a3 =>
    obtain ⟨g, rfl⟩ : ∃ g, a3 = ⟨g, 0, none⟩ := by
      obtain ⟨⟨_, hv⟩, _, _⟩ := ho
      rcases hv with ⟨h0, _⟩ | ⟨g', cap', cur, e, _⟩
      · simp at h0
      · simp only [Value.slice.injEq, Option.some.injEq] at e
        exact ⟨g', e.1⟩
    cases R with
    | nil =>
      obtain rfl : L = [] := by rw [← hR]; rfl
      clear ho hb2 hR hlen
      have HU1 : OwnU (w2.alloc (.cells #[.int .u32 (a : Int)] 23)) w.heap.size (.slice (some ⟨w2.heap.size, 0, none⟩) 1 1) [a] := own_one hsz2 (heap_at_new _ _) ha
      have HW : Hid (OwnS _ w.heap.size _ [(2, .slice (some ⟨w2.heap.size, 0, none⟩) 1 1, [a])]) := own_seg1 (w := w2.alloc (.cells #[.int .u32 (a : Int)] 23)) (k := 2) (Nat.le_trans hsz2 (by simp)) HU1
      rw [World.size_alloc] at HW
      have hbw : Below w2.heap.size w2 ((w2.alloc (.cells #[.int .u32 (a : Int)] 23)).alloc (.cells #[.int .i64 2, .slice (some ⟨w2.heap.size, 0, none⟩) 1 1] 48)) := ((Below.refl _ _).alloc (Nat.le_refl _) _).alloc (by simp) _
      have HOW : Hid (OwnS _ w.heap.size _ []) := HO.out.below hbw
      have HBW : Hid (Below w.heap.size w _) := HB2.out.trans (hbw.mono hsz2)
      have hbs : w.heap.size ≤ ((w2.alloc (.cells #[.int .u32 (a : Int)] 23)).alloc (.cells #[.int .i64 2, .slice (some ⟨w2.heap.size, 0, none⟩) 1 1] 48)).heap.size := HBW.out.size
      have HN : Hid (∀ (j : Nat) (u : Value), (cellsS [])[j]? = some u → ((w2.alloc (.cells #[.int .u32 (a : Int)] 23)).alloc (.cells #[.int .i64 2, .slice (some ⟨w2.heap.size, 0, none⟩) 1 1] 48)).cell? (Addr.add ⟨g, 0, none⟩ j) = some u) := fun j u hj => HOW.out.1.cells rfl j u hj
      have H1C : Hid (∀ u ∈ cellsS [], u.oneCell' = true) := HO.out.oneCell
      clear HU1 hbw
      go_wp2_with (at_builtin; refine wpList_append_own _ rfl _ _ 22 rfl w.heap.size 48 i0 (.agg #[.int .i64 0, .slice none 0 0]) 2 32 Tryd.underlying22 hi hz0 hz1 hz2 rfl (by decide) (.slice (some ⟨w2.heap.size + 1, 0, none⟩) 1 1) 1 [.int .i64 2, .slice (some ⟨w2.heap.size, 0, none⟩) 1 1] rfl HW.out.1 ⟨g, 0, none⟩ 0 c3 (cellsS []) rfl (by simp [cellsS]) HN.out H1C.out (by unfold maxLen; omega) (by omega) hbs ?_; intro v3 w3 hown3 hgrow3 _; obtain ⟨ad5, c5, rfl⟩ := slice_of_owns hown3)
      have HP : Hid (PathAt w3 (.slice ad5 (1 + 0) c5) ((2, [a]) :: sgs [])) := (OwnS.join HW.out HOW.out hown3 hgrow3 ⟨by simp, by simp⟩).at
      have HB4 : Hid (Below w.heap.size w w3) := HBW.out.grown hgrow3 hbs (fun j e => (HW.out.1.lt j e).1)
      clear hown3 hgrow3
      go_wp2
      go_ret2
      exact ⟨_, rfl, HP.out, HB4.out⟩
    | cons r R =>
      obtain ⟨k0, u0, l0⟩ := r
      have x0 := (ho.cells 0 (by simp)).1
      have x1 := (ho.cells 0 (by simp)).2
      simp only [Nat.zero_mul, List.getElem_cons_zero, Nat.zero_add] at x0 x1
      have hu := ho.2.1 (k0, u0, l0) (by simp)
      simp only at hu
      have hull := hu.2.2
      obtain ⟨ad4, c4, rfl⟩ := slice_of_owns hu.1
      subst hR
      have htk : ¬ (k0 = 2 ∧ l0.length < 255) := by simpa [takes, sgs] using HTK.out
      rw [sgs_length] at h16
      simp only [List.length_cons] at h16
      clear ho hb2 hu hlen
      by_cases hkd : k0 = 2
      · subst hkd
        have hfull : ¬ ((l0.length : Int) < 255) := by simp at htk; omega
        clear htk
        by_cases h6 : R.length + 1 = 16
        · have h6' : (16 : Int) ≤ (R.length : Int) + 1 := by omega
          have HP6 : Hid ((sgs ((2, .slice ad4 l0.length c4, l0) :: R)).length = 16) := by unfold Hid; rw [sgs_length]; exact h6
          clear h6
          go_wp2
          go_ret2
          exact ⟨.slice none 0 0, by rw [show otherE _ = 3 from if_pos HP6.out]; rfl, by rw [show otherP _ _ _ = [] from if_pos HP6.out]; exact pathAt_nil _, HB2.out⟩
        · have h6' : ¬ ((16 : Int) ≤ (R.length : Int) + 1) := by omega
          have HP6 : Hid (¬ (sgs ((2, .slice ad4 l0.length c4, l0) :: R)).length = 16) := by unfold Hid; rw [sgs_length]; exact h6
          clear h6
          have HU1 : OwnU (w2.alloc (.cells #[.int .u32 (a : Int)] 23)) w.heap.size (.slice (some ⟨w2.heap.size, 0, none⟩) 1 1) [a] := own_one hsz2 (heap_at_new _ _) ha
          have HW : Hid (OwnS _ w.heap.size _ [(2, .slice (some ⟨w2.heap.size, 0, none⟩) 1 1, [a])]) := own_seg1 (w := w2.alloc (.cells #[.int .u32 (a : Int)] 23)) (k := 2) (Nat.le_trans hsz2 (by simp)) HU1
          rw [World.size_alloc] at HW
          have hbw : Below w2.heap.size w2 ((w2.alloc (.cells #[.int .u32 (a : Int)] 23)).alloc (.cells #[.int .i64 2, .slice (some ⟨w2.heap.size, 0, none⟩) 1 1] 48)) := ((Below.refl _ _).alloc (Nat.le_refl _) _).alloc (by simp) _
          have HOW : Hid (OwnS _ w.heap.size _ ((2, .slice ad4 l0.length c4, l0) :: R)) := HO.out.below hbw
          have HBW : Hid (Below w.heap.size w _) := HB2.out.trans (hbw.mono hsz2)
          have hbs : w.heap.size ≤ ((w2.alloc (.cells #[.int .u32 (a : Int)] 23)).alloc (.cells #[.int .i64 2, .slice (some ⟨w2.heap.size, 0, none⟩) 1 1] 48)).heap.size := HBW.out.size
          have HN : Hid (∀ (j : Nat) (u : Value), (cellsS ((2, .slice ad4 l0.length c4, l0) :: R))[j]? = some u → ((w2.alloc (.cells #[.int .u32 (a : Int)] 23)).alloc (.cells #[.int .i64 2, .slice (some ⟨w2.heap.size, 0, none⟩) 1 1] 48)).cell? (Addr.add ⟨g, 0, none⟩ j) = some u) := fun j u hj => HOW.out.1.cells rfl j u hj
          have H1C : Hid (∀ u ∈ cellsS ((2, .slice ad4 l0.length c4, l0) :: R), u.oneCell' = true) := HO.out.oneCell
          clear HU1 hbw
          go_wp2_with (at_builtin; refine wpList_append_own _ rfl _ _ 22 rfl w.heap.size 48 i0 (.agg #[.int .i64 0, .slice none 0 0]) 2 32 Tryd.underlying22 hi hz0 hz1 hz2 rfl (by decide) (.slice (some ⟨w2.heap.size + 1, 0, none⟩) 1 1) 1 [.int .i64 2, .slice (some ⟨w2.heap.size, 0, none⟩) 1 1] rfl HW.out.1 ⟨g, 0, none⟩ (R.length + 1) c3 (cellsS ((2, .slice ad4 l0.length c4, l0) :: R)) rfl (by rw [cellsS_length]; simp) HN.out H1C.out (by unfold maxLen; omega) (by omega) hbs ?_; intro v3 w3 hown3 hgrow3 _; obtain ⟨ad5, c5, rfl⟩ := slice_of_owns hown3)
          have HP : Hid (PathAt w3 (.slice ad5 (1 + (R.length + 1)) c5) ((2, [a]) :: sgs ((2, .slice ad4 l0.length c4, l0) :: R))) := (OwnS.join HW.out HOW.out hown3 hgrow3 ⟨by simp, by have := HO.out.2.2; simp at this ⊢; omega⟩).at
          have HB4 : Hid (Below w.heap.size w w3) := HBW.out.grown hgrow3 hbs (fun j e => (HW.out.1.lt j e).1)
          clear hown3 hgrow3
          go_wp2
          go_ret2
          exact ⟨_, by rw [show otherE _ = 0 from if_neg HP6.out]; rfl, by rw [show otherP _ _ _ = _ from if_neg HP6.out]; exact HP.out, HB4.out⟩
      · clear htk
        by_cases h6 : R.length + 1 = 16
        · have h6' : (16 : Int) ≤ (R.length : Int) + 1 := by omega
          have HP6 : Hid ((sgs ((k0, .slice ad4 l0.length c4, l0) :: R)).length = 16) := by unfold Hid; rw [sgs_length]; exact h6
          clear h6
          go_wp2
          go_ret2
          exact ⟨.slice none 0 0, by rw [show otherE _ = 3 from if_pos HP6.out]; rfl, by rw [show otherP _ _ _ = [] from if_pos HP6.out]; exact pathAt_nil _, HB2.out⟩
        · have h6' : ¬ ((16 : Int) ≤ (R.length : Int) + 1) := by omega
          have HP6 : Hid (¬ (sgs ((k0, .slice ad4 l0.length c4, l0) :: R)).length = 16) := by unfold Hid; rw [sgs_length]; exact h6
          clear h6
          have HU1 : OwnU (w2.alloc (.cells #[.int .u32 (a : Int)] 23)) w.heap.size (.slice (some ⟨w2.heap.size, 0, none⟩) 1 1) [a] := own_one hsz2 (heap_at_new _ _) ha
          have HW : Hid (OwnS _ w.heap.size _ [(2, .slice (some ⟨w2.heap.size, 0, none⟩) 1 1, [a])]) := own_seg1 (w := w2.alloc (.cells #[.int .u32 (a : Int)] 23)) (k := 2) (Nat.le_trans hsz2 (by simp)) HU1
          rw [World.size_alloc] at HW
          have hbw : Below w2.heap.size w2 ((w2.alloc (.cells #[.int .u32 (a : Int)] 23)).alloc (.cells #[.int .i64 2, .slice (some ⟨w2.heap.size, 0, none⟩) 1 1] 48)) := ((Below.refl _ _).alloc (Nat.le_refl _) _).alloc (by simp) _
          have HOW : Hid (OwnS _ w.heap.size _ ((k0, .slice ad4 l0.length c4, l0) :: R)) := HO.out.below hbw
          have HBW : Hid (Below w.heap.size w _) := HB2.out.trans (hbw.mono hsz2)
          have hbs : w.heap.size ≤ ((w2.alloc (.cells #[.int .u32 (a : Int)] 23)).alloc (.cells #[.int .i64 2, .slice (some ⟨w2.heap.size, 0, none⟩) 1 1] 48)).heap.size := HBW.out.size
          have HN : Hid (∀ (j : Nat) (u : Value), (cellsS ((k0, .slice ad4 l0.length c4, l0) :: R))[j]? = some u → ((w2.alloc (.cells #[.int .u32 (a : Int)] 23)).alloc (.cells #[.int .i64 2, .slice (some ⟨w2.heap.size, 0, none⟩) 1 1] 48)).cell? (Addr.add ⟨g, 0, none⟩ j) = some u) := fun j u hj => HOW.out.1.cells rfl j u hj
          have H1C : Hid (∀ u ∈ cellsS ((k0, .slice ad4 l0.length c4, l0) :: R), u.oneCell' = true) := HO.out.oneCell
          clear HU1 hbw
          go_wp2_with (at_builtin; refine wpList_append_own _ rfl _ _ 22 rfl w.heap.size 48 i0 (.agg #[.int .i64 0, .slice none 0 0]) 2 32 Tryd.underlying22 hi hz0 hz1 hz2 rfl (by decide) (.slice (some ⟨w2.heap.size + 1, 0, none⟩) 1 1) 1 [.int .i64 2, .slice (some ⟨w2.heap.size, 0, none⟩) 1 1] rfl HW.out.1 ⟨g, 0, none⟩ (R.length + 1) c3 (cellsS ((k0, .slice ad4 l0.length c4, l0) :: R)) rfl (by rw [cellsS_length]; simp) HN.out H1C.out (by unfold maxLen; omega) (by omega) hbs ?_; intro v3 w3 hown3 hgrow3 _; obtain ⟨ad5, c5, rfl⟩ := slice_of_owns hown3)
          have HP : Hid (PathAt w3 (.slice ad5 (1 + (R.length + 1)) c5) ((2, [a]) :: sgs ((k0, .slice ad4 l0.length c4, l0) :: R))) := (OwnS.join HW.out HOW.out hown3 hgrow3 ⟨by simp, by have := HO.out.2.2; simp at this ⊢; omega⟩).at
          have HB4 : Hid (Below w.heap.size w w3) := HBW.out.grown hgrow3 hbs (fun j e => (HW.out.1.lt j e).1)
          clear hown3 hgrow3
          go_wp2
          go_ret2
          exact ⟨_, by rw [show otherE _ = 0 from if_neg HP6.out]; rfl, by rw [show otherP _ _ _ = _ from if_neg HP6.out]; exact HP.out, HB4.out⟩
set_option maxRecDepth 100000 in
set_option maxHeartbeats 1600000 in
theorem rprep_other_true (L : List Sg) (v : Value) (a : Nat) (w : World) (h : PathAt w v L) (hok : okPath L = true) (ha : a < 4294967296) (ha0 : a ≠ 0) (htk : takes 3 L = false) :
    Calls Tryd.prog 28 #[v, .int .u32 (a : Int), .bool true] w fun e w' => RPrepOk w (otherP 3 a L) (otherE L) e w' := by
  obtain ⟨i0, hi, hz0, hz1, hz2⟩ := info_parts info48
  have H : Hid (PathAt _ _ _) := h
  obtain ⟨ad, b, off, cap, rfl, h2⟩ := h
  have HK : Hid (okPath L = true) := hok
  have h16 : L.length ≤ 16 := by simp only [okPath, Bool.and_eq_true, decide_eq_true_eq] at hok; exact hok.1
  have HTK : Hid (takes 3 L = false) := htk
  clear h2 hok htk
  have hane : ((a : Int) == 0) = false := by rw [beq_eq_false_iff_ne]; omega
  go_enter Tryd.func28, Tryd.ntmps28
  go_wp2_with fail
  refine (rcheck_any _ L w H.out).mono ?_
  rintro e w1 ⟨rfl, hw⟩
  obtain rfl : w = w1 := hw.symm
  clear hw
  rw [show chkOf L = 0 by simp [chkOf, HK.out]]
  go_wp2_with fail
  refine (ownAll_any _ L w H.out).mono ?_
  rintro e w2 ⟨v2, R, rfl, hR, ho, hb2⟩
  have hlen : R.length = L.length := by rw [← hR, sgs_length]
  have hsz2 := hb2.size
  have HO : Hid (OwnS _ _ _ _) := ho
  have HB2 : Hid (Below _ _ _) := hb2
  have HRL : Hid (sgs R = L) := hR
  obtain ⟨ad3, c3, rfl⟩ := slice_of_owns ho.1
  cases ad3 with
  | none =>
    obtain rfl : R = [] := by
      obtain ⟨⟨_, hv⟩, _, _⟩ := ho
      rcases hv with ⟨_, h0⟩ | ⟨g', cap', cur, e, _⟩
      · exact List.length_eq_zero_iff.mp h0
      · simp at e
    obtain rfl : L = [] := by rw [← hR]; rfl
    clear ho hb2 hR hlen
    go_wp2
    go_ret2
    exact ⟨_, rfl, by
      have hq := (own_seg1 (w := w2.alloc (.cells #[.int .u32 (a : Int)] 23)) (k := 3) (Nat.zero_le _) (own_one (Nat.zero_le _) (heap_at_new _ _) ha)).at
      rw [World.size_alloc] at hq
      exact hq, (HB2.out.alloc hsz2 _).alloc (Nat.le_trans hsz2 (by simp)) _⟩
  | some a3 =>
    obtain ⟨g, rfl⟩ : ∃ g, a3 = ⟨g, 0, none⟩ := by
      obtain ⟨⟨_, hv⟩, _, _⟩ := ho
      rcases hv with ⟨h0, _⟩ | ⟨g', cap', cur, e, _⟩
      · simp at h0
      · simp only [Value.slice.injEq, Option.some.injEq] at e
        exact ⟨g', e.1⟩
    cases R with
    | nil =>
      obtain rfl : L = [] := by rw [← hR]; rfl
      clear ho hb2 hR hlen
      have HU1 : OwnU (w2.alloc (.cells #[.int .u32 (a : Int)] 23)) w.heap.size (.slice (some ⟨w2.heap.size, 0, none⟩) 1 1) [a] := own_one hsz2 (heap_at_new _ _) ha
      have HW : Hid (OwnS _ w.heap.size _ [(3, .slice (some ⟨w2.heap.size, 0, none⟩) 1 1, [a])]) := own_seg1 (w := w2.alloc (.cells #[.int .u32 (a : Int)] 23)) (k := 3) (Nat.le_trans hsz2 (by simp)) HU1
      rw [World.size_alloc] at HW
      have hbw : Below w2.heap.size w2 ((w2.alloc (.cells #[.int .u32 (a : Int)] 23)).alloc (.cells #[.int .i64 3, .slice (some ⟨w2.heap.size, 0, none⟩) 1 1] 48)) := ((Below.refl _ _).alloc (Nat.le_refl _) _).alloc (by simp) _
      have HOW : Hid (OwnS _ w.heap.size _ []) := HO.out.below hbw
      have HBW : Hid (Below w.heap.size w _) := HB2.out.trans (hbw.mono hsz2)
      have hbs : w.heap.size ≤ ((w2.alloc (.cells #[.int .u32 (a : Int)] 23)).alloc (.cells #[.int .i64 3, .slice (some ⟨w2.heap.size, 0, none⟩) 1 1] 48)).heap.size := HBW.out.size
      have HN : Hid (∀ (j : Nat) (u : Value), (cellsS [])[j]? = some u → ((w2.alloc (.cells #[.int .u32 (a : Int)] 23)).alloc (.cells #[.int .i64 3, .slice (some ⟨w2.heap.size, 0, none⟩) 1 1] 48)).cell? (Addr.add ⟨g, 0, none⟩ j) = some u) := fun j u hj => HOW.out.1.cells rfl j u hj
      have H1C : Hid (∀ u ∈ cellsS [], u.oneCell' = true) := HO.out.oneCell
      clear HU1 hbw
      go_wp2_with (at_builtin; refine wpList_append_own _ rfl _ _ 22 rfl w.heap.size 48 i0 (.agg #[.int .i64 0, .slice none 0 0]) 2 32 Tryd.underlying22 hi hz0 hz1 hz2 rfl (by decide) (.slice (some ⟨w2.heap.size + 1, 0, none⟩) 1 1) 1 [.int .i64 3, .slice (some ⟨w2.heap.size, 0, none⟩) 1 1] rfl HW.out.1 ⟨g, 0, none⟩ 0 c3 (cellsS []) rfl (by simp [cellsS]) HN.out H1C.out (by unfold maxLen; omega) (by omega) hbs ?_; intro v3 w3 hown3 hgrow3 _; obtain ⟨ad5, c5, rfl⟩ := slice_of_owns hown3)
      have HP : Hid (PathAt w3 (.slice ad5 (1 + 0) c5) ((3, [a]) :: sgs [])) := (OwnS.join HW.out HOW.out hown3 hgrow3 ⟨by simp, by simp⟩).at
      have HB4 : Hid (Below w.heap.size w w3) := HBW.out.grown hgrow3 hbs (fun j e => (HW.out.1.lt j e).1)
      clear hown3 hgrow3
      go_wp2
      go_ret2
      exact ⟨_, rfl, HP.out, HB4.out⟩
    | cons r R =>
      obtain ⟨k0, u0, l0⟩ := r
      have x0 := (ho.cells 0 (by simp)).1
      have x1 := (ho.cells 0 (by simp)).2
      simp only [Nat.zero_mul, List.getElem_cons_zero, Nat.zero_add] at x0 x1
      have hu := ho.2.1 (k0, u0, l0) (by simp)
      simp only at hu
      have hull := hu.2.2
      obtain ⟨ad4, c4, rfl⟩ := slice_of_owns hu.1
      subst hR
      have htk : ¬ (k0 = 3 ∧ l0.length < 255) := by simpa [takes, sgs] using HTK.out
      rw [sgs_length] at h16
      simp only [List.length_cons] at h16
      clear ho hb2 hu hlen
      by_cases hkd : k0 = 3
      · subst hkd
        have hfull : ¬ ((l0.length : Int) < 255) := by simp at htk; omega
        clear htk
        by_cases h6 : R.length + 1 = 16
        · have h6' : (16 : Int) ≤ (R.length : Int) + 1 := by omega
          have HP6 : Hid ((sgs ((3, .slice ad4 l0.length c4, l0) :: R)).length = 16) := by unfold Hid; rw [sgs_length]; exact h6
          clear h6
          go_wp2
          go_ret2
          exact ⟨.slice none 0 0, by rw [show otherE _ = 3 from if_pos HP6.out]; rfl, by rw [show otherP _ _ _ = [] from if_pos HP6.out]; exact pathAt_nil _, HB2.out⟩
        · have h6' : ¬ ((16 : Int) ≤ (R.length : Int) + 1) := by omega
          have HP6 : Hid (¬ (sgs ((3, .slice ad4 l0.length c4, l0) :: R)).length = 16) := by unfold Hid; rw [sgs_length]; exact h6
          clear h6
          have HU1 : OwnU (w2.alloc (.cells #[.int .u32 (a : Int)] 23)) w.heap.size (.slice (some ⟨w2.heap.size, 0, none⟩) 1 1) [a] := own_one hsz2 (heap_at_new _ _) ha
          have HW : Hid (OwnS _ w.heap.size _ [(3, .slice (some ⟨w2.heap.size, 0, none⟩) 1 1, [a])]) := own_seg1 (w := w2.alloc (.cells #[.int .u32 (a : Int)] 23)) (k := 3) (Nat.le_trans hsz2 (by simp)) HU1
          rw [World.size_alloc] at HW
          have hbw : Below w2.heap.size w2 ((w2.alloc (.cells #[.int .u32 (a : Int)] 23)).alloc (.cells #[.int .i64 3, .slice (some ⟨w2.heap.size, 0, none⟩) 1 1] 48)) := ((Below.refl _ _).alloc (Nat.le_refl _) _).alloc (by simp) _
          have HOW : Hid (OwnS _ w.heap.size _ ((3, .slice ad4 l0.length c4, l0) :: R)) := HO.out.below hbw
          have HBW : Hid (Below w.heap.size w _) := HB2.out.trans (hbw.mono hsz2)
          have hbs : w.heap.size ≤ ((w2.alloc (.cells #[.int .u32 (a : Int)] 23)).alloc (.cells #[.int .i64 3, .slice (some ⟨w2.heap.size, 0, none⟩) 1 1] 48)).heap.size := HBW.out.size
          have HN : Hid (∀ (j : Nat) (u : Value), (cellsS ((3, .slice ad4 l0.length c4, l0) :: R))[j]? = some u → ((w2.alloc (.cells #[.int .u32 (a : Int)] 23)).alloc (.cells #[.int .i64 3, .slice (some ⟨w2.heap.size, 0, none⟩) 1 1] 48)).cell? (Addr.add ⟨g, 0, none⟩ j) = some u) := fun j u hj => HOW.out.1.cells rfl j u hj
          have H1C : Hid (∀ u ∈ cellsS ((3, .slice ad4 l0.length c4, l0) :: R), u.oneCell' = true) := HO.out.oneCell
          clear HU1 hbw
          go_wp2_with (at_builtin; refine wpList_append_own _ rfl _ _ 22 rfl w.heap.size 48 i0 (.agg #[.int .i64 0, .slice none 0 0]) 2 32 Tryd.underlying22 hi hz0 hz1 hz2 rfl (by decide) (.slice (some ⟨w2.heap.size + 1, 0, none⟩) 1 1) 1 [.int .i64 3, .slice (some ⟨w2.heap.size, 0, none⟩) 1 1] rfl HW.out.1 ⟨g, 0, none⟩ (R.length + 1) c3 (cellsS ((3, .slice ad4 l0.length c4, l0) :: R)) rfl (by rw [cellsS_length]; simp) HN.out H1C.out (by unfold maxLen; omega) (by omega) hbs ?_; intro v3 w3 hown3 hgrow3 _; obtain ⟨ad5, c5, rfl⟩ := slice_of_owns hown3)
          have HP : Hid (PathAt w3 (.slice ad5 (1 + (R.length + 1)) c5) ((3, [a]) :: sgs ((3, .slice ad4 l0.length c4, l0) :: R))) := (OwnS.join HW.out HOW.out hown3 hgrow3 ⟨by simp, by have := HO.out.2.2; simp at this ⊢; omega⟩).at
          have HB4 : Hid (Below w.heap.size w w3) := HBW.out.grown hgrow3 hbs (fun j e => (HW.out.1.lt j e).1)
          clear hown3 hgrow3
          go_wp2
          go_ret2
          exact ⟨_, by rw [show otherE _ = 0 from if_neg HP6.out]; rfl, by rw [show otherP _ _ _ = _ from if_neg HP6.out]; exact HP.out, HB4.out⟩
      · clear htk
        by_cases h6 : R.length + 1 = 16
        · have h6' : (16 : Int) ≤ (R.length : Int) + 1 := by omega
          have HP6 : Hid ((sgs ((k0, .slice ad4 l0.length c4, l0) :: R)).length = 16) := by unfold Hid; rw [sgs_length]; exact h6
          clear h6
          go_wp2
          go_ret2
          exact ⟨.slice none 0 0, by rw [show otherE _ = 3 from if_pos HP6.out]; rfl, by rw [show otherP _ _ _ = [] from if_pos HP6.out]; exact pathAt_nil _, HB2.out⟩
        · have h6' : ¬ ((16 : Int) ≤ (R.length : Int) + 1) := by omega
          have HP6 : Hid (¬ (sgs ((k0, .slice ad4 l0.length c4, l0) :: R)).length = 16) := by unfold Hid; rw [sgs_length]; exact h6
          clear h6
          have HU1 : OwnU (w2.alloc (.cells #[.int .u32 (a : Int)] 23)) w.heap.size (.slice (some ⟨w2.heap.size, 0, none⟩) 1 1) [a] := own_one hsz2 (heap_at_new _ _) ha
          have HW : Hid (OwnS _ w.heap.size _ [(3, .slice (some ⟨w2.heap.size, 0, none⟩) 1 1, [a])]) := own_seg1 (w := w2.alloc (.cells #[.int .u32 (a : Int)] 23)) (k := 3) (Nat.le_trans hsz2 (by simp)) HU1
          rw [World.size_alloc] at HW
          have hbw : Below w2.heap.size w2 ((w2.alloc (.cells #[.int .u32 (a : Int)] 23)).alloc (.cells #[.int .i64 3, .slice (some ⟨w2.heap.size, 0, none⟩) 1 1] 48)) := ((Below.refl _ _).alloc (Nat.le_refl _) _).alloc (by simp) _
          have HOW : Hid (OwnS _ w.heap.size _ ((k0, .slice ad4 l0.length c4, l0) :: R)) := HO.out.below hbw
          have HBW : Hid (Below w.heap.size w _) := HB2.out.trans (hbw.mono hsz2)
          have hbs : w.heap.size ≤ ((w2.alloc (.cells #[.int .u32 (a : Int)] 23)).alloc (.cells #[.int .i64 3, .slice (some ⟨w2.heap.size, 0, none⟩) 1 1] 48)).heap.size := HBW.out.size
          have HN : Hid (∀ (j : Nat) (u : Value), (cellsS ((k0, .slice ad4 l0.length c4, l0) :: R))[j]? = some u → ((w2.alloc (.cells #[.int .u32 (a : Int)] 23)).alloc (.cells #[.int .i64 3, .slice (some ⟨w2.heap.size, 0, none⟩) 1 1] 48)).cell? (Addr.add ⟨g, 0, none⟩ j) = some u) := fun j u hj => HOW.out.1.cells rfl j u hj
          have H1C : Hid (∀ u ∈ cellsS ((k0, .slice ad4 l0.length c4, l0) :: R), u.oneCell' = true) := HO.out.oneCell
          clear HU1 hbw
          go_wp2_with (at_builtin; refine wpList_append_own _ rfl _ _ 22 rfl w.heap.size 48 i0 (.agg #[.int .i64 0, .slice none 0 0]) 2 32 Tryd.underlying22 hi hz0 hz1 hz2 rfl (by decide) (.slice (some ⟨w2.heap.size + 1, 0, none⟩) 1 1) 1 [.int .i64 3, .slice (some ⟨w2.heap.size, 0, none⟩) 1 1] rfl HW.out.1 ⟨g, 0, none⟩ (R.length + 1) c3 (cellsS ((k0, .slice ad4 l0.length c4, l0) :: R)) rfl (by rw [cellsS_length]; simp) HN.out H1C.out (by unfold maxLen; omega) (by omega) hbs ?_; intro v3 w3 hown3 hgrow3 _; obtain ⟨ad5, c5, rfl⟩ := slice_of_owns hown3)
          have HP : Hid (PathAt w3 (.slice ad5 (1 + (R.length + 1)) c5) ((3, [a]) :: sgs ((k0, .slice ad4 l0.length c4, l0) :: R))) := (OwnS.join HW.out HOW.out hown3 hgrow3 ⟨by simp, by have := HO.out.2.2; simp at this ⊢; omega⟩).at
          have HB4 : Hid (Below w.heap.size w w3) := HBW.out.grown hgrow3 hbs (fun j e => (HW.out.1.lt j e).1)
          clear hown3 hgrow3
          go_wp2
          go_ret2
          exact ⟨_, by rw [show otherE _ = 0 from if_neg HP6.out]; rfl, by rw [show otherP _ _ _ = _ from if_neg HP6.out]; exact HP.out, HB4.out⟩
end Go.Proofs.YtbdfigfjoiefiaaDoor
