/-
  Prepend where the first segment takes one more.
-/
import Derived.Test.YtbdfigfjoiefiaaDoorN1
namespace Go.Proofs.YtbdfigfjoiefiaaDoor
open Go.RowKit
set_option maxRecDepth 100000 in
set_option maxHeartbeats 1600000 in
theorem prep_takes_false (s : Sg) (T : List Sg) (v : Value) (a : Nat) (w : World) (h : PathAt w v (s :: T)) (hok : okPath (s :: T) = true) (ha : a < 4294967296) (ha0 : a ≠ 0) (hs : s.1 = 2) (hl : s.2.length < 255) :
    Calls Tryd.prog 27 #[v, .int .u32 (a : Int), .bool false] w fun e w' => PrepOk w ((2, a :: s.2) :: T) 0 e w' := by
  obtain ⟨i0, hi, hz0, hz1, hz2⟩ := info_parts info23
  have H : Hid (PathAt _ _ _) := h
  obtain ⟨ad, b, off, cap, rfl, had, ⟨hcap, hl0⟩, hr⟩ := h
  obtain rfl : ad = some ⟨b, off, none⟩ := by rcases had with h | h; exact h; simp at h
  have HR : Hid (RowS _ _ _ _) := hr
  have h16 : (s :: T).length ≤ 16 := by simp only [okPath, Bool.and_eq_true, decide_eq_true_eq] at hok; exact hok.1
  have HK : Hid (okPath (s :: T) = true) := hok
  clear hr had hok
  have hane : ((a : Int) == 0) = false := by rw [beq_eq_false_iff_ne]; omega
  go_enter Tryd.func27, Tryd.ntmps27
  go_wp2_with fail
  refine (check_any _ (s :: T) w H.out).mono ?_
  rintro e w1 ⟨rfl, hb1⟩
  rw [show chkOf (s :: T) = 0 by simp [chkOf, HK.out]]
  have HB1 : Hid (Below _ _ _) := hb1
  have HR1 : Hid (RowS w1 b off (s :: T)) := HR.out.below hb1
  clear hb1
  obtain ⟨b0, va, b1, hva⟩ := HR1.out 0 (by simp)
  obtain ⟨kd, av⟩ := s
  simp only [List.getElem_cons_zero, Nat.zero_mul, Nat.add_zero] at b0 b1 hva hs hl
  subst hs
  obtain ⟨ad2, b2, off2, cap2, rfl, had2, ⟨hc2, hl2⟩, hr2⟩ := id hva
  have HV : Hid (ASAt _ _ _) := hva
  have hav : 0 < av.length := by
    have hk := HK.out
    simp only [okPath, Bool.and_eq_true, List.all_eq_true] at hk
    have := (okSeg_iff _).mp (hk.2 _ (List.mem_cons_self ..))
    exact this.2.2.1
  obtain rfl : ad2 = some ⟨b2, off2, none⟩ := by rcases had2 with h | h; exact h; omega
  clear hva had2
  go_wp2
  have hba : Below w1.heap.size w1 ((w1.alloc (.cells #[.int .u32 (a : Int)] 23)).alloc (.cells #[.int .i64 2, .slice (some ⟨w1.heap.size, 0, none⟩) 1 1] 48)) := ((Below.refl _ _).alloc (Nat.le_refl _) _).alloc (by simp) _
  have e0 := below_cell hba b0
  have e1 := below_cell hba b1
  have g0 : ((w1.alloc (.cells #[.int .u32 (a : Int)] 23)).alloc (.cells #[.int .i64 2, .slice (some ⟨w1.heap.size, 0, none⟩) 1 1] 48)).cell? ⟨w1.heap.size + 1, 0, none⟩ = some (.int .i64 2) := by
    rw [World.cell?_alloc_at _ _ _ _ (by simp)]; rfl
  have g1 : ((w1.alloc (.cells #[.int .u32 (a : Int)] 23)).alloc (.cells #[.int .i64 2, .slice (some ⟨w1.heap.size, 0, none⟩) 1 1] 48)).cell? ⟨w1.heap.size + 1, 1, none⟩ = some (.slice (some ⟨w1.heap.size, 0, none⟩) 1 1) := by
    rw [World.cell?_alloc_at _ _ _ _ (by simp)]; rfl
  have gf : ((w1.alloc (.cells #[.int .u32 (a : Int)] 23)).alloc (.cells #[.int .i64 2, .slice (some ⟨w1.heap.size, 0, none⟩) 1 1] 48)).frozen? ⟨w1.heap.size + 1, 1, none⟩ = false := by simp
  have hh : ((w1.alloc (.cells #[.int .u32 (a : Int)] 23)).alloc (.cells #[.int .i64 2, .slice (some ⟨w1.heap.size, 0, none⟩) 1 1] 48)).heap[w1.heap.size]? = some (.cells #[.int .u32 (a : Int)] 23 (0, 0)) := by
    rw [((Below.refl (w1.heap.size + 1) (w1.alloc (.cells #[.int .u32 (a : Int)] 23))).alloc (by simp) (.cells #[.int .i64 2, .slice (some ⟨w1.heap.size, 0, none⟩) 1 1] 48)).block w1.heap.size (by omega)]
    show (w1.heap.push _)[w1.heap.size]? = _
    simp
  have hW : ((w1.alloc (.cells #[.int .u32 (a : Int)] 23)).alloc (.cells #[.int .i64 2, .slice (some ⟨w1.heap.size, 0, none⟩) 1 1] 48)).heap.size = w1.heap.size + 2 := by simp
  have HBW : Hid (Below w.heap.size w _) := HB1.out.trans (hba.mono HB1.out.size)
  have HVW : Hid (RowU _ b2 off2 av) := hr2.below hba
  have hpw : w.heap.size ≤ w1.heap.size := HB1.out.size
  generalize (w1.alloc (.cells #[.int .u32 (a : Int)] 23)).alloc (.cells #[.int .i64 2, .slice (some ⟨w1.heap.size, 0, none⟩) 1 1] 48) = W at *
  generalize w1.heap.size = p at *
  have HOW : Hid (OwnU W w.heap.size (.slice (some ⟨p, 0, none⟩) 1 1) [a]) := own_one hpw hh ha
  clear hba hr2 hh b0 b1 HV
  go_quiet (fail)
  go_wp2
  have hbq : Below W.heap.size W (W.drewN nq) := below_drewN' (Below.refl _ _) nq
  have e1' := below_cell hbq e1
  have g0' := below_cell hbq g0
  have g1' := below_cell hbq g1
  have gf' : (W.drewN nq).frozen? ⟨p + 1, 1, none⟩ = false := gf
  have HOW' : Hid (OwnU _ _ _ _) := HOW.out.below hbq
  have HVW' : Hid (RowU _ _ _ _) := HVW.out.below hbq
  have HBW' : Hid (Below w.heap.size w (W.drewN nq)) := below_drewN' HBW.out nq
  have hW' : (W.drewN nq).heap.size = p + 2 := hW
  generalize W.drewN nq = V at *
  clear hbq e0 e1 g0 g1 gf HOW HVW HBW hW
  have hn1 : (cellsU av).length = av.length * 1 := by simp [cellsU]
  have hnews : ∀ (j : Nat) (u : Value), (cellsU av)[j]? = some u → V.drew.cell? (Addr.add ⟨b2, off2, none⟩ j) = some u := cellsU_at HVW'.out
  have HN : Hid (_ : Prop) := hnews
  have HO1 : Hid (V.drew.ownsRow w.heap.size 23 1 (.slice (some ⟨p, 0, none⟩) 1 1) 1 [.int .u32 (a : Int)]) := HOW'.out.1
  clear hnews
  go_region_law ((refine step_append_lies _ (by rfl) _ _ 31 (by rfl) w.heap.size 23 i0 (.int .u32 0) 1 4 Tryd.underlying31 hi hz0 hz1 hz2 rfl (by decide) (.slice (some ⟨p, 0, none⟩) 1 1) 1 [.int .u32 (a : Int)] (by rfl) HO1.out ⟨b2, off2, none⟩ av.length cap2 (cellsU av) (by rfl) hn1 HN.out (cellsU_one av) hav (by unfold maxLen; omega) (by omega) (by show w.heap.size ≤ V.heap.size; omega) (p + 2) hW' ?_; intro g cap1 w3 hown3 hgrow3 hat hlt3; have u1 := hgrow3.cell (a := ⟨p + 1, 1, none⟩) (w := V.drew) g1' (by simp [Value.ownBlock]); have u0 := hgrow3.cell (a := ⟨p + 1, 0, none⟩) (w := V.drew) g0' (by simp [Value.ownBlock]); have uf : w3.frozen? ⟨p + 1, 1, none⟩ = false := by rw [World.frozen?_of_block (w := V.drew) (hgrow3.block (p + 1) (by show p + 1 < V.heap.size; omega) (by simp [Value.ownBlock]))]; exact gf'))
  all_goals have x0 : (w3.setCell ⟨p + 1, 1, none⟩ (.slice (some ⟨g, 0, none⟩) (1 + av.length) cap1)).cell? ⟨p + 1, 0, none⟩ = some (.int .i64 2) := by rw [World.cell?_setCell_other _ _ _ _ (by simp)]; exact u0
  all_goals have x1 : (w3.setCell ⟨p + 1, 1, none⟩ (.slice (some ⟨g, 0, none⟩) (1 + av.length) cap1)).cell? ⟨p + 1, 1, none⟩ = some (.slice (some ⟨g, 0, none⟩) (1 + av.length) cap1) := World.cell?_setCell_same _ _ _ u1
  all_goals have hgp : g ≠ p + 1 := ne_at hat
  all_goals have HU : Hid (OwnU (w3.setCell ⟨p + 1, 1, none⟩ (.slice (some ⟨g, 0, none⟩) (1 + av.length) cap1)) w.heap.size (.slice (some ⟨g, 0, none⟩) (1 + av.length) cap1) (a :: av)) := ⟨by
    have h := owns_set hown3 (b := p + 1) (fun g' e => by simp [Value.ownBlock] at e; omega) 1 (.slice (some ⟨g, 0, none⟩) (1 + av.length) cap1)
    rw [show (a :: av).length = 1 + av.length by simp; omega]
    exact h, by
    intro x hx
    rcases List.mem_cons.mp hx with h | h
    · rw [h]; exact ha
    · obtain ⟨j, hj, e⟩ := List.getElem_of_mem h
      rw [← e]; exact (HVW'.out j hj).2, by simp; omega⟩
  all_goals have HB3 : Hid (Below w.heap.size w (w3.setCell ⟨p + 1, 1, none⟩ (.slice (some ⟨g, 0, none⟩) (1 + av.length) cap1))) := ((HBW'.out.drew.grown hgrow3 (by show w.heap.size ≤ V.heap.size; omega) (fun j e => by simp [Value.ownBlock] at e; omega)).setCell (by simp; omega) _)
  all_goals generalize w3.setCell ⟨p + 1, 1, none⟩ (.slice (some ⟨g, 0, none⟩) (1 + av.length) cap1) = X at *
  all_goals clear hown3 hgrow3 hat u0 u1 uf
  all_goals obtain ⟨adr, hsl, hrest⟩ := H.out.rest
  all_goals have HP : Hid (PathAt w (.slice (some adr) T.length (cap - 1)) T) := hrest
  all_goals have hT15 : ((T.length : Int) == 16) = false := len15 h16
  all_goals have hsX := HB3.out.size
  all_goals clear hrest
  all_goals go_wp2_with fail
  all_goals have HOS := own_seg1 (k := 2) hsX HU.out
  all_goals have HBX : Below w.heap.size w (X.alloc (.cells #[.int .i64 2, .slice (some ⟨g, 0, none⟩) (1 + av.length) cap1] 48)) := HB3.out.alloc hsX _
  all_goals refine (appendSegs_any w.heap.size _ _ _ T _ HOS (HP.out.below HBX) HBX.size (by simp only [List.length_cons] at h16; simp; omega) ⟨w, HP.out, HBX, rfl⟩).mono ?_
  all_goals rintro e w9 ⟨v9, R9, rfl, hR9, ho9, hb9⟩
  all_goals have HB9 := HBX.trans hb9
  all_goals clear HOS HBX hb9
  all_goals go_wp2
  all_goals go_ret2
  all_goals exact ⟨v9, R9, rfl, hR9.trans rfl, ho9, HB9⟩
set_option maxRecDepth 100000 in
set_option maxHeartbeats 1600000 in
theorem prep_takes_true (s : Sg) (T : List Sg) (v : Value) (a : Nat) (w : World) (h : PathAt w v (s :: T)) (hok : okPath (s :: T) = true) (ha : a < 4294967296) (ha0 : a ≠ 0) (hs : s.1 = 3) (hl : s.2.length < 255) :
    Calls Tryd.prog 27 #[v, .int .u32 (a : Int), .bool true] w fun e w' => PrepOk w ((3, a :: s.2) :: T) 0 e w' := by
  obtain ⟨i0, hi, hz0, hz1, hz2⟩ := info_parts info23
  have H : Hid (PathAt _ _ _) := h
  obtain ⟨ad, b, off, cap, rfl, had, ⟨hcap, hl0⟩, hr⟩ := h
  obtain rfl : ad = some ⟨b, off, none⟩ := by rcases had with h | h; exact h; simp at h
  have HR : Hid (RowS _ _ _ _) := hr
  have h16 : (s :: T).length ≤ 16 := by simp only [okPath, Bool.and_eq_true, decide_eq_true_eq] at hok; exact hok.1
  have HK : Hid (okPath (s :: T) = true) := hok
  clear hr had hok
  have hane : ((a : Int) == 0) = false := by rw [beq_eq_false_iff_ne]; omega
  go_enter Tryd.func27, Tryd.ntmps27
  go_wp2_with fail
  refine (check_any _ (s :: T) w H.out).mono ?_
  rintro e w1 ⟨rfl, hb1⟩
  rw [show chkOf (s :: T) = 0 by simp [chkOf, HK.out]]
  have HB1 : Hid (Below _ _ _) := hb1
  have HR1 : Hid (RowS w1 b off (s :: T)) := HR.out.below hb1
  clear hb1
  obtain ⟨b0, va, b1, hva⟩ := HR1.out 0 (by simp)
  obtain ⟨kd, av⟩ := s
  simp only [List.getElem_cons_zero, Nat.zero_mul, Nat.add_zero] at b0 b1 hva hs hl
  subst hs
  obtain ⟨ad2, b2, off2, cap2, rfl, had2, ⟨hc2, hl2⟩, hr2⟩ := id hva
  have HV : Hid (ASAt _ _ _) := hva
  have hav : 0 < av.length := by
    have hk := HK.out
    simp only [okPath, Bool.and_eq_true, List.all_eq_true] at hk
    have := (okSeg_iff _).mp (hk.2 _ (List.mem_cons_self ..))
    exact this.2.2.1
  obtain rfl : ad2 = some ⟨b2, off2, none⟩ := by rcases had2 with h | h; exact h; omega
  clear hva had2
  go_wp2
  have hba : Below w1.heap.size w1 ((w1.alloc (.cells #[.int .u32 (a : Int)] 23)).alloc (.cells #[.int .i64 3, .slice (some ⟨w1.heap.size, 0, none⟩) 1 1] 48)) := ((Below.refl _ _).alloc (Nat.le_refl _) _).alloc (by simp) _
  have e0 := below_cell hba b0
  have e1 := below_cell hba b1
  have g0 : ((w1.alloc (.cells #[.int .u32 (a : Int)] 23)).alloc (.cells #[.int .i64 3, .slice (some ⟨w1.heap.size, 0, none⟩) 1 1] 48)).cell? ⟨w1.heap.size + 1, 0, none⟩ = some (.int .i64 3) := by
    rw [World.cell?_alloc_at _ _ _ _ (by simp)]; rfl
  have g1 : ((w1.alloc (.cells #[.int .u32 (a : Int)] 23)).alloc (.cells #[.int .i64 3, .slice (some ⟨w1.heap.size, 0, none⟩) 1 1] 48)).cell? ⟨w1.heap.size + 1, 1, none⟩ = some (.slice (some ⟨w1.heap.size, 0, none⟩) 1 1) := by
    rw [World.cell?_alloc_at _ _ _ _ (by simp)]; rfl
  have gf : ((w1.alloc (.cells #[.int .u32 (a : Int)] 23)).alloc (.cells #[.int .i64 3, .slice (some ⟨w1.heap.size, 0, none⟩) 1 1] 48)).frozen? ⟨w1.heap.size + 1, 1, none⟩ = false := by simp
  have hh : ((w1.alloc (.cells #[.int .u32 (a : Int)] 23)).alloc (.cells #[.int .i64 3, .slice (some ⟨w1.heap.size, 0, none⟩) 1 1] 48)).heap[w1.heap.size]? = some (.cells #[.int .u32 (a : Int)] 23 (0, 0)) := by
    rw [((Below.refl (w1.heap.size + 1) (w1.alloc (.cells #[.int .u32 (a : Int)] 23))).alloc (by simp) (.cells #[.int .i64 3, .slice (some ⟨w1.heap.size, 0, none⟩) 1 1] 48)).block w1.heap.size (by omega)]
    show (w1.heap.push _)[w1.heap.size]? = _
    simp
  have hW : ((w1.alloc (.cells #[.int .u32 (a : Int)] 23)).alloc (.cells #[.int .i64 3, .slice (some ⟨w1.heap.size, 0, none⟩) 1 1] 48)).heap.size = w1.heap.size + 2 := by simp
  have HBW : Hid (Below w.heap.size w _) := HB1.out.trans (hba.mono HB1.out.size)
  have HVW : Hid (RowU _ b2 off2 av) := hr2.below hba
  have hpw : w.heap.size ≤ w1.heap.size := HB1.out.size
  generalize (w1.alloc (.cells #[.int .u32 (a : Int)] 23)).alloc (.cells #[.int .i64 3, .slice (some ⟨w1.heap.size, 0, none⟩) 1 1] 48) = W at *
  generalize w1.heap.size = p at *
  have HOW : Hid (OwnU W w.heap.size (.slice (some ⟨p, 0, none⟩) 1 1) [a]) := own_one hpw hh ha
  clear hba hr2 hh b0 b1 HV
  go_quiet (fail)
  go_wp2
  have hbq : Below W.heap.size W (W.drewN nq) := below_drewN' (Below.refl _ _) nq
  have e1' := below_cell hbq e1
  have g0' := below_cell hbq g0
  have g1' := below_cell hbq g1
  have gf' : (W.drewN nq).frozen? ⟨p + 1, 1, none⟩ = false := gf
  have HOW' : Hid (OwnU _ _ _ _) := HOW.out.below hbq
  have HVW' : Hid (RowU _ _ _ _) := HVW.out.below hbq
  have HBW' : Hid (Below w.heap.size w (W.drewN nq)) := below_drewN' HBW.out nq
  have hW' : (W.drewN nq).heap.size = p + 2 := hW
  generalize W.drewN nq = V at *
  clear hbq e0 e1 g0 g1 gf HOW HVW HBW hW
  have hn1 : (cellsU av).length = av.length * 1 := by simp [cellsU]
  have hnews : ∀ (j : Nat) (u : Value), (cellsU av)[j]? = some u → V.drew.cell? (Addr.add ⟨b2, off2, none⟩ j) = some u := cellsU_at HVW'.out
  have HN : Hid (_ : Prop) := hnews
  have HO1 : Hid (V.drew.ownsRow w.heap.size 23 1 (.slice (some ⟨p, 0, none⟩) 1 1) 1 [.int .u32 (a : Int)]) := HOW'.out.1
  clear hnews
  go_region_law ((refine step_append_lies _ (by rfl) _ _ 31 (by rfl) w.heap.size 23 i0 (.int .u32 0) 1 4 Tryd.underlying31 hi hz0 hz1 hz2 rfl (by decide) (.slice (some ⟨p, 0, none⟩) 1 1) 1 [.int .u32 (a : Int)] (by rfl) HO1.out ⟨b2, off2, none⟩ av.length cap2 (cellsU av) (by rfl) hn1 HN.out (cellsU_one av) hav (by unfold maxLen; omega) (by omega) (by show w.heap.size ≤ V.heap.size; omega) (p + 2) hW' ?_; intro g cap1 w3 hown3 hgrow3 hat hlt3; have u1 := hgrow3.cell (a := ⟨p + 1, 1, none⟩) (w := V.drew) g1' (by simp [Value.ownBlock]); have u0 := hgrow3.cell (a := ⟨p + 1, 0, none⟩) (w := V.drew) g0' (by simp [Value.ownBlock]); have uf : w3.frozen? ⟨p + 1, 1, none⟩ = false := by rw [World.frozen?_of_block (w := V.drew) (hgrow3.block (p + 1) (by show p + 1 < V.heap.size; omega) (by simp [Value.ownBlock]))]; exact gf'))
  all_goals have x0 : (w3.setCell ⟨p + 1, 1, none⟩ (.slice (some ⟨g, 0, none⟩) (1 + av.length) cap1)).cell? ⟨p + 1, 0, none⟩ = some (.int .i64 3) := by rw [World.cell?_setCell_other _ _ _ _ (by simp)]; exact u0
  all_goals have x1 : (w3.setCell ⟨p + 1, 1, none⟩ (.slice (some ⟨g, 0, none⟩) (1 + av.length) cap1)).cell? ⟨p + 1, 1, none⟩ = some (.slice (some ⟨g, 0, none⟩) (1 + av.length) cap1) := World.cell?_setCell_same _ _ _ u1
  all_goals have hgp : g ≠ p + 1 := ne_at hat
  all_goals have HU : Hid (OwnU (w3.setCell ⟨p + 1, 1, none⟩ (.slice (some ⟨g, 0, none⟩) (1 + av.length) cap1)) w.heap.size (.slice (some ⟨g, 0, none⟩) (1 + av.length) cap1) (a :: av)) := ⟨by
    have h := owns_set hown3 (b := p + 1) (fun g' e => by simp [Value.ownBlock] at e; omega) 1 (.slice (some ⟨g, 0, none⟩) (1 + av.length) cap1)
    rw [show (a :: av).length = 1 + av.length by simp; omega]
    exact h, by
    intro x hx
    rcases List.mem_cons.mp hx with h | h
    · rw [h]; exact ha
    · obtain ⟨j, hj, e⟩ := List.getElem_of_mem h
      rw [← e]; exact (HVW'.out j hj).2, by simp; omega⟩
  all_goals have HB3 : Hid (Below w.heap.size w (w3.setCell ⟨p + 1, 1, none⟩ (.slice (some ⟨g, 0, none⟩) (1 + av.length) cap1))) := ((HBW'.out.drew.grown hgrow3 (by show w.heap.size ≤ V.heap.size; omega) (fun j e => by simp [Value.ownBlock] at e; omega)).setCell (by simp; omega) _)
  all_goals generalize w3.setCell ⟨p + 1, 1, none⟩ (.slice (some ⟨g, 0, none⟩) (1 + av.length) cap1) = X at *
  all_goals clear hown3 hgrow3 hat u0 u1 uf
  all_goals obtain ⟨adr, hsl, hrest⟩ := H.out.rest
  all_goals have HP : Hid (PathAt w (.slice (some adr) T.length (cap - 1)) T) := hrest
  all_goals have hT15 : ((T.length : Int) == 16) = false := len15 h16
  all_goals have hsX := HB3.out.size
  all_goals clear hrest
  all_goals go_wp2_with fail
  all_goals have HOS := own_seg1 (k := 3) hsX HU.out
  all_goals have HBX : Below w.heap.size w (X.alloc (.cells #[.int .i64 3, .slice (some ⟨g, 0, none⟩) (1 + av.length) cap1] 48)) := HB3.out.alloc hsX _
  all_goals refine (appendSegs_any w.heap.size _ _ _ T _ HOS (HP.out.below HBX) HBX.size (by simp only [List.length_cons] at h16; simp; omega) ⟨w, HP.out, HBX, rfl⟩).mono ?_
  all_goals rintro e w9 ⟨v9, R9, rfl, hR9, ho9, hb9⟩
  all_goals have HB9 := HBX.trans hb9
  all_goals clear HOS HBX hb9
  all_goals go_wp2
  all_goals go_ret2
  all_goals exact ⟨v9, R9, rfl, hR9.trans rfl, ho9, HB9⟩
end Go.Proofs.YtbdfigfjoiefiaaDoor
