/-
  Prepend where a segment of its own is put ahead.
-/
import Derived.Test.YtbdfigfjoiefiaaDoorN1
namespace Go.Proofs.YtbdfigfjoiefiaaDoor
open Go.RowKit
/-- The path with a segment of its own ahead, and the error. -/
def otherP (k : Int) (a : Nat) (L : List Sg) : List Sg := if L.length = 16 then [] else (k, [a]) :: L
def otherE (L : List Sg) : Int := if L.length = 16 then 3 else 0
set_option maxRecDepth 100000 in
set_option maxHeartbeats 400000 in
theorem prep_other_false (L : List Sg) (v : Value) (a : Nat) (w : World) (h : PathAt w v L) (hok : okPath L = true) (ha : a < 4294967296) (ha0 : a ≠ 0) (htk : takes 2 L = false) :
    Calls Tryd.prog 27 #[v, .int .u32 (a : Int), .bool false] w fun e w' => PrepOk w (otherP 2 a L) (otherE L) e w' := by
  have H : Hid (PathAt _ _ _) := h
  obtain ⟨ad, b, off, cap, rfl, had, ⟨hcap, hl0⟩, hr⟩ := h
  have HR : Hid (RowS _ _ _ _) := hr
  have h16 : L.length ≤ 16 := by simp only [okPath, Bool.and_eq_true, decide_eq_true_eq] at hok; exact hok.1
  have HK : Hid (okPath L = true) := hok
  have HTK : Hid (takes 2 L = false) := htk
  clear hr hok htk
  have hane : ((a : Int) == 0) = false := by rw [beq_eq_false_iff_ne]; omega
  go_enter Tryd.func27, Tryd.ntmps27
  go_wp2_with fail
  refine (check_any _ L w H.out).mono ?_
  rintro e w1 ⟨rfl, hb1⟩
  rw [show chkOf L = 0 by simp [chkOf, HK.out]]
  have HB1 : Hid (Below _ _ _) := hb1
  have HR1 : Hid (RowS w1 b off L) := HR.out.below hb1
  clear hb1
  go_wp2
  have hba : Below w1.heap.size w1 ((w1.alloc (.cells #[.int .u32 (a : Int)] 23)).alloc (.cells #[.int .i64 2, .slice (some ⟨w1.heap.size, 0, none⟩) 1 1] 48)) := ((Below.refl _ _).alloc (Nat.le_refl _) _).alloc (by simp) _
  have g0 : ((w1.alloc (.cells #[.int .u32 (a : Int)] 23)).alloc (.cells #[.int .i64 2, .slice (some ⟨w1.heap.size, 0, none⟩) 1 1] 48)).cell? ⟨w1.heap.size + 1, 0, none⟩ = some (.int .i64 2) := by
    rw [World.cell?_alloc_at _ _ _ _ (by simp)]; rfl
  have g1 : ((w1.alloc (.cells #[.int .u32 (a : Int)] 23)).alloc (.cells #[.int .i64 2, .slice (some ⟨w1.heap.size, 0, none⟩) 1 1] 48)).cell? ⟨w1.heap.size + 1, 1, none⟩ = some (.slice (some ⟨w1.heap.size, 0, none⟩) 1 1) := by
    rw [World.cell?_alloc_at _ _ _ _ (by simp)]; rfl
  have hh : ((w1.alloc (.cells #[.int .u32 (a : Int)] 23)).alloc (.cells #[.int .i64 2, .slice (some ⟨w1.heap.size, 0, none⟩) 1 1] 48)).heap[w1.heap.size]? = some (.cells #[.int .u32 (a : Int)] 23 (0, 0)) := by
    rw [((Below.refl (w1.heap.size + 1) (w1.alloc (.cells #[.int .u32 (a : Int)] 23))).alloc (by simp) (.cells #[.int .i64 2, .slice (some ⟨w1.heap.size, 0, none⟩) 1 1] 48)).block w1.heap.size (by omega)]
    show (w1.heap.push _)[w1.heap.size]? = _
    simp
  have HBW : Hid (Below w.heap.size w _) := HB1.out.trans (hba.mono HB1.out.size)
  have HRW : Hid (RowS _ b off L) := HR1.out.below hba
  have hpw : w.heap.size ≤ w1.heap.size := HB1.out.size
  generalize (w1.alloc (.cells #[.int .u32 (a : Int)] 23)).alloc (.cells #[.int .i64 2, .slice (some ⟨w1.heap.size, 0, none⟩) 1 1] 48) = W at *
  generalize w1.heap.size = p at *
  have HOW : Hid (OwnU W w.heap.size (.slice (some ⟨p, 0, none⟩) 1 1) [a]) := own_one hpw hh ha
  clear hba hh
  by_cases hnil : L.length = 0
  · have hL : L = [] := List.length_eq_zero_iff.mp hnil
    subst hL
    clear hnil
    go_quiet (fail)
    have HU : Hid (OwnU (W.drewN nq) _ _ _) := HOW.out.below (below_drewN' (Below.refl _ _) nq)
    have HB3 : Hid (Below w.heap.size w (W.drewN nq)) := below_drewN' HBW.out nq
    have x0 : (W.drewN nq).cell? ⟨p + 1, 0, none⟩ = some (.int .i64 2) := g0
    have x1 : (W.drewN nq).cell? ⟨p + 1, 1, none⟩ = some (.slice (some ⟨p, 0, none⟩) 1 1) := g1
    generalize W.drewN nq = X at *
    clear g0 g1 HOW HBW
    have hsX := HB3.out.size
    go_wp2_with fail
    have HOS := own_seg1 (k := 2) hsX HU.out
    have HBX : Below w.heap.size w (X.alloc (.cells #[.int .i64 2, .slice (some ⟨p, 0, none⟩) 1 1] 48)) := HB3.out.alloc hsX _
    refine (appendSegs_any w.heap.size _ _ _ [] _ HOS (H.out.below HBX) HBX.size (by simp) ⟨w, H.out, HBX, rfl⟩).mono ?_
    rintro e w9 ⟨v9, R9, rfl, hR9, ho9, hb9⟩
    have HB9 := HBX.trans hb9
    clear HOS HBX hb9
    go_wp2
    go_ret2
    exact ⟨v9, R9, rfl, hR9.trans rfl, ho9, HB9⟩
  · obtain rfl : ad = some ⟨b, off, none⟩ := by rcases had with h | h; exact h; omega
    obtain ⟨s, T, rfl⟩ : ∃ s T, L = s :: T := by
      cases L with
      | nil => exact absurd rfl hnil
      | cons s T => exact ⟨s, T, rfl⟩
    obtain ⟨e0, va, e1, hva⟩ := HRW.out 0 (by simp)
    have htk : ¬ (s.1 = 2 ∧ s.2.length < 255) := by simpa [takes] using HTK.out
    clear had hnil
    obtain ⟨kd, av⟩ := s
    simp only [List.getElem_cons_zero, Nat.zero_mul, Nat.add_zero] at e0 e1 hva htk
    obtain ⟨ad2, b2, off2, cap2, rfl, had2, _, hr2⟩ := id hva
    clear hva hr2 had2
    by_cases hkd : kd = 2
    · subst hkd
      have hfull : ¬ ((av.length : Int) < 255) := by simp at htk; omega
      clear htk
      go_quiet (fail)
      have HU : Hid (OwnU (W.drewN nq) _ _ _) := HOW.out.below (below_drewN' (Below.refl _ _) nq)
      have HB3 : Hid (Below w.heap.size w (W.drewN nq)) := below_drewN' HBW.out nq
      have x0 : (W.drewN nq).cell? ⟨p + 1, 0, none⟩ = some (.int .i64 2) := g0
      have x1 : (W.drewN nq).cell? ⟨p + 1, 1, none⟩ = some (.slice (some ⟨p, 0, none⟩) 1 1) := g1
      generalize W.drewN nq = X at *
      clear g0 g1 HOW HBW
      have hsX := HB3.out.size
      by_cases h6 : ((2, av) :: T : List Sg).length = 16
      · have h6' : (((T.length : Int) + 1) == 16) = true := by simp only [List.length_cons] at h6; rw [beq_iff_eq]; omega
        have HP6 : Hid (((2, av) :: T : List Sg).length = 16) := h6
        go_wp2
        go_ret2
        exact ⟨.slice none 0 0, [], by rw [show otherE _ = 3 from if_pos HP6.out]; rfl, by rw [show otherP _ _ _ = [] from if_pos HP6.out]; rfl, ⟨World.ownsRow_nil _ _ _ _, fun r hr => by simp at hr, by simp⟩, HB3.out⟩
      · have h6' : (((T.length : Int) + 1) == 16) = false := by simp only [List.length_cons] at h6; rw [beq_eq_false_iff_ne]; omega
        have HP6 : Hid (¬ ((2, av) :: T : List Sg).length = 16) := h6
        clear h6
        go_wp2_with fail
        have HOS := own_seg1 (k := 2) hsX HU.out
        have HBX : Below w.heap.size w (X.alloc (.cells #[.int .i64 2, .slice (some ⟨p, 0, none⟩) 1 1] 48)) := HB3.out.alloc hsX _
        refine (appendSegs_any w.heap.size _ _ _ _ _ HOS (H.out.below HBX) HBX.size (by simp only [List.length_cons, List.length_nil] at h16 ⊢; omega) ⟨w, H.out, HBX, rfl⟩).mono ?_
        rintro e w9 ⟨v9, R9, rfl, hR9, ho9, hb9⟩
        have HB9 := HBX.trans hb9
        clear HOS HBX hb9
        go_wp2
        go_ret2
        exact ⟨v9, R9, by rw [show otherE _ = 0 from if_neg HP6.out]; rfl, by rw [show otherP _ _ _ = _ from if_neg HP6.out]; exact hR9.trans rfl, ho9, HB9⟩
    · clear htk
      go_quiet (fail)
      have HU : Hid (OwnU (W.drewN nq) _ _ _) := HOW.out.below (below_drewN' (Below.refl _ _) nq)
      have HB3 : Hid (Below w.heap.size w (W.drewN nq)) := below_drewN' HBW.out nq
      have x0 : (W.drewN nq).cell? ⟨p + 1, 0, none⟩ = some (.int .i64 2) := g0
      have x1 : (W.drewN nq).cell? ⟨p + 1, 1, none⟩ = some (.slice (some ⟨p, 0, none⟩) 1 1) := g1
      generalize W.drewN nq = X at *
      clear g0 g1 HOW HBW
      have hsX := HB3.out.size
      by_cases h6 : ((kd, av) :: T : List Sg).length = 16
      · have h6' : (((T.length : Int) + 1) == 16) = true := by simp only [List.length_cons] at h6; rw [beq_iff_eq]; omega
        have HP6 : Hid (((kd, av) :: T : List Sg).length = 16) := h6
        go_wp2
        go_ret2
        exact ⟨.slice none 0 0, [], by rw [show otherE _ = 3 from if_pos HP6.out]; rfl, by rw [show otherP _ _ _ = [] from if_pos HP6.out]; rfl, ⟨World.ownsRow_nil _ _ _ _, fun r hr => by simp at hr, by simp⟩, HB3.out⟩
      · have h6' : (((T.length : Int) + 1) == 16) = false := by simp only [List.length_cons] at h6; rw [beq_eq_false_iff_ne]; omega
        have HP6 : Hid (¬ ((kd, av) :: T : List Sg).length = 16) := h6
        clear h6
        go_wp2_with fail
        have HOS := own_seg1 (k := 2) hsX HU.out
        have HBX : Below w.heap.size w (X.alloc (.cells #[.int .i64 2, .slice (some ⟨p, 0, none⟩) 1 1] 48)) := HB3.out.alloc hsX _
        refine (appendSegs_any w.heap.size _ _ _ _ _ HOS (H.out.below HBX) HBX.size (by simp only [List.length_cons, List.length_nil] at h16 ⊢; omega) ⟨w, H.out, HBX, rfl⟩).mono ?_
        rintro e w9 ⟨v9, R9, rfl, hR9, ho9, hb9⟩
        have HB9 := HBX.trans hb9
        clear HOS HBX hb9
        go_wp2
        go_ret2
        exact ⟨v9, R9, by rw [show otherE _ = 0 from if_neg HP6.out]; rfl, by rw [show otherP _ _ _ = _ from if_neg HP6.out]; exact hR9.trans rfl, ho9, HB9⟩
set_option maxRecDepth 100000 in
set_option maxHeartbeats 400000 in
theorem prep_other_true (L : List Sg) (v : Value) (a : Nat) (w : World) (h : PathAt w v L) (hok : okPath L = true) (ha : a < 4294967296) (ha0 : a ≠ 0) (htk : takes 3 L = false) :
    Calls Tryd.prog 27 #[v, .int .u32 (a : Int), .bool true] w fun e w' => PrepOk w (otherP 3 a L) (otherE L) e w' := by
  have H : Hid (PathAt _ _ _) := h
  obtain ⟨ad, b, off, cap, rfl, had, ⟨hcap, hl0⟩, hr⟩ := h
  have HR : Hid (RowS _ _ _ _) := hr
  have h16 : L.length ≤ 16 := by simp only [okPath, Bool.and_eq_true, decide_eq_true_eq] at hok; exact hok.1
  have HK : Hid (okPath L = true) := hok
  have HTK : Hid (takes 3 L = false) := htk
  clear hr hok htk
  have hane : ((a : Int) == 0) = false := by rw [beq_eq_false_iff_ne]; omega
  go_enter Tryd.func27, Tryd.ntmps27
  go_wp2_with fail
  refine (check_any _ L w H.out).mono ?_
  rintro e w1 ⟨rfl, hb1⟩
  rw [show chkOf L = 0 by simp [chkOf, HK.out]]
  have HB1 : Hid (Below _ _ _) := hb1
  have HR1 : Hid (RowS w1 b off L) := HR.out.below hb1
  clear hb1
  go_wp2
  have hba : Below w1.heap.size w1 ((w1.alloc (.cells #[.int .u32 (a : Int)] 23)).alloc (.cells #[.int .i64 3, .slice (some ⟨w1.heap.size, 0, none⟩) 1 1] 48)) := ((Below.refl _ _).alloc (Nat.le_refl _) _).alloc (by simp) _
  have g0 : ((w1.alloc (.cells #[.int .u32 (a : Int)] 23)).alloc (.cells #[.int .i64 3, .slice (some ⟨w1.heap.size, 0, none⟩) 1 1] 48)).cell? ⟨w1.heap.size + 1, 0, none⟩ = some (.int .i64 3) := by
    rw [World.cell?_alloc_at _ _ _ _ (by simp)]; rfl
  have g1 : ((w1.alloc (.cells #[.int .u32 (a : Int)] 23)).alloc (.cells #[.int .i64 3, .slice (some ⟨w1.heap.size, 0, none⟩) 1 1] 48)).cell? ⟨w1.heap.size + 1, 1, none⟩ = some (.slice (some ⟨w1.heap.size, 0, none⟩) 1 1) := by
    rw [World.cell?_alloc_at _ _ _ _ (by simp)]; rfl
  have hh : ((w1.alloc (.cells #[.int .u32 (a : Int)] 23)).alloc (.cells #[.int .i64 3, .slice (some ⟨w1.heap.size, 0, none⟩) 1 1] 48)).heap[w1.heap.size]? = some (.cells #[.int .u32 (a : Int)] 23 (0, 0)) := by
    rw [((Below.refl (w1.heap.size + 1) (w1.alloc (.cells #[.int .u32 (a : Int)] 23))).alloc (by simp) (.cells #[.int .i64 3, .slice (some ⟨w1.heap.size, 0, none⟩) 1 1] 48)).block w1.heap.size (by omega)]
    show (w1.heap.push _)[w1.heap.size]? = _
    simp
  have HBW : Hid (Below w.heap.size w _) := HB1.out.trans (hba.mono HB1.out.size)
  have HRW : Hid (RowS _ b off L) := HR1.out.below hba
  have hpw : w.heap.size ≤ w1.heap.size := HB1.out.size
  generalize (w1.alloc (.cells #[.int .u32 (a : Int)] 23)).alloc (.cells #[.int .i64 3, .slice (some ⟨w1.heap.size, 0, none⟩) 1 1] 48) = W at *
  generalize w1.heap.size = p at *
  have HOW : Hid (OwnU W w.heap.size (.slice (some ⟨p, 0, none⟩) 1 1) [a]) := own_one hpw hh ha
  clear hba hh
  by_cases hnil : L.length = 0
  · have hL : L = [] := List.length_eq_zero_iff.mp hnil
    subst hL
    clear hnil
    go_quiet (fail)
    have HU : Hid (OwnU (W.drewN nq) _ _ _) := HOW.out.below (below_drewN' (Below.refl _ _) nq)
    have HB3 : Hid (Below w.heap.size w (W.drewN nq)) := below_drewN' HBW.out nq
    have x0 : (W.drewN nq).cell? ⟨p + 1, 0, none⟩ = some (.int .i64 3) := g0
    have x1 : (W.drewN nq).cell? ⟨p + 1, 1, none⟩ = some (.slice (some ⟨p, 0, none⟩) 1 1) := g1
    generalize W.drewN nq = X at *
    clear g0 g1 HOW HBW
    have hsX := HB3.out.size
    go_wp2_with fail
    have HOS := own_seg1 (k := 3) hsX HU.out
    have HBX : Below w.heap.size w (X.alloc (.cells #[.int .i64 3, .slice (some ⟨p, 0, none⟩) 1 1] 48)) := HB3.out.alloc hsX _
    refine (appendSegs_any w.heap.size _ _ _ [] _ HOS (H.out.below HBX) HBX.size (by simp) ⟨w, H.out, HBX, rfl⟩).mono ?_
    rintro e w9 ⟨v9, R9, rfl, hR9, ho9, hb9⟩
    have HB9 := HBX.trans hb9
    clear HOS HBX hb9
    go_wp2
    go_ret2
    exact ⟨v9, R9, rfl, hR9.trans rfl, ho9, HB9⟩
  · obtain rfl : ad = some ⟨b, off, none⟩ := by rcases had with h | h; exact h; omega
    obtain ⟨s, T, rfl⟩ : ∃ s T, L = s :: T := by
      cases L with
      | nil => exact absurd rfl hnil
      | cons s T => exact ⟨s, T, rfl⟩
    obtain ⟨e0, va, e1, hva⟩ := HRW.out 0 (by simp)
    have htk : ¬ (s.1 = 3 ∧ s.2.length < 255) := by simpa [takes] using HTK.out
    clear had hnil
    obtain ⟨kd, av⟩ := s
    simp only [List.getElem_cons_zero, Nat.zero_mul, Nat.add_zero] at e0 e1 hva htk
    obtain ⟨ad2, b2, off2, cap2, rfl, had2, _, hr2⟩ := id hva
    clear hva hr2 had2
    by_cases hkd : kd = 3
    · subst hkd
      have hfull : ¬ ((av.length : Int) < 255) := by simp at htk; omega
      clear htk
      go_quiet (fail)
      have HU : Hid (OwnU (W.drewN nq) _ _ _) := HOW.out.below (below_drewN' (Below.refl _ _) nq)
      have HB3 : Hid (Below w.heap.size w (W.drewN nq)) := below_drewN' HBW.out nq
      have x0 : (W.drewN nq).cell? ⟨p + 1, 0, none⟩ = some (.int .i64 3) := g0
      have x1 : (W.drewN nq).cell? ⟨p + 1, 1, none⟩ = some (.slice (some ⟨p, 0, none⟩) 1 1) := g1
      generalize W.drewN nq = X at *
      clear g0 g1 HOW HBW
      have hsX := HB3.out.size
      by_cases h6 : ((3, av) :: T : List Sg).length = 16
      · have h6' : (((T.length : Int) + 1) == 16) = true := by simp only [List.length_cons] at h6; rw [beq_iff_eq]; omega
        have HP6 : Hid (((3, av) :: T : List Sg).length = 16) := h6
        go_wp2
        go_ret2
        exact ⟨.slice none 0 0, [], by rw [show otherE _ = 3 from if_pos HP6.out]; rfl, by rw [show otherP _ _ _ = [] from if_pos HP6.out]; rfl, ⟨World.ownsRow_nil _ _ _ _, fun r hr => by simp at hr, by simp⟩, HB3.out⟩
      · have h6' : (((T.length : Int) + 1) == 16) = false := by simp only [List.length_cons] at h6; rw [beq_eq_false_iff_ne]; omega
        have HP6 : Hid (¬ ((3, av) :: T : List Sg).length = 16) := h6
        clear h6
        go_wp2_with fail
        have HOS := own_seg1 (k := 3) hsX HU.out
        have HBX : Below w.heap.size w (X.alloc (.cells #[.int .i64 3, .slice (some ⟨p, 0, none⟩) 1 1] 48)) := HB3.out.alloc hsX _
        refine (appendSegs_any w.heap.size _ _ _ _ _ HOS (H.out.below HBX) HBX.size (by simp only [List.length_cons, List.length_nil] at h16 ⊢; omega) ⟨w, H.out, HBX, rfl⟩).mono ?_
        rintro e w9 ⟨v9, R9, rfl, hR9, ho9, hb9⟩
        have HB9 := HBX.trans hb9
        clear HOS HBX hb9
        go_wp2
        go_ret2
        exact ⟨v9, R9, by rw [show otherE _ = 0 from if_neg HP6.out]; rfl, by rw [show otherP _ _ _ = _ from if_neg HP6.out]; exact hR9.trans rfl, ho9, HB9⟩
    · clear htk
      go_quiet (fail)
      have HU : Hid (OwnU (W.drewN nq) _ _ _) := HOW.out.below (below_drewN' (Below.refl _ _) nq)
      have HB3 : Hid (Below w.heap.size w (W.drewN nq)) := below_drewN' HBW.out nq
      have x0 : (W.drewN nq).cell? ⟨p + 1, 0, none⟩ = some (.int .i64 3) := g0
      have x1 : (W.drewN nq).cell? ⟨p + 1, 1, none⟩ = some (.slice (some ⟨p, 0, none⟩) 1 1) := g1
      generalize W.drewN nq = X at *
      clear g0 g1 HOW HBW
      have hsX := HB3.out.size
      by_cases h6 : ((kd, av) :: T : List Sg).length = 16
      · have h6' : (((T.length : Int) + 1) == 16) = true := by simp only [List.length_cons] at h6; rw [beq_iff_eq]; omega
        have HP6 : Hid (((kd, av) :: T : List Sg).length = 16) := h6
        go_wp2
        go_ret2
        exact ⟨.slice none 0 0, [], by rw [show otherE _ = 3 from if_pos HP6.out]; rfl, by rw [show otherP _ _ _ = [] from if_pos HP6.out]; rfl, ⟨World.ownsRow_nil _ _ _ _, fun r hr => by simp at hr, by simp⟩, HB3.out⟩
      · have h6' : (((T.length : Int) + 1) == 16) = false := by simp only [List.length_cons] at h6; rw [beq_eq_false_iff_ne]; omega
        have HP6 : Hid (¬ ((kd, av) :: T : List Sg).length = 16) := h6
        clear h6
        go_wp2_with fail
        have HOS := own_seg1 (k := 3) hsX HU.out
        have HBX : Below w.heap.size w (X.alloc (.cells #[.int .i64 3, .slice (some ⟨p, 0, none⟩) 1 1] 48)) := HB3.out.alloc hsX _
        refine (appendSegs_any w.heap.size _ _ _ _ _ HOS (H.out.below HBX) HBX.size (by simp only [List.length_cons, List.length_nil] at h16 ⊢; omega) ⟨w, H.out, HBX, rfl⟩).mono ?_
        rintro e w9 ⟨v9, R9, rfl, hR9, ho9, hb9⟩
        have HB9 := HBX.trans hb9
        clear HOS HBX hb9
        go_wp2
        go_ret2
        exact ⟨v9, R9, by rw [show otherE _ = 0 from if_neg HP6.out]; rfl, by rw [show otherP _ _ _ = _ from if_neg HP6.out]; exact hR9.trans rfl, ho9, HB9⟩
end Go.Proofs.YtbdfigfjoiefiaaDoor
