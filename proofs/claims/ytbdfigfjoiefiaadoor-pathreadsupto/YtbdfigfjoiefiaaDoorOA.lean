/-
  The reference's Prepend.
-/
import Derived.Test.YtbdfigfjoiefiaaDoorN2
import Derived.Test.YtbdfigfjoiefiaaDoorN3
import Derived.Test.YtbdfigfjoiefiaaDoorK1
namespace Go.Proofs.YtbdfigfjoiefiaaDoor
open Go.RowKit
/-- What Prepend of the program leaves. -/
theorem prep_all (v : Value) (L : List Sg) (a : Nat) (conf : Bool) (w : World) (h : PathAt w v L) (ha : a < 4294967296) :
    Calls Tryd.prog 27 #[v, .int .u32 (a : Int), .bool conf] w fun e w' => PrepOk w (prepP L a conf) (prepE L a conf) e w' := by
  by_cases hbad : okPath L = false ∨ a = 0
  · refine (prep_bad v L a conf w h hbad).mono ?_
    rintro e w' ⟨rfl, hb⟩
    exact ⟨_, [], by rw [show prepE L a conf = 2 from if_pos hbad], by rw [show prepP L a conf = [] from if_pos hbad]; rfl, ⟨World.ownsRow_nil _ _ _ _, fun r hr => by simp at hr, by simp⟩, hb⟩
  · have hok : okPath L = true := by cases hq : okPath L with | true => rfl | false => exact absurd (Or.inl hq) hbad
    have ha0 : a ≠ 0 := fun h => hbad (Or.inr h)
    cases htk : takes (kindOf conf) L with
    | true =>
      cases L with
      | nil => simp [takes] at htk
      | cons s T =>
        have hk : s.1 = (kindOf conf : Nat) ∧ s.2.length < 255 := by simpa [takes] using htk
        have e1 : prepP (s :: T) a conf = ((kindOf conf : Int), a :: s.2) :: T := by unfold prepP; rw [if_neg hbad, if_pos htk]
        have e2 : prepE (s :: T) a conf = 0 := by unfold prepE; rw [if_neg hbad, if_pos htk]
        rw [e1, e2]
        cases conf with
        | true => exact prep_takes_true s T v a w h hok ha ha0 hk.1 hk.2
        | false => exact prep_takes_false s T v a w h hok ha ha0 hk.1 hk.2
    | false =>
      have e1 : prepP L a conf = otherP (kindOf conf : Nat) a L := by unfold prepP otherP; rw [if_neg hbad, if_neg (by rw [htk]; simp)]
      have e2 : prepE L a conf = otherE L := by unfold prepE otherE; rw [if_neg hbad, if_neg (by rw [htk]; simp)]
      rw [e1, e2]
      cases conf with
      | true => exact prep_other_true L v a w h hok ha ha0 htk
      | false => exact prep_other_false L v a w h hok ha ha0 htk
/-- What Prepend of the reference leaves. -/
def RPrepOk (w : World) (P : List Sg) (err : Int) (e : Ending) (w' : World) : Prop := ∃ v', e = .returned (.tuple #[v', .int .i64 err]) ∧ PathAt w' v' P ∧ Below w.heap.size w w'
theorem pathAt_nil (w : World) : PathAt w (.slice none 0 0) [] := ⟨none, 0, 0, 0, rfl, Or.inr rfl, by simp, fun j hj => by simp at hj⟩
theorem rprep_bad (v : Value) (L : List Sg) (a : Nat) (conf : Bool) (w : World) (h : PathAt w v L) (hbad : okPath L = false ∨ a = 0) :
    Calls Tryd.prog 28 #[v, .int .u32 (a : Int), .bool conf] w fun e w' => RPrepOk w [] 2 e w' := by
  have H : Hid (PathAt _ _ _) := h
  obtain ⟨ad, b, off, cap, rfl, h2⟩ := h
  clear h2
  cases hok : okPath L with
  | false =>
    go_enter Tryd.func28, Tryd.ntmps28
    go_wp2_with fail
    refine (rcheck_any _ L w H.out).mono ?_
    rintro e w1 ⟨rfl, rfl⟩
    rw [show chkOf L = 2 by simp [chkOf, hok]]
    go_wp2
    go_ret2
    exact ⟨_, rfl, pathAt_nil _, Below.refl _ _⟩
  | true =>
    obtain rfl : a = 0 := by rcases hbad with h | h; rw [hok] at h; cases h; exact h
    go_enter Tryd.func28, Tryd.ntmps28
    go_wp2_with fail
    refine (rcheck_any _ L w H.out).mono ?_
    rintro e w1 ⟨rfl, rfl⟩
    rw [show chkOf L = 0 by simp [chkOf, hok]]
    go_wp2
    go_ret2
    exact ⟨_, rfl, pathAt_nil _, Below.refl _ _⟩
/-- The cells of a path that lies in rows of its own. -/
theorem OwnS.cells {w : World} {base g n cap : Nat} {R : List Sv} (h : OwnS w base (.slice (some ⟨g, 0, none⟩) n cap) R) (i : Nat) (hi : i < R.length) : w.cell? ⟨g, i * 2, none⟩ = some (.int .i64 R[i].1) ∧ w.cell? ⟨g, i * 2 + 1, none⟩ = some R[i].2.1 := by
  obtain ⟨⟨hn, hv⟩, hx, hl⟩ := h
  rcases hv with ⟨h0, _⟩ | ⟨g', cap', cur, e, hg, hh, hc, hm, hs, ht⟩
  · simp at h0
  · simp only [Value.slice.injEq, Option.some.injEq, Addr.mk.injEq, and_true] at e
    obtain ⟨rfl, rfl, rfl⟩ := e
    have e : ∀ i, i < R.length * 2 → cur.toList[i]? = (cellsS R)[i]? := fun i hi => by
      have : (cur.toList.take (R.length * 2))[i]? = (cellsS R)[i]? := by rw [ht]
      rwa [List.getElem?_take, if_pos hi] at this
    have hk := cellsS_at R i hi
    exact ⟨cell_of_row hh _ _ (by rw [e _ (by omega)]; exact hk.1), cell_of_row hh _ _ (by rw [e _ (by omega)]; exact hk.2)⟩
theorem OwnU.set {w : World} {base : Nat} {u : Value} {l : List Nat} (h : OwnU w base u l) {b : Nat} (hb : ∀ g, u.ownBlock = some g → g ≠ b) (i : Nat) (x : Value) : OwnU (w.setCell ⟨b, i, none⟩ x) base u l := ⟨owns_set h.1 hb i x, h.2⟩
/-- Rows of ASs lie apart from the row of segments. -/
theorem OwnU.apart {w : World} {base base' g n cap m : Nat} {xs : List Value} {u : Value} {l : List Nat} (h : OwnU w base u l) (hs : w.ownsRow base' 48 2 (.slice (some ⟨g, 0, none⟩) n cap) m xs) : ∀ g', u.ownBlock = some g' → g' ≠ g := by
  intro g' hg' e
  rcases owns_apart h.1 hs (by decide) with h0 | h0
  · rw [h0] at hg'; cases hg'
  · exact h0 (by rw [hg', e]; rfl)
/-- The ASs of the first segment are changed. -/
theorem OwnS.setFirst {w : World} {base base' g n cap : Nat} {k : Int} {u u' : Value} {l l' : List Nat} {R : List Sv} (h : OwnS w base (.slice (some ⟨g, 0, none⟩) n cap) ((k, u, l) :: R)) (hu : OwnU w base' u' l') :
    PathAt (w.setCell ⟨g, 1, none⟩ u') (.slice (some ⟨g, 0, none⟩) n cap) ((k, l') :: sgs R) := by
  have hn : n = R.length + 1 ∧ R.length + 1 ≤ cap := by
    obtain ⟨⟨_, hv⟩, _, _⟩ := h
    rcases hv with ⟨h0, _⟩ | ⟨g', cap', cur, e, hg, hh, hc, hm, hs, ht⟩
    · simp at h0
    · simp only [Value.slice.injEq] at e
      obtain ⟨_, rfl, rfl⟩ := e
      exact ⟨rfl, hc⟩
  have h0 := h.cells 0 (by simp)
  refine ⟨some ⟨g, 0, none⟩, g, 0, cap, by rw [hn.1]; simp [sgs], Or.inl rfl, ⟨by simpa [sgs] using hn.2, by have := h.2.2; simpa [sgs] using this⟩, fun i hi => ?_⟩
  cases i with
  | zero =>
    refine ⟨?_, u', ?_, ?_⟩
    · rw [World.cell?_setCell_other _ _ _ _ (by simp)]
      simpa using h0.1
    · exact World.cell?_setCell_same _ _ _ (by simpa using h0.2)
    · exact (hu.set (hu.apart h.1) 1 u').at
  | succ i =>
    have hi' : i < R.length := by simpa [sgs] using hi
    have hc := h.cells (i + 1) (by simpa using hi')
    have hr := h.2.1 R[i] (by simp)
    have e : ((k, l') :: sgs R)[i + 1] = (R[i].1, R[i].2.2) := by simp [sgs]
    rw [e]
    refine ⟨?_, R[i].2.1, ?_, ?_⟩
    · rw [World.cell?_setCell_other _ _ _ _ (by simp)]
      simpa using hc.1
    · rw [World.cell?_setCell_other _ _ _ _ (by simp)]
      simpa using hc.2
    · exact (hr.set (hr.apart h.1) 1 u').at
/-- Where the rows of a path of one segment and more lie. -/
theorem OwnS.open {w : World} {base : Nat} {v : Value} {r : Sv} {R : List Sv} (h : OwnS w base v (r :: R)) :
    ∃ g cap cur, v = .slice (some ⟨g, 0, none⟩) (R.length + 1) cap ∧ base ≤ g ∧ w.heap[g]? = some (.cells cur 48 (0, 0)) ∧ R.length + 1 ≤ cap ∧ cur.size = cap * 2 ∧ cur.toList.take ((R.length + 1) * 2) = cellsS (r :: R) := by
  obtain ⟨⟨hn, hv⟩, _, _⟩ := h
  rcases hv with ⟨_, h0⟩ | ⟨g, cap, cur, rfl, hg, hh, hc, hm, hs, ht⟩
  · simp at h0
  · exact ⟨g, cap, cur, rfl, hg, hh, hc, hs, ht⟩
set_option maxRecDepth 100000 in
set_option maxHeartbeats 1600000 in
theorem rprep_takes_false (s : Sg) (T : List Sg) (v : Value) (a : Nat) (w : World) (h : PathAt w v (s :: T)) (hok : okPath (s :: T) = true) (ha : a < 4294967296) (ha0 : a ≠ 0) (hs : s.1 = 2) (hl : s.2.length < 255) :
    Calls Tryd.prog 28 #[v, .int .u32 (a : Int), .bool false] w fun e w' => RPrepOk w ((2, a :: s.2) :: T) 0 e w' := by
  obtain ⟨i0, hi, hz0, hz1, hz2⟩ := info_parts info23
  have H : Hid (PathAt _ _ _) := h
  obtain ⟨ad, b, off, cap, rfl, h2⟩ := h
  have HK : Hid (okPath (s :: T) = true) := hok
  clear h2 hok
  have hane : ((a : Int) == 0) = false := by rw [beq_eq_false_iff_ne]; omega
  have hav : 0 < s.2.length := by
    have hk := HK.out
    simp only [okPath, Bool.and_eq_true, List.all_eq_true] at hk
    have := (okSeg_iff _).mp (hk.2 _ (List.mem_cons_self ..))
    exact this.2.2.1
  go_enter Tryd.func28, Tryd.ntmps28
  go_wp2_with fail
  refine (rcheck_any _ (s :: T) w H.out).mono ?_
  rintro e w1 ⟨rfl, hw⟩
  obtain rfl : w = w1 := hw.symm
  clear hw
  rw [show chkOf (s :: T) = 0 by simp [chkOf, HK.out]]
  go_wp2_with fail
  refine (ownAll_any _ (s :: T) w H.out).mono ?_
  rintro e w2 ⟨v2, R2, rfl, hR, ho, hb2⟩
  obtain ⟨r, R, rfl⟩ : ∃ r R, R2 = r :: R := by
    cases R2 with
    | nil => simp [sgs] at hR
    | cons r R => exact ⟨r, R, rfl⟩
  obtain ⟨k0, u0, l0⟩ := r
  simp only [sgs, List.map_cons, List.cons.injEq] at hR
  obtain ⟨hs0, hT⟩ := hR
  obtain ⟨g, cap2, cur, rfl, hg, hh, hc, hsz, ht⟩ := ho.open
  subst hs0
  simp only at hs hl hav
  subst hs
  have hu := ho.2.1 (2, u0, l0) (by simp)
  simp only at hu
  obtain ⟨ad3, b3, off3, c3, rfl, had3, ⟨hc3, hl3⟩, hr3⟩ := hu.at
  obtain rfl : ad3 = some ⟨b3, off3, none⟩ := by rcases had3 with h | h; exact h; omega
  have x0 := (ho.cells 0 (by simp)).1
  have x1 := (ho.cells 0 (by simp)).2
  simp only [Nat.zero_mul, List.getElem_cons_zero, Nat.zero_add] at x0 x1
  have hsz2 := hb2.size
  have gf : w2.frozen? ⟨g, 1, none⟩ = false := by simp [World.frozen?, hh]
  have hgl : g < w2.heap.size := lt_of_cell x0
  have HO : Hid (OwnS _ _ _ _) := ho
  have HB2 : Hid (Below _ _ _) := hb2
  have HRU : Hid (RowU _ _ _ _) := hr3
  have HLT : Hid (∀ x ∈ l0, x < 4294967296) := hu.2.1
  have HTT : Hid (sgs R = T) := hT
  clear ho hb2 hr3 hu hT had3 ht hh hsz
  have hba : Below w2.heap.size w2 (w2.alloc (.cells #[.int .u32 (a : Int)] 23)) := (Below.refl _ _).alloc (Nat.le_refl _) _
  have HN : Hid (∀ (j : Nat) (u : Value), (cellsU l0)[j]? = some u → (w2.alloc (.cells #[.int .u32 (a : Int)] 23)).cell? (Addr.add ⟨b3, off3, none⟩ j) = some u) := cellsU_at (HRU.out.below hba)
  have HO1 : Hid (OwnU (w2.alloc (.cells #[.int .u32 (a : Int)] 23)) w2.heap.size (.slice (some ⟨w2.heap.size, 0, none⟩) 1 1) [a]) := own_one (Nat.le_refl _) (heap_at_new _ _) ha
  have y1 : ∀ o, (w2.alloc o).cell? ⟨g, 1, none⟩ = some (.slice (some ⟨b3, off3, none⟩) l0.length c3) := fun o => below_cell ((Below.refl _ _).alloc (Nat.le_refl _) o) x1
  have hl0' : (l0.length : Int) < 255 := by omega
  go_wp2_with (at_builtin; refine wpList_append_own _ rfl _ _ 31 rfl w2.heap.size 23 i0 (.int .u32 0) 1 4 Tryd.underlying31 hi hz0 hz1 hz2 rfl (by decide) (.slice (some ⟨w2.heap.size, 0, none⟩) 1 1) 1 [.int .u32 (a : Int)] rfl HO1.out.1 ⟨b3, off3, none⟩ l0.length c3 (cellsU l0) rfl (by simp [cellsU]) HN.out (cellsU_one l0) (by unfold maxLen; omega) (by omega) (by simp) ?_; intro v3 w3 hown3 hgrow3 _; obtain ⟨ad5, c5, rfl⟩ := slice_of_owns hown3; have hb3 : Below w2.heap.size w2 w3 := hba.grown hgrow3 (by simp) (by intro k hk; simp [Value.ownBlock] at hk; omega); have z1 := below_cell hb3 x1; have zf : w3.frozen? ⟨g, 1, none⟩ = false := by rw [hb3.frozen (p := ⟨g, 1, none⟩) hgl]; exact gf)
  have hown4 : OwnU w3 w2.heap.size (.slice ad5 (1 + l0.length) c5) (a :: l0) := ⟨by
    rw [show (a :: l0).length = 1 + l0.length by simp; omega]
    exact hown3, by
    intro x hx
    rcases List.mem_cons.mp hx with h | h
    · rw [h]; exact ha
    · exact HLT.out x h, by simp; omega⟩
  have HP : Hid (PathAt (w3.setCell ⟨g, 1, none⟩ (.slice ad5 (1 + l0.length) c5)) (.slice (some ⟨g, 0, none⟩) (R.length + 1) cap2) ((2, a :: l0) :: sgs R)) := (HO.out.below hb3).setFirst hown4
  have HB4 : Hid (Below w.heap.size w (w3.setCell ⟨g, 1, none⟩ (.slice ad5 (1 + l0.length) c5))) := (HB2.out.trans (hb3.mono hsz2)).setCell (by exact hg) _
  clear hown3 hgrow3 hown4 hb3
  go_wp2
  go_ret2
  exact ⟨_, rfl, by have := HP.out; rw [HTT.out] at this; exact this, HB4.out⟩
end Go.Proofs.YtbdfigfjoiefiaaDoor

namespace Go.Proofs.YtbdfigfjoiefiaaDoor
open Go.RowKit
theorem OwnS.oneCell {w : World} {base : Nat} {v : Value} {R : List Sv} (h : OwnS w base v R) : ∀ u ∈ cellsS R, u.oneCell' = true := by
  intro u hu
  simp only [cellsS, List.mem_flatMap] at hu
  obtain ⟨r, hr, hu⟩ := hu
  obtain ⟨ad, c, e⟩ := slice_of_owns (h.2.1 r hr).1
  simp at hu
  rcases hu with rfl | rfl
  · rfl
  · rw [e]; rfl
/-- Segments put behind one. -/
theorem OwnS.join {w w' : World} {base : Nat} {v v' vo : Value} {k : Int} {u : Value} {l : List Nat} {R : List Sv} {n : Nat} (h : OwnS w base v [(k, u, l)]) (ho : OwnS w base vo R)
    (h' : w'.ownsRow base 48 2 v' (1 + n) ([.int .i64 k, u] ++ cellsS R)) (hg : w.grownBy w' v.ownBlock) (hn : n = R.length ∧ R.length + 1 ≤ 4398046511104) : OwnS w' base v' ((k, u, l) :: R) := by
  obtain ⟨rfl, hn⟩ := hn
  refine ⟨by rw [show ((k, u, l) :: R).length = 1 + R.length by simp; omega]; exact h', fun r hr => ?_, by simpa using hn⟩
  rcases List.mem_cons.mp hr with rfl | hr
  · exact (h.2.1 _ (by simp)).grown h.1 hg
  · exact (ho.2.1 r hr).grown h.1 hg
set_option maxRecDepth 100000 in
set_option maxHeartbeats 1600000 in
theorem rprep_takes_true (s : Sg) (T : List Sg) (v : Value) (a : Nat) (w : World) (h : PathAt w v (s :: T)) (hok : okPath (s :: T) = true) (ha : a < 4294967296) (ha0 : a ≠ 0) (hs : s.1 = 3) (hl : s.2.length < 255) :
    Calls Tryd.prog 28 #[v, .int .u32 (a : Int), .bool true] w fun e w' => RPrepOk w ((3, a :: s.2) :: T) 0 e w' := by
  obtain ⟨i0, hi, hz0, hz1, hz2⟩ := info_parts info23
  have H : Hid (PathAt _ _ _) := h
  obtain ⟨ad, b, off, cap, rfl, h2⟩ := h
  have HK : Hid (okPath (s :: T) = true) := hok
  clear h2 hok
  have hane : ((a : Int) == 0) = false := by rw [beq_eq_false_iff_ne]; omega
  have hav : 0 < s.2.length := by
    have hk := HK.out
    simp only [okPath, Bool.and_eq_true, List.all_eq_true] at hk
    have := (okSeg_iff _).mp (hk.2 _ (List.mem_cons_self ..))
    exact this.2.2.1
  go_enter Tryd.func28, Tryd.ntmps28
  go_wp2_with fail
  refine (rcheck_any _ (s :: T) w H.out).mono ?_
  rintro e w1 ⟨rfl, hw⟩
  obtain rfl : w = w1 := hw.symm
  clear hw
  rw [show chkOf (s :: T) = 0 by simp [chkOf, HK.out]]
  go_wp2_with fail
  refine (ownAll_any _ (s :: T) w H.out).mono ?_
  rintro e w2 ⟨v2, R2, rfl, hR, ho, hb2⟩
  obtain ⟨r, R, rfl⟩ : ∃ r R, R2 = r :: R := by
    cases R2 with
    | nil => simp [sgs] at hR
    | cons r R => exact ⟨r, R, rfl⟩
  obtain ⟨k0, u0, l0⟩ := r
  simp only [sgs, List.map_cons, List.cons.injEq] at hR
  obtain ⟨hs0, hT⟩ := hR
  obtain ⟨g, cap2, cur, rfl, hg, hh, hc, hsz, ht⟩ := ho.open
  subst hs0
  simp only at hs hl hav
  subst hs
  have hu := ho.2.1 (3, u0, l0) (by simp)
  simp only at hu
  obtain ⟨ad3, b3, off3, c3, rfl, had3, ⟨hc3, hl3⟩, hr3⟩ := hu.at
  obtain rfl : ad3 = some ⟨b3, off3, none⟩ := by rcases had3 with h | h; exact h; omega
  have x0 := (ho.cells 0 (by simp)).1
  have x1 := (ho.cells 0 (by simp)).2
  simp only [Nat.zero_mul, List.getElem_cons_zero, Nat.zero_add] at x0 x1
  have hsz2 := hb2.size
  have gf : w2.frozen? ⟨g, 1, none⟩ = false := by simp [World.frozen?, hh]
  have hgl : g < w2.heap.size := lt_of_cell x0
  have HO : Hid (OwnS _ _ _ _) := ho
  have HB2 : Hid (Below _ _ _) := hb2
  have HRU : Hid (RowU _ _ _ _) := hr3
  have HLT : Hid (∀ x ∈ l0, x < 4294967296) := hu.2.1
  have HTT : Hid (sgs R = T) := hT
  clear ho hb2 hr3 hu hT had3 ht hh hsz
  have hba : Below w2.heap.size w2 (w2.alloc (.cells #[.int .u32 (a : Int)] 23)) := (Below.refl _ _).alloc (Nat.le_refl _) _
  have HN : Hid (∀ (j : Nat) (u : Value), (cellsU l0)[j]? = some u → (w2.alloc (.cells #[.int .u32 (a : Int)] 23)).cell? (Addr.add ⟨b3, off3, none⟩ j) = some u) := cellsU_at (HRU.out.below hba)
  have HO1 : Hid (OwnU (w2.alloc (.cells #[.int .u32 (a : Int)] 23)) w2.heap.size (.slice (some ⟨w2.heap.size, 0, none⟩) 1 1) [a]) := own_one (Nat.le_refl _) (heap_at_new _ _) ha
  have y1 : ∀ o, (w2.alloc o).cell? ⟨g, 1, none⟩ = some (.slice (some ⟨b3, off3, none⟩) l0.length c3) := fun o => below_cell ((Below.refl _ _).alloc (Nat.le_refl _) o) x1
  have hl0' : (l0.length : Int) < 255 := by omega
  go_wp2_with (at_builtin; refine wpList_append_own _ rfl _ _ 31 rfl w2.heap.size 23 i0 (.int .u32 0) 1 4 Tryd.underlying31 hi hz0 hz1 hz2 rfl (by decide) (.slice (some ⟨w2.heap.size, 0, none⟩) 1 1) 1 [.int .u32 (a : Int)] rfl HO1.out.1 ⟨b3, off3, none⟩ l0.length c3 (cellsU l0) rfl (by simp [cellsU]) HN.out (cellsU_one l0) (by unfold maxLen; omega) (by omega) (by simp) ?_; intro v3 w3 hown3 hgrow3 _; obtain ⟨ad5, c5, rfl⟩ := slice_of_owns hown3; have hb3 : Below w2.heap.size w2 w3 := hba.grown hgrow3 (by simp) (by intro k hk; simp [Value.ownBlock] at hk; omega); have z1 := below_cell hb3 x1; have zf : w3.frozen? ⟨g, 1, none⟩ = false := by rw [hb3.frozen (p := ⟨g, 1, none⟩) hgl]; exact gf)
  have hown4 : OwnU w3 w2.heap.size (.slice ad5 (1 + l0.length) c5) (a :: l0) := ⟨by
    rw [show (a :: l0).length = 1 + l0.length by simp; omega]
    exact hown3, by
    intro x hx
    rcases List.mem_cons.mp hx with h | h
    · rw [h]; exact ha
    · exact HLT.out x h, by simp; omega⟩
  have HP : Hid (PathAt (w3.setCell ⟨g, 1, none⟩ (.slice ad5 (1 + l0.length) c5)) (.slice (some ⟨g, 0, none⟩) (R.length + 1) cap2) ((3, a :: l0) :: sgs R)) := (HO.out.below hb3).setFirst hown4
  have HB4 : Hid (Below w.heap.size w (w3.setCell ⟨g, 1, none⟩ (.slice ad5 (1 + l0.length) c5))) := (HB2.out.trans (hb3.mono hsz2)).setCell (by exact hg) _
  clear hown3 hgrow3 hown4 hb3
  go_wp2
  go_ret2
  exact ⟨_, rfl, by have := HP.out; rw [HTT.out] at this; exact this, HB4.out⟩
set_option maxRecDepth 100000 in
set_option maxHeartbeats 1600000 in
theorem rprep_other_false (L : List Sg) (v : Value) (a : Nat) (w : World) (h : PathAt w v L) (hok : okPath L = true) (ha : a < 4294967296) (ha0 : a ≠ 0) (htk : takes 2 L = false) :
    Calls Tryd.prog 28 #[v, .int .u32 (a : Int), .bool false] w fun e w' => RPrepOk w (otherP 2 a L) (otherE L) e w' := by
  obtain ⟨i0, hi, hz0, hz1, hz2⟩ := info_parts info48
  have H : Hid (PathAt _ _ _) := h
  obtain ⟨ad, b, off, cap, rfl, h2⟩ := h
  have HK : Hid (okPath L = true) := hok
  have h16 : L.length ≤ 16 := by simp only [okPath, Bool.and_eq_true, decide_eq_true_eq] at hok; exact hok.1
  have HTK : Hid (takes 2 L = false) := htk
  clear h2 hok htk
  have hane : ((a : Int) == 0) = false := by rw [beq_eq_false_iff_ne]; omega
  go_enter Tryd.func28, Tryd.ntmps28
  go_wp2_with fail
  refine (rcheck_any _ L w H.out).mono ?_
  rintro e w1 ⟨rfl, hw⟩
  obtain rfl : w = w1 := hw.symm
  clear hw
  rw [show chkOf L = 0 by simp [chkOf, HK.out]]
  go_wp2_with fail
  refine (ownAll_any _ L w H.out).mono ?_
  rintro e w2 ⟨v2, R, rfl, hR, ho, hb2⟩
  have hlen : R.length = L.length := by rw [← hR, sgs_length]
  have hsz2 := hb2.size
  have HO : Hid (OwnS _ _ _ _) := ho
  have HB2 : Hid (Below _ _ _) := hb2
  have HRL : Hid (sgs R = L) := hR
  obtain ⟨ad3, c3, rfl⟩ := slice_of_owns ho.1
  cases ad3 with
  | none =>
    obtain rfl : R = [] := by
      obtain ⟨⟨_, hv⟩, _, _⟩ := ho
      rcases hv with ⟨_, h0⟩ | ⟨g', cap', cur, e, _⟩
      · exact List.length_eq_zero_iff.mp h0
      · simp at e
    obtain rfl : L = [] := by rw [← hR]; rfl
    clear ho hb2 hR hlen
    go_wp2
    go_ret2
    exact ⟨_, rfl, by
      have hq := (own_seg1 (w := w2.alloc (.cells #[.int .u32 (a : Int)] 23)) (k := 2) (Nat.zero_le _) (own_one (Nat.zero_le _) (heap_at_new _ _) ha)).at
      rw [World.size_alloc] at hq
      exact hq, (HB2.out.alloc hsz2 _).alloc (Nat.le_trans hsz2 (by simp)) _⟩
  | some a3 =>
    obtain ⟨g, rfl⟩ : ∃ g, a3 = ⟨g, 0, none⟩ := by
      obtain ⟨⟨_, hv⟩, _, _⟩ := ho
      rcases hv with ⟨h0, _⟩ | ⟨g', cap', cur, e, _⟩
      · simp at h0
      · simp only [Value.slice.injEq, Option.some.injEq] at e
        exact ⟨g', e.1⟩
    cases R with
    | nil =>
      obtain rfl : L = [] := by rw [← hR]; rfl
      clear ho hb2 hR hlen
      have HU1 : OwnU (w2.alloc (.cells #[.int .u32 (a : Int)] 23)) w.heap.size (.slice (some ⟨w2.heap.size, 0, none⟩) 1 1) [a] := own_one hsz2 (heap_at_new _ _) ha
      have HW : Hid (OwnS _ w.heap.size _ [(2, .slice (some ⟨w2.heap.size, 0, none⟩) 1 1, [a])]) := own_seg1 (w := w2.alloc (.cells #[.int .u32 (a : Int)] 23)) (k := 2) (Nat.le_trans hsz2 (by simp)) HU1
      rw [World.size_alloc] at HW
      have hbw : Below w2.heap.size w2 ((w2.alloc (.cells #[.int .u32 (a : Int)] 23)).alloc (.cells #[.int .i64 2, .slice (some ⟨w2.heap.size, 0, none⟩) 1 1] 48)) := ((Below.refl _ _).alloc (Nat.le_refl _) _).alloc (by simp) _
      have HOW : Hid (OwnS _ w.heap.size _ []) := HO.out.below hbw
      have HBW : Hid (Below w.heap.size w _) := HB2.out.trans (hbw.mono hsz2)
      have hbs : w.heap.size ≤ ((w2.alloc (.cells #[.int .u32 (a : Int)] 23)).alloc (.cells #[.int .i64 2, .slice (some ⟨w2.heap.size, 0, none⟩) 1 1] 48)).heap.size := HBW.out.size
      have HN : Hid (∀ (j : Nat) (u : Value), (cellsS [])[j]? = some u → ((w2.alloc (.cells #[.int .u32 (a : Int)] 23)).alloc (.cells #[.int .i64 2, .slice (some ⟨w2.heap.size, 0, none⟩) 1 1] 48)).cell? (Addr.add ⟨g, 0, none⟩ j) = some u) := fun j u hj => HOW.out.1.cells rfl j u hj
      have H1C : Hid (∀ u ∈ cellsS [], u.oneCell' = true) := HO.out.oneCell
      clear HU1 hbw
      go_wp2_with (at_builtin; refine wpList_append_own _ rfl _ _ 22 rfl w.heap.size 48 i0 (.agg #[.int .i64 0, .slice none 0 0]) 2 32 Tryd.underlying22 hi hz0 hz1 hz2 rfl (by decide) (.slice (some ⟨w2.heap.size + 1, 0, none⟩) 1 1) 1 [.int .i64 2, .slice (some ⟨w2.heap.size, 0, none⟩) 1 1] rfl HW.out.1 ⟨g, 0, none⟩ 0 c3 (cellsS []) rfl (by simp [cellsS]) HN.out H1C.out (by unfold maxLen; omega) (by omega) hbs ?_; intro v3 w3 hown3 hgrow3 _; obtain ⟨ad5, c5, rfl⟩ := slice_of_owns hown3)
      have HP : Hid (PathAt w3 (.slice ad5 (1 + 0) c5) ((2, [a]) :: sgs [])) := (OwnS.join HW.out HOW.out hown3 hgrow3 ⟨by simp, by simp⟩).at
      have HB4 : Hid (Below w.heap.size w w3) := HBW.out.grown hgrow3 hbs (fun j e => (HW.out.1.lt j e).1)
      clear hown3 hgrow3
      go_wp2
      go_ret2
      exact ⟨_, rfl, HP.out, HB4.out⟩
    | cons r R =>
      obtain ⟨k0, u0, l0⟩ := r
      have x0 := (ho.cells 0 (by simp)).1
      have x1 := (ho.cells 0 (by simp)).2
      simp only [Nat.zero_mul, List.getElem_cons_zero, Nat.zero_add] at x0 x1
      have hu := ho.2.1 (k0, u0, l0) (by simp)
      simp only at hu
      have hull := hu.2.2
      obtain ⟨ad4, c4, rfl⟩ := slice_of_owns hu.1
      subst hR
      have htk : ¬ (k0 = 2 ∧ l0.length < 255) := by simpa [takes, sgs] using HTK.out
      rw [sgs_length] at h16
      simp only [List.length_cons] at h16
      clear ho hb2 hu hlen
      by_cases hkd : k0 = 2
      · subst hkd
        have hfull : ¬ ((l0.length : Int) < 255) := by simp at htk; omega
        clear htk
        by_cases h6 : R.length + 1 = 16
        · have h6' : (16 : Int) ≤ (R.length : Int) + 1 := by omega
          have HP6 : Hid ((sgs ((2, .slice ad4 l0.length c4, l0) :: R)).length = 16) := by unfold Hid; rw [sgs_length]; exact h6
          clear h6
          go_wp2
          go_ret2
          exact ⟨.slice none 0 0, by rw [show otherE _ = 3 from if_pos HP6.out]; rfl, by rw [show otherP _ _ _ = [] from if_pos HP6.out]; exact pathAt_nil _, HB2.out⟩
        · have h6' : ¬ ((16 : Int) ≤ (R.length : Int) + 1) := by omega
          have HP6 : Hid (¬ (sgs ((2, .slice ad4 l0.length c4, l0) :: R)).length = 16) := by unfold Hid; rw [sgs_length]; exact h6
          clear h6
          have HU1 : OwnU (w2.alloc (.cells #[.int .u32 (a : Int)] 23)) w.heap.size (.slice (some ⟨w2.heap.size, 0, none⟩) 1 1) [a] := own_one hsz2 (heap_at_new _ _) ha
          have HW : Hid (OwnS _ w.heap.size _ [(2, .slice (some ⟨w2.heap.size, 0, none⟩) 1 1, [a])]) := own_seg1 (w := w2.alloc (.cells #[.int .u32 (a : Int)] 23)) (k := 2) (Nat.le_trans hsz2 (by simp)) HU1
          rw [World.size_alloc] at HW
          have hbw : Below w2.heap.size w2 ((w2.alloc (.cells #[.int .u32 (a : Int)] 23)).alloc (.cells #[.int .i64 2, .slice (some ⟨w2.heap.size, 0, none⟩) 1 1] 48)) := ((Below.refl _ _).alloc (Nat.le_refl _) _).alloc (by simp) _
          have HOW : Hid (OwnS _ w.heap.size _ ((2, .slice ad4 l0.length c4, l0) :: R)) := HO.out.below hbw
          have HBW : Hid (Below w.heap.size w _) := HB2.out.trans (hbw.mono hsz2)
          have hbs : w.heap.size ≤ ((w2.alloc (.cells #[.int .u32 (a : Int)] 23)).alloc (.cells #[.int .i64 2, .slice (some ⟨w2.heap.size, 0, none⟩) 1 1] 48)).heap.size := HBW.out.size
          have HN : Hid (∀ (j : Nat) (u : Value), (cellsS ((2, .slice ad4 l0.length c4, l0) :: R))[j]? = some u → ((w2.alloc (.cells #[.int .u32 (a : Int)] 23)).alloc (.cells #[.int .i64 2, .slice (some ⟨w2.heap.size, 0, none⟩) 1 1] 48)).cell? (Addr.add ⟨g, 0, none⟩ j) = some u) := fun j u hj => HOW.out.1.cells rfl j u hj
          have H1C : Hid (∀ u ∈ cellsS ((2, .slice ad4 l0.length c4, l0) :: R), u.oneCell' = true) := HO.out.oneCell
          clear HU1 hbw
          go_wp2_with (at_builtin; refine wpList_append_own _ rfl _ _ 22 rfl w.heap.size 48 i0 (.agg #[.int .i64 0, .slice none 0 0]) 2 32 Tryd.underlying22 hi hz0 hz1 hz2 rfl (by decide) (.slice (some ⟨w2.heap.size + 1, 0, none⟩) 1 1) 1 [.int .i64 2, .slice (some ⟨w2.heap.size, 0, none⟩) 1 1] rfl HW.out.1 ⟨g, 0, none⟩ (R.length + 1) c3 (cellsS ((2, .slice ad4 l0.length c4, l0) :: R)) rfl (by rw [cellsS_length]; simp) HN.out H1C.out (by unfold maxLen; omega) (by omega) hbs ?_; intro v3 w3 hown3 hgrow3 _; obtain ⟨ad5, c5, rfl⟩ := slice_of_owns hown3)
          have HP : Hid (PathAt w3 (.slice ad5 (1 + (R.length + 1)) c5) ((2, [a]) :: sgs ((2, .slice ad4 l0.length c4, l0) :: R))) := (OwnS.join HW.out HOW.out hown3 hgrow3 ⟨by simp, by have := HO.out.2.2; simp at this ⊢; omega⟩).at
          have HB4 : Hid (Below w.heap.size w w3) := HBW.out.grown hgrow3 hbs (fun j e => (HW.out.1.lt j e).1)
          clear hown3 hgrow3
          go_wp2
          go_ret2
          exact ⟨_, by rw [show otherE _ = 0 from if_neg HP6.out]; rfl, by rw [show otherP _ _ _ = _ from if_neg HP6.out]; exact HP.out, HB4.out⟩
      · clear htk
        by_cases h6 : R.length + 1 = 16
        · have h6' : (16 : Int) ≤ (R.length : Int) + 1 := by omega
          have HP6 : Hid ((sgs ((k0, .slice ad4 l0.length c4, l0) :: R)).length = 16) := by unfold Hid; rw [sgs_length]; exact h6
          clear h6
          go_wp2
          go_ret2
          exact ⟨.slice none 0 0, by rw [show otherE _ = 3 from if_pos HP6.out]; rfl, by rw [show otherP _ _ _ = [] from if_pos HP6.out]; exact pathAt_nil _, HB2.out⟩
        · have h6' : ¬ ((16 : Int) ≤ (R.length : Int) + 1) := by omega
          have HP6 : Hid (¬ (sgs ((k0, .slice ad4 l0.length c4, l0) :: R)).length = 16) := by unfold Hid; rw [sgs_length]; exact h6
          clear h6
          have HU1 : OwnU (w2.alloc (.cells #[.int .u32 (a : Int)] 23)) w.heap.size (.slice (some ⟨w2.heap.size, 0, none⟩) 1 1) [a] := own_one hsz2 (heap_at_new _ _) ha
          have HW : Hid (OwnS _ w.heap.size _ [(2, .slice (some ⟨w2.heap.size, 0, none⟩) 1 1, [a])]) := own_seg1 (w := w2.alloc (.cells #[.int .u32 (a : Int)] 23)) (k := 2) (Nat.le_trans hsz2 (by simp)) HU1
          rw [World.size_alloc] at HW
          have hbw : Below w2.heap.size w2 ((w2.alloc (.cells #[.int .u32 (a : Int)] 23)).alloc (.cells #[.int .i64 2, .slice (some ⟨w2.heap.size, 0, none⟩) 1 1] 48)) := ((Below.refl _ _).alloc (Nat.le_refl _) _).alloc (by simp) _
          have HOW : Hid (OwnS _ w.heap.size _ ((k0, .slice ad4 l0.length c4, l0) :: R)) := HO.out.below hbw
          have HBW : Hid (Below w.heap.size w _) := HB2.out.trans (hbw.mono hsz2)
          have hbs : w.heap.size ≤ ((w2.alloc (.cells #[.int .u32 (a : Int)] 23)).alloc (.cells #[.int .i64 2, .slice (some ⟨w2.heap.size, 0, none⟩) 1 1] 48)).heap.size := HBW.out.size
          have HN : Hid (∀ (j : Nat) (u : Value), (cellsS ((k0, .slice ad4 l0.length c4, l0) :: R))[j]? = some u → ((w2.alloc (.cells #[.int .u32 (a : Int)] 23)).alloc (.cells #[.int .i64 2, .slice (some ⟨w2.heap.size, 0, none⟩) 1 1] 48)).cell? (Addr.add ⟨g, 0, none⟩ j) = some u) := fun j u hj => HOW.out.1.cells rfl j u hj
          have H1C : Hid (∀ u ∈ cellsS ((k0, .slice ad4 l0.length c4, l0) :: R), u.oneCell' = true) := HO.out.oneCell
          clear HU1 hbw
          go_wp2_with (at_builtin; refine wpList_append_own _ rfl _ _ 22 rfl w.heap.size 48 i0 (.agg #[.int .i64 0, .slice none 0 0]) 2 32 Tryd.underlying22 hi hz0 hz1 hz2 rfl (by decide) (.slice (some ⟨w2.heap.size + 1, 0, none⟩) 1 1) 1 [.int .i64 2, .slice (some ⟨w2.heap.size, 0, none⟩) 1 1] rfl HW.out.1 ⟨g, 0, none⟩ (R.length + 1) c3 (cellsS ((k0, .slice ad4 l0.length c4, l0) :: R)) rfl (by rw [cellsS_length]; simp) HN.out H1C.out (by unfold maxLen; omega) (by omega) hbs ?_; intro v3 w3 hown3 hgrow3 _; obtain ⟨ad5, c5, rfl⟩ := slice_of_owns hown3)
          have HP : Hid (PathAt w3 (.slice ad5 (1 + (R.length + 1)) c5) ((2, [a]) :: sgs ((k0, .slice ad4 l0.length c4, l0) :: R))) := (OwnS.join HW.out HOW.out hown3 hgrow3 ⟨by simp, by have := HO.out.2.2; simp at this ⊢; omega⟩).at
          have HB4 : Hid (Below w.heap.size w w3) := HBW.out.grown hgrow3 hbs (fun j e => (HW.out.1.lt j e).1)
          clear hown3 hgrow3
          go_wp2
          go_ret2
          exact ⟨_, by rw [show otherE _ = 0 from if_neg HP6.out]; rfl, by rw [show otherP _ _ _ = _ from if_neg HP6.out]; exact HP.out, HB4.out⟩
set_option maxRecDepth 100000 in
set_option maxHeartbeats 1600000 in
theorem rprep_other_true (L : List Sg) (v : Value) (a : Nat) (w : World) (h : PathAt w v L) (hok : okPath L = true) (ha : a < 4294967296) (ha0 : a ≠ 0) (htk : takes 3 L = false) :
    Calls Tryd.prog 28 #[v, .int .u32 (a : Int), .bool true] w fun e w' => RPrepOk w (otherP 3 a L) (otherE L) e w' := by
  obtain ⟨i0, hi, hz0, hz1, hz2⟩ := info_parts info48
  have H : Hid (PathAt _ _ _) := h
  obtain ⟨ad, b, off, cap, rfl, h2⟩ := h
  have HK : Hid (okPath L = true) := hok
  have h16 : L.length ≤ 16 := by simp only [okPath, Bool.and_eq_true, decide_eq_true_eq] at hok; exact hok.1
  have HTK : Hid (takes 3 L = false) := htk
  clear h2 hok htk
  have hane : ((a : Int) == 0) = false := by rw [beq_eq_false_iff_ne]; omega
  go_enter Tryd.func28, Tryd.ntmps28
  go_wp2_with fail
  refine (rcheck_any _ L w H.out).mono ?_
  rintro e w1 ⟨rfl, hw⟩
  obtain rfl : w = w1 := hw.symm
  clear hw
  rw [show chkOf L = 0 by simp [chkOf, HK.out]]
  go_wp2_with fail
  refine (ownAll_any _ L w H.out).mono ?_
  rintro e w2 ⟨v2, R, rfl, hR, ho, hb2⟩
  have hlen : R.length = L.length := by rw [← hR, sgs_length]
  have hsz2 := hb2.size
  have HO : Hid (OwnS _ _ _ _) := ho
  have HB2 : Hid (Below _ _ _) := hb2
  have HRL : Hid (sgs R = L) := hR
  obtain ⟨ad3, c3, rfl⟩ := slice_of_owns ho.1
  cases ad3 with
  | none =>
    obtain rfl : R = [] := by
      obtain ⟨⟨_, hv⟩, _, _⟩ := ho
      rcases hv with ⟨_, h0⟩ | ⟨g', cap', cur, e, _⟩
      · exact List.length_eq_zero_iff.mp h0
      · simp at e
    obtain rfl : L = [] := by rw [← hR]; rfl
    clear ho hb2 hR hlen
    go_wp2
    go_ret2
    exact ⟨_, rfl, by
      have hq := (own_seg1 (w := w2.alloc (.cells #[.int .u32 (a : Int)] 23)) (k := 3) (Nat.zero_le _) (own_one (Nat.zero_le _) (heap_at_new _ _) ha)).at
      rw [World.size_alloc] at hq
      exact hq, (HB2.out.alloc hsz2 _).alloc (Nat.le_trans hsz2 (by simp)) _⟩
  | some a3 =>
    obtain ⟨g, rfl⟩ : ∃ g, a3 = ⟨g, 0, none⟩ := by
      obtain ⟨⟨_, hv⟩, _, _⟩ := ho
      rcases hv with ⟨h0, _⟩ | ⟨g', cap', cur, e, _⟩
      · simp at h0
      · simp only [Value.slice.injEq, Option.some.injEq] at e
        exact ⟨g', e.1⟩
    cases R with
    | nil =>
      obtain rfl : L = [] := by rw [← hR]; rfl
      clear ho hb2 hR hlen
      have HU1 : OwnU (w2.alloc (.cells #[.int .u32 (a : Int)] 23)) w.heap.size (.slice (some ⟨w2.heap.size, 0, none⟩) 1 1) [a] := own_one hsz2 (heap_at_new _ _) ha
      have HW : Hid (OwnS _ w.heap.size _ [(3, .slice (some ⟨w2.heap.size, 0, none⟩) 1 1, [a])]) := own_seg1 (w := w2.alloc (.cells #[.int .u32 (a : Int)] 23)) (k := 3) (Nat.le_trans hsz2 (by simp)) HU1
      rw [World.size_alloc] at HW
      have hbw : Below w2.heap.size w2 ((w2.alloc (.cells #[.int .u32 (a : Int)] 23)).alloc (.cells #[.int .i64 3, .slice (some ⟨w2.heap.size, 0, none⟩) 1 1] 48)) := ((Below.refl _ _).alloc (Nat.le_refl _) _).alloc (by simp) _
      have HOW : Hid (OwnS _ w.heap.size _ []) := HO.out.below hbw
      have HBW : Hid (Below w.heap.size w _) := HB2.out.trans (hbw.mono hsz2)
      have hbs : w.heap.size ≤ ((w2.alloc (.cells #[.int .u32 (a : Int)] 23)).alloc (.cells #[.int .i64 3, .slice (some ⟨w2.heap.size, 0, none⟩) 1 1] 48)).heap.size := HBW.out.size
      have HN : Hid (∀ (j : Nat) (u : Value), (cellsS [])[j]? = some u → ((w2.alloc (.cells #[.int .u32 (a : Int)] 23)).alloc (.cells #[.int .i64 3, .slice (some ⟨w2.heap.size, 0, none⟩) 1 1] 48)).cell? (Addr.add ⟨g, 0, none⟩ j) = some u) := fun j u hj => HOW.out.1.cells rfl j u hj
      have H1C : Hid (∀ u ∈ cellsS [], u.oneCell' = true) := HO.out.oneCell
      clear HU1 hbw
      go_wp2_with (at_builtin; refine wpList_append_own _ rfl _ _ 22 rfl w.heap.size 48 i0 (.agg #[.int .i64 0, .slice none 0 0]) 2 32 Tryd.underlying22 hi hz0 hz1 hz2 rfl (by decide) (.slice (some ⟨w2.heap.size + 1, 0, none⟩) 1 1) 1 [.int .i64 3, .slice (some ⟨w2.heap.size, 0, none⟩) 1 1] rfl HW.out.1 ⟨g, 0, none⟩ 0 c3 (cellsS []) rfl (by simp [cellsS]) HN.out H1C.out (by unfold maxLen; omega) (by omega) hbs ?_; intro v3 w3 hown3 hgrow3 _; obtain ⟨ad5, c5, rfl⟩ := slice_of_owns hown3)
      have HP : Hid (PathAt w3 (.slice ad5 (1 + 0) c5) ((3, [a]) :: sgs [])) := (OwnS.join HW.out HOW.out hown3 hgrow3 ⟨by simp, by simp⟩).at
      have HB4 : Hid (Below w.heap.size w w3) := HBW.out.grown hgrow3 hbs (fun j e => (HW.out.1.lt j e).1)
      clear hown3 hgrow3
      go_wp2
      go_ret2
      exact ⟨_, rfl, HP.out, HB4.out⟩
    | cons r R =>
      obtain ⟨k0, u0, l0⟩ := r
      have x0 := (ho.cells 0 (by simp)).1
      have x1 := (ho.cells 0 (by simp)).2
      simp only [Nat.zero_mul, List.getElem_cons_zero, Nat.zero_add] at x0 x1
      have hu := ho.2.1 (k0, u0, l0) (by simp)
      simp only at hu
      have hull := hu.2.2
      obtain ⟨ad4, c4, rfl⟩ := slice_of_owns hu.1
      subst hR
      have htk : ¬ (k0 = 3 ∧ l0.length < 255) := by simpa [takes, sgs] using HTK.out
      rw [sgs_length] at h16
      simp only [List.length_cons] at h16
      clear ho hb2 hu hlen
      by_cases hkd : k0 = 3
      · subst hkd
        have hfull : ¬ ((l0.length : Int) < 255) := by simp at htk; omega
        clear htk
        by_cases h6 : R.length + 1 = 16
        · have h6' : (16 : Int) ≤ (R.length : Int) + 1 := by omega
          have HP6 : Hid ((sgs ((3, .slice ad4 l0.length c4, l0) :: R)).length = 16) := by unfold Hid; rw [sgs_length]; exact h6
          clear h6
          go_wp2
          go_ret2
          exact ⟨.slice none 0 0, by rw [show otherE _ = 3 from if_pos HP6.out]; rfl, by rw [show otherP _ _ _ = [] from if_pos HP6.out]; exact pathAt_nil _, HB2.out⟩
        · have h6' : ¬ ((16 : Int) ≤ (R.length : Int) + 1) := by omega
          have HP6 : Hid (¬ (sgs ((3, .slice ad4 l0.length c4, l0) :: R)).length = 16) := by unfold Hid; rw [sgs_length]; exact h6
          clear h6
          have HU1 : OwnU (w2.alloc (.cells #[.int .u32 (a : Int)] 23)) w.heap.size (.slice (some ⟨w2.heap.size, 0, none⟩) 1 1) [a] := own_one hsz2 (heap_at_new _ _) ha
          have HW : Hid (OwnS _ w.heap.size _ [(3, .slice (some ⟨w2.heap.size, 0, none⟩) 1 1, [a])]) := own_seg1 (w := w2.alloc (.cells #[.int .u32 (a : Int)] 23)) (k := 3) (Nat.le_trans hsz2 (by simp)) HU1
          rw [World.size_alloc] at HW
          have hbw : Below w2.heap.size w2 ((w2.alloc (.cells #[.int .u32 (a : Int)] 23)).alloc (.cells #[.int .i64 3, .slice (some ⟨w2.heap.size, 0, none⟩) 1 1] 48)) := ((Below.refl _ _).alloc (Nat.le_refl _) _).alloc (by simp) _
          have HOW : Hid (OwnS _ w.heap.size _ ((3, .slice ad4 l0.length c4, l0) :: R)) := HO.out.below hbw
          have HBW : Hid (Below w.heap.size w _) := HB2.out.trans (hbw.mono hsz2)
          have hbs : w.heap.size ≤ ((w2.alloc (.cells #[.int .u32 (a : Int)] 23)).alloc (.cells #[.int .i64 3, .slice (some ⟨w2.heap.size, 0, none⟩) 1 1] 48)).heap.size := HBW.out.size
          have HN : Hid (∀ (j : Nat) (u : Value), (cellsS ((3, .slice ad4 l0.length c4, l0) :: R))[j]? = some u → ((w2.alloc (.cells #[.int .u32 (a : Int)] 23)).alloc (.cells #[.int .i64 3, .slice (some ⟨w2.heap.size, 0, none⟩) 1 1] 48)).cell? (Addr.add ⟨g, 0, none⟩ j) = some u) := fun j u hj => HOW.out.1.cells rfl j u hj
          have H1C : Hid (∀ u ∈ cellsS ((3, .slice ad4 l0.length c4, l0) :: R), u.oneCell' = true) := HO.out.oneCell
          clear HU1 hbw
          go_wp2_with (at_builtin; refine wpList_append_own _ rfl _ _ 22 rfl w.heap.size 48 i0 (.agg #[.int .i64 0, .slice none 0 0]) 2 32 Tryd.underlying22 hi hz0 hz1 hz2 rfl (by decide) (.slice (some ⟨w2.heap.size + 1, 0, none⟩) 1 1) 1 [.int .i64 3, .slice (some ⟨w2.heap.size, 0, none⟩) 1 1] rfl HW.out.1 ⟨g, 0, none⟩ (R.length + 1) c3 (cellsS ((3, .slice ad4 l0.length c4, l0) :: R)) rfl (by rw [cellsS_length]; simp) HN.out H1C.out (by unfold maxLen; omega) (by omega) hbs ?_; intro v3 w3 hown3 hgrow3 _; obtain ⟨ad5, c5, rfl⟩ := slice_of_owns hown3)
          have HP : Hid (PathAt w3 (.slice ad5 (1 + (R.length + 1)) c5) ((3, [a]) :: sgs ((3, .slice ad4 l0.length c4, l0) :: R))) := (OwnS.join HW.out HOW.out hown3 hgrow3 ⟨by simp, by have := HO.out.2.2; simp at this ⊢; omega⟩).at
          have HB4 : Hid (Below w.heap.size w w3) := HBW.out.grown hgrow3 hbs (fun j e => (HW.out.1.lt j e).1)
          clear hown3 hgrow3
          go_wp2
          go_ret2
          exact ⟨_, by rw [show otherE _ = 0 from if_neg HP6.out]; rfl, by rw [show otherP _ _ _ = _ from if_neg HP6.out]; exact HP.out, HB4.out⟩
      · clear htk
        by_cases h6 : R.length + 1 = 16
        · have h6' : (16 : Int) ≤ (R.length : Int) + 1 := by omega
          have HP6 : Hid ((sgs ((k0, .slice ad4 l0.length c4, l0) :: R)).length = 16) := by unfold Hid; rw [sgs_length]; exact h6
          clear h6
          go_wp2
          go_ret2
          exact ⟨.slice none 0 0, by rw [show otherE _ = 3 from if_pos HP6.out]; rfl, by rw [show otherP _ _ _ = [] from if_pos HP6.out]; exact pathAt_nil _, HB2.out⟩
        · have h6' : ¬ ((16 : Int) ≤ (R.length : Int) + 1) := by omega
          have HP6 : Hid (¬ (sgs ((k0, .slice ad4 l0.length c4, l0) :: R)).length = 16) := by unfold Hid; rw [sgs_length]; exact h6
          clear h6
          have HU1 : OwnU (w2.alloc (.cells #[.int .u32 (a : Int)] 23)) w.heap.size (.slice (some ⟨w2.heap.size, 0, none⟩) 1 1) [a] := own_one hsz2 (heap_at_new _ _) ha
          have HW : Hid (OwnS _ w.heap.size _ [(3, .slice (some ⟨w2.heap.size, 0, none⟩) 1 1, [a])]) := own_seg1 (w := w2.alloc (.cells #[.int .u32 (a : Int)] 23)) (k := 3) (Nat.le_trans hsz2 (by simp)) HU1
          rw [World.size_alloc] at HW
          have hbw : Below w2.heap.size w2 ((w2.alloc (.cells #[.int .u32 (a : Int)] 23)).alloc (.cells #[.int .i64 3, .slice (some ⟨w2.heap.size, 0, none⟩) 1 1] 48)) := ((Below.refl _ _).alloc (Nat.le_refl _) _).alloc (by simp) _
          have HOW : Hid (OwnS _ w.heap.size _ ((k0, .slice ad4 l0.length c4, l0) :: R)) := HO.out.below hbw
          have HBW : Hid (Below w.heap.size w _) := HB2.out.trans (hbw.mono hsz2)
          have hbs : w.heap.size ≤ ((w2.alloc (.cells #[.int .u32 (a : Int)] 23)).alloc (.cells #[.int .i64 3, .slice (some ⟨w2.heap.size, 0, none⟩) 1 1] 48)).heap.size := HBW.out.size
          have HN : Hid (∀ (j : Nat) (u : Value), (cellsS ((k0, .slice ad4 l0.length c4, l0) :: R))[j]? = some u → ((w2.alloc (.cells #[.int .u32 (a : Int)] 23)).alloc (.cells #[.int .i64 3, .slice (some ⟨w2.heap.size, 0, none⟩) 1 1] 48)).cell? (Addr.add ⟨g, 0, none⟩ j) = some u) := fun j u hj => HOW.out.1.cells rfl j u hj
          have H1C : Hid (∀ u ∈ cellsS ((k0, .slice ad4 l0.length c4, l0) :: R), u.oneCell' = true) := HO.out.oneCell
          clear HU1 hbw
          go_wp2_with (at_builtin; refine wpList_append_own _ rfl _ _ 22 rfl w.heap.size 48 i0 (.agg #[.int .i64 0, .slice none 0 0]) 2 32 Tryd.underlying22 hi hz0 hz1 hz2 rfl (by decide) (.slice (some ⟨w2.heap.size + 1, 0, none⟩) 1 1) 1 [.int .i64 3, .slice (some ⟨w2.heap.size, 0, none⟩) 1 1] rfl HW.out.1 ⟨g, 0, none⟩ (R.length + 1) c3 (cellsS ((k0, .slice ad4 l0.length c4, l0) :: R)) rfl (by rw [cellsS_length]; simp) HN.out H1C.out (by unfold maxLen; omega) (by omega) hbs ?_; intro v3 w3 hown3 hgrow3 _; obtain ⟨ad5, c5, rfl⟩ := slice_of_owns hown3)
          have HP : Hid (PathAt w3 (.slice ad5 (1 + (R.length + 1)) c5) ((3, [a]) :: sgs ((k0, .slice ad4 l0.length c4, l0) :: R))) := (OwnS.join HW.out HOW.out hown3 hgrow3 ⟨by simp, by have := HO.out.2.2; simp at this ⊢; omega⟩).at
          have HB4 : Hid (Below w.heap.size w w3) := HBW.out.grown hgrow3 hbs (fun j e => (HW.out.1.lt j e).1)
          clear hown3 hgrow3
          go_wp2
          go_ret2
          exact ⟨_, by rw [show otherE _ = 0 from if_neg HP6.out]; rfl, by rw [show otherP _ _ _ = _ from if_neg HP6.out]; exact HP.out, HB4.out⟩
end Go.Proofs.YtbdfigfjoiefiaaDoor

namespace Go.Proofs.YtbdfigfjoiefiaaDoor
open Go.RowKit
theorem rprep_all (v : Value) (L : List Sg) (a : Nat) (conf : Bool) (w : World) (h : PathAt w v L) (ha : a < 4294967296) :
    Calls Tryd.prog 28 #[v, .int .u32 (a : Int), .bool conf] w fun e w' => RPrepOk w (prepP L a conf) (prepE L a conf) e w' := by
  by_cases hbad : okPath L = false ∨ a = 0
  · rw [show prepE L a conf = 2 from if_pos hbad, show prepP L a conf = [] from if_pos hbad]
    exact rprep_bad v L a conf w h hbad
  · have hok : okPath L = true := by cases hq : okPath L with | true => rfl | false => exact absurd (Or.inl hq) hbad
    have ha0 : a ≠ 0 := fun h => hbad (Or.inr h)
    cases htk : takes (kindOf conf) L with
    | true =>
      cases L with
      | nil => simp [takes] at htk
      | cons s T =>
        have hk : s.1 = (kindOf conf : Nat) ∧ s.2.length < 255 := by simpa [takes] using htk
        have e1 : prepP (s :: T) a conf = ((kindOf conf : Int), a :: s.2) :: T := by unfold prepP; rw [if_neg hbad, if_pos htk]
        have e2 : prepE (s :: T) a conf = 0 := by unfold prepE; rw [if_neg hbad, if_pos htk]
        rw [e1, e2]
        cases conf with
        | true => exact rprep_takes_true s T v a w h hok ha ha0 hk.1 hk.2
        | false => exact rprep_takes_false s T v a w h hok ha ha0 hk.1 hk.2
    | false =>
      have e1 : prepP L a conf = otherP (kindOf conf : Nat) a L := by unfold prepP otherP; rw [if_neg hbad, if_neg (by rw [htk]; simp)]
      have e2 : prepE L a conf = otherE L := by unfold prepE otherE; rw [if_neg hbad, if_neg (by rw [htk]; simp)]
      rw [e1, e2]
      cases conf with
      | true => exact rprep_other_true L v a w h hok ha ha0 htk
      | false => exact rprep_other_false L v a w h hok ha ha0 htk
/-- What spoil needs to go on: the segments behind the first n are as they were; all rows may be written. -/
structure Spl (w wr : World) (base g : Nat) (R : List Sv) (n : Nat) : Prop where
  kin : ∀ i (_ : i < R.length), ∃ x, wr.cell? ⟨g, i * 2, none⟩ = some (.int .i64 x)
  cel : ∀ i (h : i < R.length), n ≤ i → wr.cell? ⟨g, i * 2 + 1, none⟩ = some R[i].2.1
  fro : ∀ i, i < R.length * 2 → wr.frozen? ⟨g, i, none⟩ = false
  row : ∀ i (h : i < R.length) j, j < R[i].2.2.length → ∃ b c x, R[i].2.1 = .slice (some ⟨b, 0, none⟩) R[i].2.2.length c ∧ b ≠ g ∧ base ≤ b ∧ wr.cell? ⟨b, j, none⟩ = some (.int .u32 x) ∧ wr.frozen? ⟨b, j, none⟩ = false
  bel : Below base w wr
theorem frozen_row {w : World} {g : Nat} {cur : Array Value} {t : TypeId} (h : w.heap[g]? = some (.cells cur t (0, 0))) (j : Nat) : w.frozen? ⟨g, j, none⟩ = false := by
  simp [World.frozen?, h]
theorem Spl.start {w : World} {base g n cap : Nat} {R : List Sv} (h : OwnS w base (.slice (some ⟨g, 0, none⟩) n cap) R) : Spl w w base g R 0 := by
  refine ⟨fun i hi => ⟨_, (h.cells i hi).1⟩, fun i hi _ => (h.cells i hi).2, fun i _ => ?_, fun i hi j hj => ?_, Below.refl _ _⟩
  · obtain ⟨⟨_, hv⟩, _, _⟩ := h
    rcases hv with ⟨h0, _⟩ | ⟨g', cap', cur, e, _, hh, _⟩
    · simp at h0
    · simp only [Value.slice.injEq, Option.some.injEq, Addr.mk.injEq, and_true] at e
      obtain ⟨rfl, _⟩ := e
      exact frozen_row hh i
  · have hu := h.2.1 R[i] (List.getElem_mem hi)
    have hap := hu.apart h.1
    have hat := hu.at
    obtain ⟨⟨_, hv⟩, _, _⟩ := hu
    rcases hv with ⟨_, h0⟩ | ⟨b, c, cur, e, hb, hh, hc, hm, hs, ht⟩
    · omega
    · refine ⟨b, c, (R[i].2.2[j] : Nat), e, ?_, hb, ?_, frozen_row hh j⟩
      · exact hap b (by rw [e]; rfl)
      · obtain ⟨ad', b', off', cap', e', had, _, hr⟩ := hat
        rw [e] at e'
        simp only [Value.slice.injEq] at e'
        obtain ⟨rfl, _, rfl⟩ := e'
        obtain ⟨rfl, rfl⟩ : b = b' ∧ 0 = off' := by
          rcases had with h | h
          · simpa using h
          · omega
        have := (hr j hj).1
        rwa [Nat.zero_add] at this
theorem Spl.put {w wr : World} {base g n : Nat} {R : List Sv} (h : Spl w wr base g R n) {b j : Nat} {x : Int} (hb : base ≤ b) (hbg : b ≠ g) (hc : wr.cell? ⟨b, j, none⟩ = some (.int .u32 x)) : Spl w (wr.setCell ⟨b, j, none⟩ (.int .u32 77)) base g R n := by
  refine ⟨fun i hi => ?_, fun i hi hn => ?_, fun i hi => ?_, fun i hi k hk => ?_, h.bel.setCell (by exact hb) _⟩
  · obtain ⟨y, hy⟩ := h.kin i hi
    exact ⟨y, by rw [World.cell?_setCell_other _ _ _ _ (by intro h; injection h with h1 h2; omega)]; exact hy⟩
  · rw [World.cell?_setCell_other _ _ _ _ (by intro h; injection h with h1 h2; omega)]; exact h.cel i hi hn
  · rw [World.frozen?_setCell]; exact h.fro i hi
  · obtain ⟨b', c, y, e, hne, hb', hy, hf⟩ := h.row i hi k hk
    by_cases he : b' = b ∧ k = j
    · obtain ⟨rfl, rfl⟩ := he
      exact ⟨b', c, 77, e, hne, hb', World.cell?_setCell_same _ _ _ hc, by rw [World.frozen?_setCell]; exact hf⟩
    · exact ⟨b', c, y, e, hne, hb', by rw [World.cell?_setCell_other _ _ _ _ (by intro h; injection h with h1 h2; first | omega | exact he ⟨h1.symm, h2.symm⟩)]; exact hy, by rw [World.frozen?_setCell]; exact hf⟩
theorem Spl.next {w wr : World} {base g n : Nat} {R : List Sv} (h : Spl w wr base g R n) (hg : base ≤ g) : Spl w ((wr.setCell ⟨g, n * 2, none⟩ (.int .i64 0)).setCell ⟨g, n * 2 + 1, none⟩ (.slice none 0 0)) base g R (n + 1) := by
  refine ⟨fun i hi => ?_, fun i hi hni => ?_, fun i hi => ?_, fun i hi k hk => ?_, (h.bel.setCell (by exact hg) _).setCell (by exact hg) _⟩
  · rw [World.cell?_setCell_other _ _ _ _ (by intro h; injection h with h1 h2; omega)]
    obtain ⟨y, hy⟩ := h.kin i hi
    by_cases e : n = i
    · subst e; exact ⟨0, World.cell?_setCell_same _ _ _ hy⟩
    · exact ⟨y, by rw [World.cell?_setCell_other _ _ _ _ (by intro h; injection h with h1 h2; omega)]; exact hy⟩
  · rw [World.cell?_setCell_other _ _ _ _ (by intro h; injection h with h1 h2; omega), World.cell?_setCell_other _ _ _ _ (by intro h; injection h with h1 h2; omega)]; exact h.cel i hi (by omega)
  · rw [World.frozen?_setCell, World.frozen?_setCell]; exact h.fro i hi
  · obtain ⟨b', c, y, e, hne, hb', hy, hf⟩ := h.row i hi k hk
    exact ⟨b', c, y, e, hne, hb', by rw [World.cell?_setCell_other _ _ _ _ (by intro h; injection h with h1 h2; omega), World.cell?_setCell_other _ _ _ _ (by intro h; injection h with h1 h2; omega)]; exact hy, by rw [World.frozen?_setCell, World.frozen?_setCell]; exact hf⟩
theorem spoil_none (n c : Nat) (w : World) (hn : n = 0) :
    Calls Tryd.prog 25 #[.slice none n c] w fun e w' => e = .returned (.tuple #[]) ∧ w' = w := by
  subst hn
  go_enter Tryd.func25, Tryd.ntmps25
  go_wp2
  refine wp_loop_rounds 1 ?_
  rw [rounds_succ]
  go_wp2
  go_end0
  exact ⟨rfl, rfl⟩
set_option maxRecDepth 100000 in
set_option maxHeartbeats 800000 in
theorem spoil_any (v : Value) (w : World) (base : Nat) (R : List Sv) (h : OwnS w base v R) :
    Calls Tryd.prog 25 #[v] w fun e w' => e = .returned (.tuple #[]) ∧ Below base w w' := by
  have HO : Hid (OwnS _ _ _ _) := h
  have hRl := h.2.2
  have HUL : Hid (∀ i (hi : i < R.length), R[i].2.2.length ≤ 35184372088832) := fun i hi => (h.2.1 R[i] (List.getElem_mem hi)).2.2
  have HSL : Hid (∀ i (hi : i < R.length), ∃ ad c, R[i].2.1 = .slice ad R[i].2.2.length c) := fun i hi => slice_of_owns (h.2.1 R[i] (List.getElem_mem hi)).1
  obtain ⟨⟨_, hv⟩, _, _⟩ := h
  rcases hv with ⟨rfl, h0⟩ | ⟨g, cap, cur, rfl, hg, hh, hc, hm, hs, ht⟩
  · refine (spoil_none 0 0 w rfl).mono ?_
    rintro e w' ⟨rfl, rfl⟩
    exact ⟨rfl, Below.refl _ _⟩
  · have HS : Hid (Spl _ _ _ _ _ _) := Spl.start HO.out
    clear hh hm hs ht
    go_enter Tryd.func25, Tryd.ntmps25
    go_wp2
    go_loopw [2] (fun i wr => ∃ n : Nat, n ≤ R.length ∧ i = .int .i64 n ∧ Spl w wr base g R n) (fun i _ => R.length - (intOf i).toNat)
    case atStart => exact ⟨0, Nat.zero_le _, rfl, HS.out⟩
    case round =>
      obtain ⟨n, hn, rfl, hq⟩ := hrel
      by_cases hlt : n < R.length
      · have HQ : Hid (Spl _ _ _ _ _ _) := hq
        obtain ⟨ad, c, hu⟩ := HSL.out n hlt
        have hul := HUL.out n hlt
        clear hq
        go_wp2
        go_loopw [3] (fun i wr2 => ∃ j : Nat, j ≤ R[n].2.2.length ∧ i = .int .i64 j ∧ Spl w wr2 base g R n) (fun i _ => R[n].2.2.length - (intOf i).toNat)
        case atStart => exact ⟨0, Nat.zero_le _, rfl, HQ.out⟩
        case round =>
          obtain ⟨j, hj, rfl, hp⟩ := hrel
          have HP : Hid (Spl _ _ _ _ _ _) := hp
          have c1 := hp.cel n hlt (Nat.le_refl _)
          rw [hu] at c1
          by_cases hlt2 : j < R[n].2.2.length
          · obtain ⟨b, c', x, e, hbg, hb, hx, hf⟩ := hp.row n hlt j hlt2
            rw [hu] at e
            simp only [Value.slice.injEq, true_and] at e
            obtain ⟨rfl, rfl⟩ := e
            have HP2 : Hid (Spl _ _ _ _ _ _) := hp.put hb hbg hx
            clear hp
            generalize R[n].2.2.length = m at *
            go_wp2
            go_roundw
            case rel => exact ⟨j + 1, by omega, by go_num, HP2.out⟩
            case measure => simp [intOf]; omega
          · obtain ⟨x0, c0⟩ := hp.kin n hlt
            have f0 := hp.fro (n * 2) (by omega)
            have f1 := hp.fro (n * 2 + 1) (by omega)
            have HP2 : Hid (Spl _ _ _ _ _ _) := hp.next hg
            clear hp
            generalize R[n].2.2.length = m at *
            obtain rfl : j = m := by omega
            go_wp2
            go_roundw
            case rel => exact ⟨n + 1, by omega, by go_num, HP2.out⟩
            case measure => simp [intOf]; omega
      · obtain rfl : n = R.length := by omega
        go_wp2
        go_end0
        exact ⟨rfl, hq.bel⟩
end Go.Proofs.YtbdfigfjoiefiaaDoor

namespace Go.Proofs.YtbdfigfjoiefiaaDoor
open Go.RowKit
/-- What spoil needs to go on: the segments behind the first n are as they were; all rows may be written. -/
structure Spm (w wr : World) (base M g : Nat) (R : List Sv) (n : Nat) : Prop where
  kin : ∀ i (_ : i < R.length), ∃ x, wr.cell? ⟨g, i * 2, none⟩ = some (.int .i64 x)
  cel : ∀ i (h : i < R.length), n ≤ i → wr.cell? ⟨g, i * 2 + 1, none⟩ = some R[i].2.1
  fro : ∀ i, i < R.length * 2 → wr.frozen? ⟨g, i, none⟩ = false
  row : ∀ i (h : i < R.length) j, j < R[i].2.2.length → ∃ b c x, R[i].2.1 = .slice (some ⟨b, 0, none⟩) R[i].2.2.length c ∧ b ≠ g ∧ (base ≤ b ∧ b < M) ∧ wr.cell? ⟨b, j, none⟩ = some (.int .u32 x) ∧ wr.frozen? ⟨b, j, none⟩ = false
  bel : Below base w wr
  abv : ∀ k, M ≤ k → wr.heap[k]? = w.heap[k]?
theorem frozen_row' {w : World} {g : Nat} {cur : Array Value} {t : TypeId} (h : w.heap[g]? = some (.cells cur t (0, 0))) (j : Nat) : w.frozen? ⟨g, j, none⟩ = false := by
  simp [World.frozen?, h]
theorem Spm.start {w : World} {base M g n cap : Nat} {R : List Sv} (h : OwnS w base (.slice (some ⟨g, 0, none⟩) n cap) R) (hM : ∀ r ∈ R, ∀ b, r.2.1.ownBlock = some b → b < M) : Spm w w base M g R 0 := by
  refine ⟨fun i hi => ⟨_, (h.cells i hi).1⟩, fun i hi _ => (h.cells i hi).2, fun i _ => ?_, fun i hi j hj => ?_, Below.refl _ _, fun _ _ => rfl⟩
  · obtain ⟨⟨_, hv⟩, _, _⟩ := h
    rcases hv with ⟨h0, _⟩ | ⟨g', cap', cur, e, _, hh, _⟩
    · simp at h0
    · simp only [Value.slice.injEq, Option.some.injEq, Addr.mk.injEq, and_true] at e
      obtain ⟨rfl, _⟩ := e
      exact frozen_row' hh i
  · have hu := h.2.1 R[i] (List.getElem_mem hi)
    have hap := hu.apart h.1
    have hat := hu.at
    obtain ⟨⟨_, hv⟩, _, _⟩ := hu
    rcases hv with ⟨_, h0⟩ | ⟨b, c, cur, e, hb, hh, hc, hm, hs, ht⟩
    · omega
    · refine ⟨b, c, (R[i].2.2[j] : Nat), e, ?_, ⟨hb, hM R[i] (List.getElem_mem hi) b (by rw [e]; rfl)⟩, ?_, frozen_row' hh j⟩
      · exact hap b (by rw [e]; rfl)
      · obtain ⟨ad', b', off', cap', e', had, _, hr⟩ := hat
        rw [e] at e'
        simp only [Value.slice.injEq] at e'
        obtain ⟨rfl, _, rfl⟩ := e'
        obtain ⟨rfl, rfl⟩ : b = b' ∧ 0 = off' := by
          rcases had with h | h
          · simpa using h
          · omega
        have := (hr j hj).1
        rwa [Nat.zero_add] at this
theorem Spm.put {w wr : World} {base M g n : Nat} {R : List Sv} (h : Spm w wr base M g R n) {b j : Nat} {x : Int} (hb : base ≤ b ∧ b < M) (hbg : b ≠ g) (hc : wr.cell? ⟨b, j, none⟩ = some (.int .u32 x)) : Spm w (wr.setCell ⟨b, j, none⟩ (.int .u32 77)) base M g R n := by
  refine ⟨fun i hi => ?_, fun i hi hn => ?_, fun i hi => ?_, fun i hi k hk => ?_, h.bel.setCell (by exact hb.1) _, fun k hk => by rw [Below.heap_setCell wr ⟨b, j, none⟩ _ k (by show k ≠ b; omega)]; exact h.abv k hk⟩
  · obtain ⟨y, hy⟩ := h.kin i hi
    exact ⟨y, by rw [World.cell?_setCell_other _ _ _ _ (by intro h; injection h with h1 h2; omega)]; exact hy⟩
  · rw [World.cell?_setCell_other _ _ _ _ (by intro h; injection h with h1 h2; omega)]; exact h.cel i hi hn
  · rw [World.frozen?_setCell]; exact h.fro i hi
  · obtain ⟨b', c, y, e, hne, hb', hy, hf⟩ := h.row i hi k hk
    by_cases he : b' = b ∧ k = j
    · obtain ⟨rfl, rfl⟩ := he
      exact ⟨b', c, 77, e, hne, hb', World.cell?_setCell_same _ _ _ hc, by rw [World.frozen?_setCell]; exact hf⟩
    · exact ⟨b', c, y, e, hne, hb', by rw [World.cell?_setCell_other _ _ _ _ (by intro h; injection h with h1 h2; first | omega | exact he ⟨h1.symm, h2.symm⟩)]; exact hy, by rw [World.frozen?_setCell]; exact hf⟩
theorem Spm.next {w wr : World} {base M g n : Nat} {R : List Sv} (h : Spm w wr base M g R n) (hg : base ≤ g) (hgM : g < M) : Spm w ((wr.setCell ⟨g, n * 2, none⟩ (.int .i64 0)).setCell ⟨g, n * 2 + 1, none⟩ (.slice none 0 0)) base M g R (n + 1) := by
  refine ⟨fun i hi => ?_, fun i hi hni => ?_, fun i hi => ?_, fun i hi k hk => ?_, (h.bel.setCell (by exact hg) _).setCell (by exact hg) _, fun k hk => by rw [Below.heap_setCell _ ⟨g, n * 2 + 1, none⟩ _ k (by show k ≠ g; omega), Below.heap_setCell _ ⟨g, n * 2, none⟩ _ k (by show k ≠ g; omega)]; exact h.abv k hk⟩
  · rw [World.cell?_setCell_other _ _ _ _ (by intro h; injection h with h1 h2; omega)]
    obtain ⟨y, hy⟩ := h.kin i hi
    by_cases e : n = i
    · subst e; exact ⟨0, World.cell?_setCell_same _ _ _ hy⟩
    · exact ⟨y, by rw [World.cell?_setCell_other _ _ _ _ (by intro h; injection h with h1 h2; omega)]; exact hy⟩
  · rw [World.cell?_setCell_other _ _ _ _ (by intro h; injection h with h1 h2; omega), World.cell?_setCell_other _ _ _ _ (by intro h; injection h with h1 h2; omega)]; exact h.cel i hi (by omega)
  · rw [World.frozen?_setCell, World.frozen?_setCell]; exact h.fro i hi
  · obtain ⟨b', c, y, e, hne, hb', hy, hf⟩ := h.row i hi k hk
    exact ⟨b', c, y, e, hne, hb', by rw [World.cell?_setCell_other _ _ _ _ (by intro h; injection h with h1 h2; omega), World.cell?_setCell_other _ _ _ _ (by intro h; injection h with h1 h2; omega)]; exact hy, by rw [World.frozen?_setCell, World.frozen?_setCell]; exact hf⟩
set_option maxRecDepth 100000 in
set_option maxHeartbeats 800000 in
theorem spoil_abv (v : Value) (w : World) (base M : Nat) (R : List Sv) (h : OwnS w base v R) (hv0 : ∀ b, v.ownBlock = some b → b < M) (hM : ∀ r ∈ R, ∀ b, r.2.1.ownBlock = some b → b < M) :
    Calls Tryd.prog 25 #[v] w fun e w' => e = .returned (.tuple #[]) ∧ Below base w w' ∧ ∀ k, M ≤ k → w'.heap[k]? = w.heap[k]? := by
  have HO : Hid (OwnS _ _ _ _) := h
  have hRl := h.2.2
  have HUL : Hid (∀ i (hi : i < R.length), R[i].2.2.length ≤ 35184372088832) := fun i hi => (h.2.1 R[i] (List.getElem_mem hi)).2.2
  have HSL : Hid (∀ i (hi : i < R.length), ∃ ad c, R[i].2.1 = .slice ad R[i].2.2.length c) := fun i hi => slice_of_owns (h.2.1 R[i] (List.getElem_mem hi)).1
  obtain ⟨⟨_, hv⟩, _, _⟩ := h
  rcases hv with ⟨rfl, h0⟩ | ⟨g, cap, cur, rfl, hg, hh, hc, hm, hs, ht⟩
  · refine (spoil_none 0 0 w rfl).mono ?_
    rintro e w' ⟨rfl, rfl⟩
    exact ⟨rfl, Below.refl _ _, fun _ _ => rfl⟩
  · have hgM : g < M := hv0 g rfl
    have HS : Hid (Spm _ _ _ _ _ _ _) := Spm.start HO.out hM
    clear hh hm hs ht hv0 hM
    go_enter Tryd.func25, Tryd.ntmps25
    go_wp2
    go_loopw [2] (fun i wr => ∃ n : Nat, n ≤ R.length ∧ i = .int .i64 n ∧ Spm w wr base M g R n) (fun i _ => R.length - (intOf i).toNat)
    case atStart => exact ⟨0, Nat.zero_le _, rfl, HS.out⟩
    case round =>
      obtain ⟨n, hn, rfl, hq⟩ := hrel
      by_cases hlt : n < R.length
      · have HQ : Hid (Spm _ _ _ _ _ _ _) := hq
        obtain ⟨ad, c, hu⟩ := HSL.out n hlt
        have hul := HUL.out n hlt
        clear hq
        go_wp2
        go_loopw [3] (fun i wr2 => ∃ j : Nat, j ≤ R[n].2.2.length ∧ i = .int .i64 j ∧ Spm w wr2 base M g R n) (fun i _ => R[n].2.2.length - (intOf i).toNat)
        case atStart => exact ⟨0, Nat.zero_le _, rfl, HQ.out⟩
        case round =>
          obtain ⟨j, hj, rfl, hp⟩ := hrel
          have HP : Hid (Spm _ _ _ _ _ _ _) := hp
          have c1 := hp.cel n hlt (Nat.le_refl _)
          rw [hu] at c1
          by_cases hlt2 : j < R[n].2.2.length
          · obtain ⟨b, c', x, e, hbg, hb, hx, hf⟩ := hp.row n hlt j hlt2
            rw [hu] at e
            simp only [Value.slice.injEq, true_and] at e
            obtain ⟨rfl, rfl⟩ := e
            have HP2 : Hid (Spm _ _ _ _ _ _ _) := hp.put hb hbg hx
            clear hp
            generalize R[n].2.2.length = m at *
            go_wp2
            go_roundw
            case rel => exact ⟨j + 1, by omega, by go_num, HP2.out⟩
            case measure => simp [intOf]; omega
          · obtain ⟨x0, c0⟩ := hp.kin n hlt
            have f0 := hp.fro (n * 2) (by omega)
            have f1 := hp.fro (n * 2 + 1) (by omega)
            have HP2 : Hid (Spm _ _ _ _ _ _ _) := hp.next hg hgM
            clear hp
            generalize R[n].2.2.length = m at *
            obtain rfl : j = m := by omega
            go_wp2
            go_roundw
            case rel => exact ⟨n + 1, by omega, by go_num, HP2.out⟩
            case measure => simp [intOf]; omega
      · obtain rfl : n = R.length := by omega
        go_wp2
        go_end0
        exact ⟨rfl, hq.bel, hq.abv⟩
end Go.Proofs.YtbdfigfjoiefiaaDoor
