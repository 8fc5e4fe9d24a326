/-
  The reference's Prepend.
-/
import Derived.Test.YtbdfigfjoiefiaaDoorN2
import Derived.Test.YtbdfigfjoiefiaaDoorN3
import Derived.Test.YtbdfigfjoiefiaaDoorK1
namespace Go.Proofs.YtbdfigfjoiefiaaDoor
open Go.RowKit
/-- What Prepend of the program leaves. -/
theorem prep_all (v : Value) (L : List Sg) (a : Nat) (conf : Bool) (w : World) (h : PathAt w v L) (ha : a < 4294967296) :
    Calls Tryd.prog 27 #[v, .int .u32 (a : Int), .bool conf] w fun e w' => PrepOk w (prepP L a conf) (prepE L a conf) e w' := by
  by_cases hbad : okPath L = false ∨ a = 0
  · refine (prep_bad v L a conf w h hbad).mono ?_
    rintro e w' ⟨rfl, hb⟩
    exact ⟨_, [], by rw [show prepE L a conf = 2 from if_pos hbad], by rw [show prepP L a conf = [] from if_pos hbad]; rfl, ⟨World.ownsRow_nil _ _ _ _, fun r hr => by simp at hr, by simp⟩, hb⟩
  · have hok : okPath L = true := by cases hq : okPath L with | true => rfl | false => exact absurd (Or.inl hq) hbad
    have ha0 : a ≠ 0 := fun h => hbad (Or.inr h)
    cases htk : takes (kindOf conf) L with
    | true =>
      cases L with
      | nil => simp [takes] at htk
      | cons s T =>
        have hk : s.1 = (kindOf conf : Nat) ∧ s.2.length < 255 := by simpa [takes] using htk
        have e1 : prepP (s :: T) a conf = ((kindOf conf : Int), a :: s.2) :: T := by unfold prepP; rw [if_neg hbad, if_pos htk]
        have e2 : prepE (s :: T) a conf = 0 := by unfold prepE; rw [if_neg hbad, if_pos htk]
        rw [e1, e2]
        cases conf with
        | true => exact prep_takes_true s T v a w h hok ha ha0 hk.1 hk.2
        | false => exact prep_takes_false s T v a w h hok ha ha0 hk.1 hk.2
    | false =>
      have e1 : prepP L a conf = otherP (kindOf conf : Nat) a L := by unfold prepP otherP; rw [if_neg hbad, if_neg (by rw [htk]; simp)]
      have e2 : prepE L a conf = otherE L := by unfold prepE otherE; rw [if_neg hbad, if_neg (by rw [htk]; simp)]
      rw [e1, e2]
      cases conf with
      | true => exact prep_other_true L v a w h hok ha ha0 htk
      | false => exact prep_other_false L v a w h hok ha ha0 htk
/-- What Prepend of the reference leaves. -/
def RPrepOk (w : World) (P : List Sg) (err : Int) (e : Ending) (w' : World) : Prop := ∃ v', e = .returned (.tuple #[v', .int .i64 err]) ∧ PathAt w' v' P ∧ Below w.heap.size w w'
theorem pathAt_nil (w : World) : PathAt w (.slice none 0 0) [] := ⟨none, 0, 0, 0, rfl, Or.inr rfl, by simp, fun j hj => by simp at hj⟩
theorem rprep_bad (v : Value) (L : List Sg) (a : Nat) (conf : Bool) (w : World) (h : PathAt w v L) (hbad : okPath L = false ∨ a = 0) :
    Calls Tryd.prog 28 #[v, .int .u32 (a : Int), .bool conf] w fun e w' => RPrepOk w [] 2 e w' := by
  have H : Hid (PathAt _ _ _) := h
  obtain ⟨ad, b, off, cap, rfl, h2⟩ := h
  clear h2
  cases hok : okPath L with
  | false =>
    go_enter Tryd.func28, Tryd.ntmps28
    go_wp2_with fail
    refine (rcheck_any _ L w H.out).mono ?_
    rintro e w1 ⟨rfl, rfl⟩
    rw [show chkOf L = 2 by simp [chkOf, hok]]
    go_wp2
    go_ret2
    exact ⟨_, rfl, pathAt_nil _, Below.refl _ _⟩
  | true =>
    obtain rfl : a = 0 := by rcases hbad with h | h; rw [hok] at h; cases h; exact h
    go_enter Tryd.func28, Tryd.ntmps28
    go_wp2_with fail
    refine (rcheck_any _ L w H.out).mono ?_
    rintro e w1 ⟨rfl, rfl⟩
    rw [show chkOf L = 0 by simp [chkOf, hok]]
    go_wp2
    go_ret2
    exact ⟨_, rfl, pathAt_nil _, Below.refl _ _⟩
/-- The cells of a path that lies in rows of its own. -/
theorem OwnS.cells {w : World} {base g n cap : Nat} {R : List Sv} (h : OwnS w base (.slice (some ⟨g, 0, none⟩) n cap) R) (i : Nat) (hi : i < R.length) : w.cell? ⟨g, i * 2, none⟩ = some (.int .i64 R[i].1) ∧ w.cell? ⟨g, i * 2 + 1, none⟩ = some R[i].2.1 := by
  obtain ⟨⟨hn, hv⟩, hx, hl⟩ := h
  rcases hv with ⟨h0, _⟩ | ⟨g', cap', cur, e, hg, hh, hc, hm, hs, ht⟩
  · simp at h0
  · simp only [Value.slice.injEq, Option.some.injEq, Addr.mk.injEq, and_true] at e
    obtain ⟨rfl, rfl, rfl⟩ := e
    have e : ∀ i, i < R.length * 2 → cur.toList[i]? = (cellsS R)[i]? := fun i hi => by
      have : (cur.toList.take (R.length * 2))[i]? = (cellsS R)[i]? := by rw [ht]
      rwa [List.getElem?_take, if_pos hi] at this
    have hk := cellsS_at R i hi
    exact ⟨cell_of_row hh _ _ (by rw [e _ (by omega)]; exact hk.1), cell_of_row hh _ _ (by rw [e _ (by omega)]; exact hk.2)⟩
theorem OwnU.set {w : World} {base : Nat} {u : Value} {l : List Nat} (h : OwnU w base u l) {b : Nat} (hb : ∀ g, u.ownBlock = some g → g ≠ b) (i : Nat) (x : Value) : OwnU (w.setCell ⟨b, i, none⟩ x) base u l := ⟨owns_set h.1 hb i x, h.2⟩
/-- Rows of ASs lie apart from the row of segments. -/
theorem OwnU.apart {w : World} {base base' g n cap m : Nat} {xs : List Value} {u : Value} {l : List Nat} (h : OwnU w base u l) (hs : w.ownsRow base' 48 2 (.slice (some ⟨g, 0, none⟩) n cap) m xs) : ∀ g', u.ownBlock = some g' → g' ≠ g := by
  intro g' hg' e
  rcases owns_apart h.1 hs (by decide) with h0 | h0
  · rw [h0] at hg'; cases hg'
  · exact h0 (by rw [hg', e]; rfl)
/-- The ASs of the first segment are changed. -/
theorem OwnS.setFirst {w : World} {base base' g n cap : Nat} {k : Int} {u u' : Value} {l l' : List Nat} {R : List Sv} (h : OwnS w base (.slice (some ⟨g, 0, none⟩) n cap) ((k, u, l) :: R)) (hu : OwnU w base' u' l') :
    PathAt (w.setCell ⟨g, 1, none⟩ u') (.slice (some ⟨g, 0, none⟩) n cap) ((k, l') :: sgs R) := by
  have hn : n = R.length + 1 ∧ R.length + 1 ≤ cap := by
    obtain ⟨⟨_, hv⟩, _, _⟩ := h
    rcases hv with ⟨h0, _⟩ | ⟨g', cap', cur, e, hg, hh, hc, hm, hs, ht⟩
    · simp at h0
    · simp only [Value.slice.injEq] at e
      obtain ⟨_, rfl, rfl⟩ := e
      exact ⟨rfl, hc⟩
  have h0 := h.cells 0 (by simp)
  refine ⟨some ⟨g, 0, none⟩, g, 0, cap, by rw [hn.1]; simp [sgs], Or.inl rfl, ⟨by simpa [sgs] using hn.2, by have := h.2.2; simpa [sgs] using this⟩, fun i hi => ?_⟩
  cases i with
  | zero =>
    refine ⟨?_, u', ?_, ?_⟩
    · rw [World.cell?_setCell_other _ _ _ _ (by simp)]
      simpa using h0.1
    · exact World.cell?_setCell_same _ _ _ (by simpa using h0.2)
    · exact (hu.set (hu.apart h.1) 1 u').at
  | succ i =>
    have hi' : i < R.length := by simpa [sgs] using hi
    have hc := h.cells (i + 1) (by simpa using hi')
    have hr := h.2.1 R[i] (by simp)
    have e : ((k, l') :: sgs R)[i + 1] = (R[i].1, R[i].2.2) := by simp [sgs]
    rw [e]
    refine ⟨?_, R[i].2.1, ?_, ?_⟩
    · rw [World.cell?_setCell_other _ _ _ _ (by simp)]
      simpa using hc.1
    · rw [World.cell?_setCell_other _ _ _ _ (by simp)]
      simpa using hc.2
    · exact (hr.set (hr.apart h.1) 1 u').at
/-- Where the rows of a path of one segment and more lie. -/
theorem OwnS.open {w : World} {base : Nat} {v : Value} {r : Sv} {R : List Sv} (h : OwnS w base v (r :: R)) :
    ∃ g cap cur, v = .slice (some ⟨g, 0, none⟩) (R.length + 1) cap ∧ base ≤ g ∧ w.heap[g]? = some (.cells cur 48 (0, 0)) ∧ R.length + 1 ≤ cap ∧ cur.size = cap * 2 ∧ cur.toList.take ((R.length + 1) * 2) = cellsS (r :: R) := by
  obtain ⟨⟨hn, hv⟩, _, _⟩ := h
  rcases hv with ⟨_, h0⟩ | ⟨g, cap, cur, rfl, hg, hh, hc, hm, hs, ht⟩
  · simp at h0
  · exact ⟨g, cap, cur, rfl, hg, hh, hc, hs, ht⟩
set_option maxRecDepth 100000 in
set_option maxHeartbeats 1600000 in
theorem rprep_takes_false (s : Sg) (T : List Sg) (v : Value) (a : Nat) (w : World) (h : PathAt w v (s :: T)) (hok : okPath (s :: T) = true) (ha : a < 4294967296) (ha0 : a ≠ 0) (hs : s.1 = 2) (hl : s.2.length < 255) :
    Calls Tryd.prog 28 #[v, .int .u32 (a : Int), .bool false] w fun e w' => RPrepOk w ((2, a :: s.2) :: T) 0 e w' := by
  obtain ⟨i0, hi, hz0, hz1, hz2⟩ := info_parts info23
  have H : Hid (PathAt _ _ _) := h
  obtain ⟨ad, b, off, cap, rfl, h2⟩ := h
  have HK : Hid (okPath (s :: T) = true) := hok
  clear h2 hok
  have hane : ((a : Int) == 0) = false := by rw [beq_eq_false_iff_ne]; omega
  have hav : 0 < s.2.length := by
    have hk := HK.out
    simp only [okPath, Bool.and_eq_true, List.all_eq_true] at hk
    have := (okSeg_iff _).mp (hk.2 _ (List.mem_cons_self ..))
    exact this.2.2.1
  go_enter Tryd.func28, Tryd.ntmps28
  go_wp2_with fail
  refine (rcheck_any _ (s :: T) w H.out).mono ?_
  rintro e w1 ⟨rfl, hw⟩
  obtain rfl : w = w1 := hw.symm
  clear hw
  rw [show chkOf (s :: T) = 0 by simp [chkOf, HK.out]]
  go_wp2_with fail
  refine (ownAll_any _ (s :: T) w H.out).mono ?_
  rintro e w2 ⟨v2, R2, rfl, hR, ho, hb2⟩
  obtain ⟨r, R, rfl⟩ : ∃ r R, R2 = r :: R := by
    cases R2 with
    | nil => simp [sgs] at hR
    | cons r R => exact ⟨r, R, rfl⟩
  obtain ⟨k0, u0, l0⟩ := r
  simp only [sgs, List.map_cons, List.cons.injEq] at hR
  obtain ⟨hs0, hT⟩ := hR
  obtain ⟨g, cap2, cur, rfl, hg, hh, hc, hsz, ht⟩ := ho.open
  subst hs0
  simp only at hs hl hav
  subst hs
  have hu := ho.2.1 (2, u0, l0) (by simp)
  simp only at hu
  obtain ⟨ad3, b3, off3, c3, rfl, had3, ⟨hc3, hl3⟩, hr3⟩ := hu.at
  obtain rfl : ad3 = some ⟨b3, off3, none⟩ := by rcases had3 with h | h; exact h; omega
  have x0 := (ho.cells 0 (by simp)).1
  have x1 := (ho.cells 0 (by simp)).2
  simp only [Nat.zero_mul, List.getElem_cons_zero, Nat.zero_add] at x0 x1
  have hsz2 := hb2.size
  have gf : w2.frozen? ⟨g, 1, none⟩ = false := by simp [World.frozen?, hh]
  have hgl : g < w2.heap.size := lt_of_cell x0
  have HO : Hid (OwnS _ _ _ _) := ho
  have HB2 : Hid (Below _ _ _) := hb2
  have HRU : Hid (RowU _ _ _ _) := hr3
  have HLT : Hid (∀ x ∈ l0, x < 4294967296) := hu.2.1
  have HTT : Hid (sgs R = T) := hT
  clear ho hb2 hr3 hu hT had3 ht hh hsz
  have hba : Below w2.heap.size w2 (w2.alloc (.cells #[.int .u32 (a : Int)] 23)) := (Below.refl _ _).alloc (Nat.le_refl _) _
  have HN : Hid (∀ (j : Nat) (u : Value), (cellsU l0)[j]? = some u → (w2.alloc (.cells #[.int .u32 (a : Int)] 23)).cell? (Addr.add ⟨b3, off3, none⟩ j) = some u) := cellsU_at (HRU.out.below hba)
  have HO1 : Hid (OwnU (w2.alloc (.cells #[.int .u32 (a : Int)] 23)) w2.heap.size (.slice (some ⟨w2.heap.size, 0, none⟩) 1 1) [a]) := own_one (Nat.le_refl _) (heap_at_new _ _) ha
  have y1 : ∀ o, (w2.alloc o).cell? ⟨g, 1, none⟩ = some (.slice (some ⟨b3, off3, none⟩) l0.length c3) := fun o => below_cell ((Below.refl _ _).alloc (Nat.le_refl _) o) x1
  have hl0' : (l0.length : Int) < 255 := by omega
  go_wp2_with (at_builtin; refine wpList_append_own _ rfl _ _ 31 rfl w2.heap.size 23 i0 (.int .u32 0) 1 4 Tryd.underlying31 hi hz0 hz1 hz2 rfl (by decide) (.slice (some ⟨w2.heap.size, 0, none⟩) 1 1) 1 [.int .u32 (a : Int)] rfl HO1.out.1 ⟨b3, off3, none⟩ l0.length c3 (cellsU l0) rfl (by simp [cellsU]) HN.out (cellsU_one l0) (by unfold maxLen; omega) (by omega) (by simp) ?_; intro v3 w3 hown3 hgrow3 _; obtain ⟨ad5, c5, rfl⟩ := slice_of_owns hown3; have hb3 : Below w2.heap.size w2 w3 := hba.grown hgrow3 (by simp) (by intro k hk; simp [Value.ownBlock] at hk; omega); have z1 := below_cell hb3 x1; have zf : w3.frozen? ⟨g, 1, none⟩ = false := by rw [hb3.frozen (p := ⟨g, 1, none⟩) hgl]; exact gf)
  have hown4 : OwnU w3 w2.heap.size (.slice ad5 (1 + l0.length) c5) (a :: l0) := ⟨by
    rw [show (a :: l0).length = 1 + l0.length by simp; omega]
    exact hown3, by
    intro x hx
    rcases List.mem_cons.mp hx with h | h
    · rw [h]; exact ha
    · exact HLT.out x h, by simp; omega⟩
  have HP : Hid (PathAt (w3.setCell ⟨g, 1, none⟩ (.slice ad5 (1 + l0.length) c5)) (.slice (some ⟨g, 0, none⟩) (R.length + 1) cap2) ((2, a :: l0) :: sgs R)) := (HO.out.below hb3).setFirst hown4
  have HB4 : Hid (Below w.heap.size w (w3.setCell ⟨g, 1, none⟩ (.slice ad5 (1 + l0.length) c5))) := (HB2.out.trans (hb3.mono hsz2)).setCell (by exact hg) _
  clear hown3 hgrow3 hown4 hb3
  go_wp2
  go_ret2
  exact ⟨_, rfl, by have := HP.out; rw [HTT.out] at this; exact this, HB4.out⟩
end Go.Proofs.YtbdfigfjoiefiaaDoor
