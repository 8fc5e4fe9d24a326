/-
  The reference's Prepend.
-/
import Derived.Test.YtbdfigfjoiefiabGreatDoorN2
import Derived.Test.YtbdfigfjoiefiabGreatDoorN3
import Derived.Test.YtbdfigfjoiefiabGreatDoorN3
namespace Go.Proofs.YtbdfigfjoiefiabGreatDoor
open Go.RowKit
/-- What Prepend of the program leaves. -/
theorem prep_all (v : Value) (L : List Sg) (a : Nat) (conf : Bool) (w : World) (h : PathAt w v L) (ha : a < 4294967296) :
    Calls Tryz.prog 10 #[v, .int .u32 (a : Int), .bool conf] w fun e w' => PrepOk w (prepP L a conf) (prepE L a conf) e w' := by
  by_cases hbad : okPath L = false ∨ a = 0
  · refine (prep_bad v L a conf w h hbad).mono ?_
    rintro e w' ⟨rfl, hb⟩
    exact ⟨_, [], by rw [show prepE L a conf = 2 from if_pos hbad], by rw [show prepP L a conf = [] from if_pos hbad]; rfl, ⟨World.ownsRow_nil _ _ _ _, fun r hr => by simp at hr, by simp⟩, hb⟩
  · have hok : okPath L = true := by cases hq : okPath L with | true => rfl | false => exact absurd (Or.inl hq) hbad
    have ha0 : a ≠ 0 := fun h => hbad (Or.inr h)
    cases htk : takes (kindOf conf) L with
    | true =>
      cases L with
      | nil => simp [takes] at htk
      | cons s T =>
        have hk : s.1 = (kindOf conf : Nat) ∧ s.2.length < 255 := by simpa [takes] using htk
        have e1 : prepP (s :: T) a conf = ((kindOf conf : Int), a :: s.2) :: T := by unfold prepP; rw [if_neg hbad, if_pos htk]
        have e2 : prepE (s :: T) a conf = 0 := by unfold prepE; rw [if_neg hbad, if_pos htk]
        rw [e1, e2]
        cases conf with
        | true => exact prep_takes_true s T v a w h hok ha ha0 hk.1 hk.2
        | false => exact prep_takes_false s T v a w h hok ha ha0 hk.1 hk.2
    | false =>
      have e1 : prepP L a conf = otherP (kindOf conf : Nat) a L := by unfold prepP otherP; rw [if_neg hbad, if_neg (by rw [htk]; simp)]
      have e2 : prepE L a conf = otherE L := by unfold prepE otherE; rw [if_neg hbad, if_neg (by rw [htk]; simp)]
      rw [e1, e2]
      cases conf with
      | true => exact prep_other_true L v a w h hok ha ha0 htk
      | false => exact prep_other_false L v a w h hok ha ha0 htk
theorem pathAt_nil (w : World) : PathAt w (.slice none 0 0) [] := ⟨none, 0, 0, 0, rfl, Or.inr rfl, by simp, fun j hj => by simp at hj⟩
/-- The cells of a path that lies in rows of its own. -/
theorem OwnS.cells {w : World} {base g n cap : Nat} {R : List Sv} (h : OwnS w base (.slice (some ⟨g, 0, none⟩) n cap) R) (i : Nat) (hi : i < R.length) : w.cell? ⟨g, i * 2, none⟩ = some (.int .i64 R[i].1) ∧ w.cell? ⟨g, i * 2 + 1, none⟩ = some R[i].2.1 := by
  obtain ⟨⟨hn, hv⟩, hx, hl⟩ := h
  rcases hv with ⟨h0, _⟩ | ⟨g', cap', cur, e, hg, hh, hc, hm, hs, ht⟩
  · simp at h0
  · simp only [Value.slice.injEq, Option.some.injEq, Addr.mk.injEq, and_true] at e
    obtain ⟨rfl, rfl, rfl⟩ := e
    have e : ∀ i, i < R.length * 2 → cur.toList[i]? = (cellsS R)[i]? := fun i hi => by
      have : (cur.toList.take (R.length * 2))[i]? = (cellsS R)[i]? := by rw [ht]
      rwa [List.getElem?_take, if_pos hi] at this
    have hk := cellsS_at R i hi
    exact ⟨cell_of_row hh _ _ (by rw [e _ (by omega)]; exact hk.1), cell_of_row hh _ _ (by rw [e _ (by omega)]; exact hk.2)⟩
theorem OwnU.set {w : World} {base : Nat} {u : Value} {l : List Nat} (h : OwnU w base u l) {b : Nat} (hb : ∀ g, u.ownBlock = some g → g ≠ b) (i : Nat) (x : Value) : OwnU (w.setCell ⟨b, i, none⟩ x) base u l := ⟨owns_set h.1 hb i x, h.2⟩
/-- Rows of ASs lie apart from the row of segments. -/
theorem OwnU.apart {w : World} {base base' g n cap m : Nat} {xs : List Value} {u : Value} {l : List Nat} (h : OwnU w base u l) (hs : w.ownsRow base' 24 2 (.slice (some ⟨g, 0, none⟩) n cap) m xs) : ∀ g', u.ownBlock = some g' → g' ≠ g := by
  intro g' hg' e
  rcases owns_apart h.1 hs (by decide) with h0 | h0
  · rw [h0] at hg'; cases hg'
  · exact h0 (by rw [hg', e]; rfl)
/-- The ASs of the first segment are changed. -/
theorem OwnS.setFirst {w : World} {base base' g n cap : Nat} {k : Int} {u u' : Value} {l l' : List Nat} {R : List Sv} (h : OwnS w base (.slice (some ⟨g, 0, none⟩) n cap) ((k, u, l) :: R)) (hu : OwnU w base' u' l') :
    PathAt (w.setCell ⟨g, 1, none⟩ u') (.slice (some ⟨g, 0, none⟩) n cap) ((k, l') :: sgs R) := by
  have hn : n = R.length + 1 ∧ R.length + 1 ≤ cap := by
    obtain ⟨⟨_, hv⟩, _, _⟩ := h
    rcases hv with ⟨h0, _⟩ | ⟨g', cap', cur, e, hg, hh, hc, hm, hs, ht⟩
    · simp at h0
    · simp only [Value.slice.injEq] at e
      obtain ⟨_, rfl, rfl⟩ := e
      exact ⟨rfl, hc⟩
  have h0 := h.cells 0 (by simp)
  refine ⟨some ⟨g, 0, none⟩, g, 0, cap, by rw [hn.1]; simp [sgs], Or.inl rfl, ⟨by simpa [sgs] using hn.2, by have := h.2.2; simpa [sgs] using this⟩, fun i hi => ?_⟩
  cases i with
  | zero =>
    refine ⟨?_, u', ?_, ?_⟩
    · rw [World.cell?_setCell_other _ _ _ _ (by simp)]
      simpa using h0.1
    · exact World.cell?_setCell_same _ _ _ (by simpa using h0.2)
    · exact (hu.set (hu.apart h.1) 1 u').at
  | succ i =>
    have hi' : i < R.length := by simpa [sgs] using hi
    have hc := h.cells (i + 1) (by simpa using hi')
    have hr := h.2.1 R[i] (by simp)
    have e : ((k, l') :: sgs R)[i + 1] = (R[i].1, R[i].2.2) := by simp [sgs]
    rw [e]
    refine ⟨?_, R[i].2.1, ?_, ?_⟩
    · rw [World.cell?_setCell_other _ _ _ _ (by simp)]
      simpa using hc.1
    · rw [World.cell?_setCell_other _ _ _ _ (by simp)]
      simpa using hc.2
    · exact (hr.set (hr.apart h.1) 1 u').at
/-- Where the rows of a path of one segment and more lie. -/
theorem OwnS.open {w : World} {base : Nat} {v : Value} {r : Sv} {R : List Sv} (h : OwnS w base v (r :: R)) :
    ∃ g cap cur, v = .slice (some ⟨g, 0, none⟩) (R.length + 1) cap ∧ base ≤ g ∧ w.heap[g]? = some (.cells cur 24 (0, 0)) ∧ R.length + 1 ≤ cap ∧ cur.size = cap * 2 ∧ cur.toList.take ((R.length + 1) * 2) = cellsS (r :: R) := by
  obtain ⟨⟨hn, hv⟩, _, _⟩ := h
  rcases hv with ⟨_, h0⟩ | ⟨g, cap, cur, rfl, hg, hh, hc, hm, hs, ht⟩
  · simp at h0
  · exact ⟨g, cap, cur, rfl, hg, hh, hc, hs, ht⟩
end Go.Proofs.YtbdfigfjoiefiabGreatDoor
