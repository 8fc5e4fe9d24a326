/-
  parseNumbers over the words that a segment's text holds.
-/
import Derived.Test.YtbdfigfjoiefiaaDoorU2
import Derived.Test.YtbdfigfjoiefiaaDoorT3
import Derived.Test.YtbdfigfjoiefiaaDoorF0
import Derived.WalkSmall
namespace Go.Proofs.YtbdfigfjoiefiaaDoor
open Go.RowKit
theorem idx_no (c : UInt8) (x : List UInt8) (h : c ∉ x) : Lib.index x [c] = -1 := by
  induction x with
  | nil => rfl
  | cons a x ih =>
    have h1 : ¬ c = a := fun e => h (by simp [e])
    have h2 : Lib.index x [c] = -1 := ih fun e => h (List.mem_cons_of_mem _ e)
    simp [Lib.index, List.isPrefixOf, h1, h2]
theorem idx_in (c : UInt8) (x r : List UInt8) (h : c ∉ x) : Lib.index (x ++ c :: r) [c] = x.length := by
  induction x with
  | nil => simp [Lib.index, List.isPrefixOf]
  | cons a x ih =>
    have h1 : ¬ c = a := fun e => h (by simp [e])
    have h2 : Lib.index (x ++ c :: r) [c] = x.length := ih fun e => h (List.mem_cons_of_mem _ e)
    have h3 : ¬ ((x.length : Int) = -1) := by omega
    simp [Lib.index, List.isPrefixOf, h1, h2, h3]
theorem cut_in (c : UInt8) (x r : List UInt8) (h : c ∉ x) : Lib.cut (x ++ c :: r) [c] = (x, r, true) := by
  unfold Lib.cut
  rw [idx_in c x r h, if_pos (by omega)]
  simp
theorem cut_no (c : UInt8) (x : List UInt8) (h : c ∉ x) : Lib.cut x [c] = (x, [], false) := by
  unfold Lib.cut
  rw [idx_no c x h, if_neg (by decide)]
/-- The words of ASs. -/
def wd (l : List Nat) : List UInt8 := Lib.join (l.map Lib.decDigits) [32]
theorem blank_no (a : Nat) : (32 : UInt8) ∉ Lib.decDigits a := fun h => by
  have := (digits_are a _ h).1
  revert this; decide
theorem wd_cons (a b : Nat) (r : List Nat) : wd (a :: b :: r) = Lib.decDigits a ++ 32 :: wd (b :: r) := by
  simp [wd, Lib.join, List.intercalate]
theorem cut_wd (a : Nat) (r : List Nat) : Lib.cut (wd (a :: r)) [32] = (Lib.decDigits a, wd r, decide (r ≠ [])) := by
  cases r with
  | nil => rw [show wd [a] = Lib.decDigits a by simp [wd, Lib.join_one], cut_no _ _ (blank_no a)]; rfl
  | cons b r => rw [wd_cons, cut_in _ _ _ (blank_no a)]; rfl
/-- What Cut asks for. -/
def MaxAt (w : World) : Prop := ∃ m, w.cell? ⟨2, 0, none⟩ = some (.int .i64 m)
theorem MaxAt.below {w w' : World} (h : MaxAt w) (hb : Below w.heap.size w w') : MaxAt w' := h.elim fun m hm => ⟨m, below_cell hb hm⟩
set_option maxRecDepth 100000 in
set_option maxHeartbeats 1600000 in
theorem nums_yes (l : List Nat) (w : World) (h0 : l ≠ []) (h255 : l.length ≤ 255) (hx : ∀ x ∈ l, x < 4294967296) (ht : Tabs w) (hm : MaxAt w) :
    Calls Tryd.prog 91 #[.string ⟨(wd l).toArray⟩] w fun e w' => ∃ ad c, e = .returned (.tuple #[.slice ad l.length c, .bool true]) ∧ OwnU w' w.heap.size (.slice ad l.length c) l ∧ Below w.heap.size w w' := by
  obtain ⟨j0, hj0, hy0, hy1, hy2⟩ := info_parts info23
  have HT : Hid (Tabs w) := ht
  have HM : Hid (MaxAt w) := hm
  have HX : Hid (∀ x ∈ l, x < 4294967296) := hx
  have H0 : Hid (l ≠ []) := h0
  clear ht hm hx h0
  go_enter Tryd.func91, Tryd.ntmps91
  go_wp2
  go_loopw [0, 4, 5] (fun s t b wr => ∃ (d m : List Nat), d ++ m = l ∧ s = .string ⟨(wd m).toArray⟩ ∧ b = .bool (decide (m ≠ [])) ∧ OwnU wr w.heap.size t d ∧ Below w.heap.size w wr) (fun _ t _ _ => 256 - slen t)
  case atStart => exact ⟨[], l, rfl, rfl, by simp [H0.out], ⟨World.ownsRow_nil _ _ _ _, by simp, by simp⟩, Below.refl _ _⟩
  case round =>
    obtain ⟨d, m, hdm, rfl, rfl, ho, hb⟩ := hrel
    obtain ⟨ad, c, rfl⟩ := slice_of_owns ho.1
    have HO : Hid (OwnU _ _ _ _) := ho
    have HB : Hid (Below _ _ _) := hb
    have hlen : d.length + m.length = l.length := by rw [← hdm]; simp
    have HDM : Hid (d ++ m = l) := hdm
    clear ho hb hdm
    cases m with
    | nil =>
      obtain rfl : d = l := by simpa using HDM.out
      rw [show decide (([] : List Nat) ≠ []) = false by simp]
      go_wp2
      go_ret2
      exact ⟨_, _, rfl, HO.out, HB.out⟩
    | cons a r =>
      rw [show decide (a :: r ≠ []) = true by simp]
      simp only [List.length_cons] at hlen
      have hd : (d.length : Int) ≤ 255 := by omega
      obtain ⟨mm, hmm⟩ := HM.out.below HB.out
      have hsz : (wd (a :: r)).length < 4294967281 := by
        have h1 := digs_le (a :: r) (fun x hx => HX.out x (by rw [← HDM.out]; exact List.mem_append.mpr (Or.inr hx))) (by simp; omega)
        have h2 : (wd (a :: r)).length = (Lib.join ((a :: r).map Lib.decDigits) [32]).length := rfl
        omega
      have hcut := Tryd.strings_Cut ⟨(wd (a :: r)).toArray⟩ ⟨#[32]⟩ mm wr (by rw [list_size]; exact hsz) hmm
      simp only [cut_wd] at hcut
      have HCUT : Hid (Calls _ _ _ _ _) := hcut
      have ha : a < 4294967296 := HX.out a (by rw [← HDM.out]; simp)
      have hla : (Lib.decDigits a).length ≤ 100000 := by have := dig_le a (by omega); omega
      clear hcut hmm hsz
      go_wp2_with fail
      refine HCUT.out.mono ?_
      rintro e w4 ⟨rfl, nn, rfl⟩
      have HB4 : Hid (Below w.heap.size w (wr.drewN nn)) := below_drewN HB.out nn
      have HO4 : Hid (OwnU (wr.drewN nn) w.heap.size (.slice ad d.length c) d) := HO.out
      generalize wr.drewN nn = w4 at *
      go_wp2_with fail
      refine (pnum_ok (Lib.decDigits a) a w4 hla ha (pu_back a ha) (HT.out.below HB4.out)).mono ?_
      rintro e w5 ⟨rfl, hb5⟩
      rw [if_pos rfl, show decide (Lib.decDigits a = Lib.decDigits a) = true by simp]
      have HB5 : Hid (Below w.heap.size w w5) := HB4.out.trans (hb5.mono HB4.out.size)
      have HO5 : Hid (OwnU w5 w.heap.size (.slice ad d.length c) d) := HO4.out.below hb5
      have h5 := HB5.out.size
      clear hb5 HB4 HO4 HCUT
      go_wp2_with (at_builtin; refine wpList_append_own _ rfl _ _ 31 rfl w.heap.size 23 j0 (.int .u32 0) 1 4 Tryd.underlying31 hj0 hy0 hy1 hy2 rfl (by decide) _ _ _ rfl (HO5.out.1.alloc _) ⟨w5.heap.size, 0, none⟩ 1 1 [.int .u32 (a : Int)] rfl rfl (news1 w5 _ 23) (one_u32 _) (by unfold maxLen; omega) (by omega) (Nat.le_trans h5 (by simp)) ?_; intro v6 w6 hown6 hgrow6 _)
      have hos : OwnU w6 w.heap.size v6 (d ++ [a]) := by
        refine ⟨by rw [cellsU_snoc, List.length_append]; exact hown6, ?_, by simp; omega⟩
        intro x hx
        rcases List.mem_append.mp hx with hx | hx
        · exact HO5.out.2.1 x hx
        · rw [List.mem_singleton.mp hx]; exact ha
      obtain ⟨ad6, c6, rfl⟩ := slice_of_owns hown6
      have hbw : Below w.heap.size w5 w6 := ((Below.refl _ _).alloc h5 _).grown hgrow6 (Nat.le_trans h5 (by simp)) (fun k e => (HO5.out.1.lt k e).1)
      have HB6 : Hid (Below w.heap.size w w6) := HB5.out.trans hbw
      clear hown6 hgrow6 hbw
      go_roundw
      case rel => exact ⟨d ++ [a], r, by rw [← HDM.out]; simp, rfl, by simp, hos, HB6.out⟩
      case measure => simp [slen]; omega
end Go.Proofs.YtbdfigfjoiefiaaDoor
