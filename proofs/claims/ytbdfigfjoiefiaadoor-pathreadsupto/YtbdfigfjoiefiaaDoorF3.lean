/-
  The text of a path.
-/
import Derived.Test.YtbdfigfjoiefiaaDoorF2
namespace Go.Proofs.YtbdfigfjoiefiaaDoor
open Go.RowKit
theorem ASAt.lt {w : World} {v : Value} {l : List Nat} (h : ASAt w v l) : ∀ x ∈ l, x < 4294967296 := by
  obtain ⟨_, _, _, _, _, _, _, hr⟩ := h
  intro x hx
  obtain ⟨j, hj, e⟩ := List.getElem_of_mem hx
  rw [← e]; exact (hr j hj).2
theorem ret2s {a b : ByteArray} {x : Value} (h : a = b) : Ending.returned (.tuple #[.string a, x]) = .returned (.tuple #[.string b, x]) := by rw [h]
/-- The texts of segments. -/
def segTs (L : List Sg) : List ByteArray := L.map fun s => ⟨(segT s).toArray⟩
theorem segTs_length (L : List Sg) : (segTs L).length = L.length := by simp [segTs]
theorem segTs_data (L : List Sg) : (segTs L).map (·.data.toList) = L.map segT := by simp [segTs]
/-- What stands in memory while a path is written. -/
structure TxAt (w wr : World) (xs : List ByteArray) (n : Nat) : Prop where
  row : RowT wr w.heap.size (parts xs n)
  bel : Below w.heap.size w wr
  bel2 : w.heap.size + 1 ≤ wr.heap.size
theorem TxAt.below {w wr w' : World} {xs : List ByteArray} {n : Nat} (h : TxAt w wr xs n) (hb : Below wr.heap.size wr w') : TxAt w w' xs n :=
  ⟨h.row.below hb, h.bel.trans (hb.mono h.bel.size), Nat.le_trans h.bel2 hb.size⟩
theorem TxAt.next {w wr : World} {xs : List ByteArray} {n : Nat} (h : TxAt w wr xs n) (hn : n < xs.length) (x : ByteArray) (hx : xs[n] = x) : TxAt w (wr.setCell ⟨w.heap.size, n, none⟩ (.string x)) xs (n + 1) := by
  refine ⟨?_, h.bel.setCell (by simp) _, by simpa using h.bel2⟩
  rw [parts_succ xs n hn, hx]; exact h.row.set n x
theorem okPath_seg {L : List Sg} (h : okPath L = true) (i : Nat) (hi : i < L.length) : okSeg L[i] = true := by
  simp only [okPath, Bool.and_eq_true, List.all_eq_true] at h
  exact h.2 _ (List.getElem_mem hi)
theorem okPath_len {L : List Sg} (h : okPath L = true) : L.length ≤ 16 := by
  simp only [okPath, Bool.and_eq_true, decide_eq_true_eq] at h
  exact h.1
theorem PathAt.lt {w : World} {v : Value} {L : List Sg} (h : PathAt w v L) : ∀ s ∈ L, ∀ x ∈ s.2, x < 4294967296 := by
  obtain ⟨_, _, _, _, _, _, _, hr⟩ := h
  intro s hs
  obtain ⟨j, hj, e⟩ := List.getElem_of_mem hs
  obtain ⟨_, v, _, ha⟩ := hr j hj
  rw [← e]; exact ha.lt
theorem texts_le {L : List Sg} (h : okPath L = true) (hx : ∀ s ∈ L, ∀ x ∈ s.2, x < 4294967296) : (Lib.join (L.map segT) [32]).length ≤ 85728 := by
  have := join_le (L.map segT) 5357 (fun x hx' => by
    obtain ⟨s, hs, rfl⟩ := List.mem_map.mp hx'
    simp only [okPath, Bool.and_eq_true, List.all_eq_true] at h
    have := (okSeg_iff s).mp (h.2 s hs)
    exact segT_le s (hx s hs) this.2.2.2.1)
  rw [List.length_map] at this
  have := okPath_len h
  omega
theorem text_bad (v : Value) (L : List Sg) (w : World) (h : PathAt w v L) (hok : okPath L = false) :
    Calls Tryd.prog 31 #[v] w fun e w' => e = .returned (.tuple #[.string ⟨#[]⟩, .int .i64 2]) ∧ Below w.heap.size w w' := by
  have H : Hid (PathAt _ _ _) := h
  obtain ⟨ad, b, off, cap, rfl, h2⟩ := h
  clear h2
  go_enter Tryd.func31, Tryd.ntmps31
  go_wp2_with fail
  refine (check_any _ L w H.out).mono ?_
  rintro e w1 ⟨rfl, hb1⟩
  rw [show chkOf L = 2 by simp [chkOf, hok]]
  go_wp2
  go_ret2
  exact ⟨rfl, hb1⟩
set_option maxRecDepth 100000 in
set_option maxHeartbeats 800000 in
theorem text_any (v : Value) (L : List Sg) (w : World) (h : PathAt w v L) (hok : okPath L = true) (ht : Tabs w) :
    Calls Tryd.prog 31 #[v] w fun e w' => e = .returned (.tuple #[.string ⟨(textOf L).toArray⟩, .int .i64 0]) ∧ Below w.heap.size w w' := by
  have H : Hid (PathAt _ _ _) := h
  have hlt := h.lt
  have HTL : Hid (_ : Prop) := texts_le hok hlt
  obtain ⟨ad, b, off, cap, rfl, had, ⟨_, hl⟩, hr⟩ := h
  have HK : Hid (okPath L = true) := hok
  have h16 := okPath_len hok
  have HR : Hid (RowS _ _ _ _) := hr
  have HT : Hid (Tabs _) := ht
  clear hr ht hok hlt
  by_cases hnil : L.length = 0
  · have hL : L = [] := List.length_eq_zero_iff.mp hnil
    subst hL
    go_enter Tryd.func31, Tryd.ntmps31
    go_wp2_with fail
    refine (check_any _ [] w H.out).mono ?_
    rintro e w1 ⟨rfl, hb1⟩
    rw [show chkOf [] = 0 by rfl]
    go_wp2
    go_ret2
    exact ⟨rfl, hb1⟩
  · have hm := made_texts L.length (by omega)
    have hz0 : ((L.length : Int) == 0) = false := by rw [beq_eq_false_iff_ne]; omega
    obtain rfl : ad = some ⟨b, off, none⟩ := by rcases had with h | h; exact h; omega
    clear had
    go_enter Tryd.func31, Tryd.ntmps31
    go_wp2_with fail
    refine (check_any _ L w H.out).mono ?_
    rintro e w1 ⟨rfl, hb1⟩
    rw [show chkOf L = 0 by simp [chkOf, HK.out]]
    have HB1 : Hid (Below _ _ _) := hb1
    have HR1 : Hid (RowS w1 b off L) := HR.out.below hb1
    have HT1 : Hid (Tabs w1) := HT.out.below hb1
    clear hb1
    go_wp2
    have hq0 : TxAt w1 (w1.alloc (.cells (madeCells #[.string ⟨#[]⟩] L.length) 9)) (segTs L) 0 := by
      refine ⟨?_, (Below.refl _ _).alloc (by simp) _, by simp⟩
      rw [parts_zero, segTs_length]; exact RowT.made _ _ _ rfl
    generalize w1.alloc (.cells (madeCells #[.string ⟨#[]⟩] L.length) 9) = W at *
    clear hm
    go_loopw [18] (fun i wr => ∃ n : Nat, n ≤ L.length ∧ i = .int .i64 n ∧ TxAt w1 wr (segTs L) n) (fun i _ => L.length - (intOf i).toNat)
    case atStart => exact ⟨0, Nat.zero_le _, rfl, hq0⟩
    case round =>
      obtain ⟨n, hn, rfl, hq⟩ := hrel
      clear hq0
      have HQ : Hid (TxAt _ _ _ _) := hq
      by_cases hlt : n < L.length
      · obtain ⟨c0, va, c1, hva⟩ := (HR1.out.below hq.bel) n hlt
        have hs := (okSeg_iff _).mp (okPath_seg HK.out n hlt)
        have hy : (segTs L)[n]'(by rw [segTs_length]; exact hlt) = ⟨(segT L[n]).toArray⟩ := by simp [segTs]
        have HY : Hid (_ = _) := hy
        have HTT : Hid (Tabs _) := HT1.out.below hq.bel
        clear hq hy
        generalize L[n] = s at *
        obtain ⟨kd, av⟩ := s
        obtain ⟨hs1, hs4, _, hs255, _⟩ := hs
        simp only at c0 hs1 hs4 hs255 hva
        obtain ⟨k, rfl⟩ : ∃ k : Nat, kd = k := ⟨kd.toNat, by omega⟩
        obtain ⟨ad2, b2, off2, cap2, rfl, h2⟩ := id hva
        have HV : Hid (ASAt _ _ _) := hva
        clear h2 hva
        go_wp2_with fail
        have hba : Below wr.heap.size wr (wr.alloc (.cells #[.int .i64 (k : Int), .slice ad2 av.length cap2] 48)) := (Below.refl _ _).alloc (Nat.le_refl _) _
        refine (segText_any k _ av _ (HV.out.below hba) (HTT.out.below hba) (by omega) (by omega) hs255 HV.out.lt).mono ?_
        rintro e w2 ⟨rfl, hb2⟩
        have hq1 := (HQ.out.below hba).below hb2
        have hr1 := hq1.row n (by rw [parts_length, segTs_length]; exact hlt)
        have hf := hr1.2
        have hcc := hr1.1
        have HQ1 : Hid (TxAt _ _ _ _) := hq1.next (by rw [segTs_length]; exact hlt) _ HY.out
        clear hq1 hb2 hr1 c0 c1 HY HQ hba
        go_wp2
        go_roundw
        case rel => exact ⟨n + 1, by omega, by go_num, HQ1.out⟩
        case measure => simp [intOf]; omega
      · obtain rfl : n = L.length := by omega
        have hrow : ∀ (j : Nat) x, (segTs L)[j]? = some x → wr.cell? ⟨w1.heap.size, 0 + j, none⟩ = some (.string x) := by
          intro j x hj
          have hr := hq.row
          rw [show L.length = (segTs L).length by rw [segTs_length], parts_all] at hr
          obtain ⟨hj', e⟩ := List.getElem?_eq_some_iff.mp hj
          have := (hr j hj').1
          rw [Nat.zero_add, ← e]; exact this
        have hjoin : Calls Tryd.prog 56 #[.slice (some ⟨w1.heap.size, 0, none⟩) L.length L.length, .string ⟨#[32]⟩] wr fun e w' => e = .returned (.string ⟨(Lib.join (L.map segT) [32]).toArray⟩) ∧ Below wr.heap.size wr w' := by
          have := Tryd.strings_Join w1.heap.size 0 L.length (segTs L) ⟨#[32]⟩ wr hrow (by have := hq.bel2; omega) (by rw [segTs_length]; omega) (by rw [segTs_length]; omega) (by rw [segTs_data]; exact Nat.le_trans HTL.out (by omega))
          rw [segTs_length, segTs_data] at this
          exact this
        have HC : Hid (Calls _ _ _ _ _) := hjoin
        have HBel : Hid (Below w.heap.size w wr) := HB1.out.trans (hq.bel.mono HB1.out.size)
        have HX : Hid (textOf L = Lib.join (L.map segT) [32]) := by unfold Hid textOf; rw [if_neg (by intro h; rw [h] at hnil; exact hnil rfl)]
        clear hrow hq hjoin
        go_wp2_with fail
        refine HC.out.mono ?_
        rintro e w5 ⟨rfl, hb5⟩
        have hb6 := HBel.out.trans (hb5.mono HBel.out.size)
        go_wp2
        go_ret2
        exact ⟨ret2s (by rw [HX.out]), hb6⟩
end Go.Proofs.YtbdfigfjoiefiaaDoor
