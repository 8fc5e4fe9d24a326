/-
  What only reads: may a segment be, may a path be, how long is it.
-/
import Derived.Test.YtbdfigfjoiefiaaDoorC1
namespace Go.Proofs.YtbdfigfjoiefiaaDoor
open Go.RowKit
theorem isConfed_any (k : Int) (v : Value) (l : List Nat) (w : World) :
    Calls Tryd.prog 40 #[.agg #[.int .i64 k, v]] w fun e w' => e = .returned (.bool (confed (k, l))) ∧ Below w.heap.size w w' := by
  by_cases h3 : k = 3
  · subst h3
    go_enter Tryd.func40, Tryd.ntmps40
    go_wp2
    go_ret
    exact ⟨rfl, (Below.refl _ _).alloc (by simp) _⟩
  · by_cases h4 : k = 4
    · subst h4
      go_enter Tryd.func40, Tryd.ntmps40
      go_wp2
      go_ret
      exact ⟨rfl, (Below.refl _ _).alloc (by simp) _⟩
    · go_enter Tryd.func40, Tryd.ntmps40
      go_wp2
      go_ret
      exact ⟨ret_bool (by simp [confed, h3, h4]), (Below.refl _ _).alloc (by simp) _⟩
theorem rconfed_any (k : Int) (l : List Nat) (w : World) :
    Calls Tryd.prog 46 #[.int .i64 k] w fun e w' => e = .returned (.bool (confed (k, l))) ∧ w' = w := by
  by_cases h3 : k = 3
  · subst h3
    go_enter Tryd.func46, Tryd.ntmps46
    go_wp2
    go_ret
    exact ⟨rfl, rfl⟩
  · by_cases h4 : k = 4
    · subst h4
      go_enter Tryd.func46, Tryd.ntmps46
      go_wp2
      go_ret
      exact ⟨rfl, rfl⟩
    · go_enter Tryd.func46, Tryd.ntmps46
      go_wp2
      go_ret
      exact ⟨ret_bool (by simp [confed, h3, h4]), rfl⟩
theorem maySeg_any (k : Int) (v : Value) (l : List Nat) (w : World) (h : ASAt w v l) :
    Calls Tryd.prog 41 #[.agg #[.int .i64 k, v]] w fun e w' => e = .returned (.bool (okSeg (k, l))) ∧ Below w.heap.size w w' := by
  have H : Hid (ASAt _ _ _) := h
  obtain ⟨ad, b, off, cap, rfl, had, ⟨_, hl⟩, hr⟩ := h
  clear hr had
  by_cases h1 : k < 1
  · go_enter Tryd.func41, Tryd.ntmps41
    go_wp2
    go_ret
    exact ⟨ret_bool (by simp [okSeg]; omega), (Below.refl _ _).alloc (by simp) _⟩
  · by_cases h2 : 4 < k
    · go_enter Tryd.func41, Tryd.ntmps41
      go_wp2
      go_ret
      exact ⟨ret_bool (by simp [okSeg]; omega), (Below.refl _ _).alloc (by simp) _⟩
    · by_cases h3 : l.length < 1
      · go_enter Tryd.func41, Tryd.ntmps41
        go_wp2
        go_ret
        exact ⟨ret_bool (by simp [okSeg]; omega), (Below.refl _ _).alloc (by simp) _⟩
      · by_cases h4 : 255 < l.length
        · go_enter Tryd.func41, Tryd.ntmps41
          go_wp2
          go_ret
          exact ⟨ret_bool (by simp [okSeg]; omega), (Below.refl _ _).alloc (by simp) _⟩
        · have hb : Below w.heap.size w (w.alloc (.cells #[.int .i64 k, .slice ad l.length cap] 48)) := (Below.refl _ _).alloc (by simp) _
          have HB : Hid (Below _ _ _) := hb
          clear hb
          go_enter Tryd.func41, Tryd.ntmps41
          go_wp2_with fail
          refine (contains_any _ l 0 _ (H.out.below HB.out)).mono ?_
          rintro e w' ⟨rfl, rfl⟩
          by_cases hm : 0 ∈ l
          · rw [show decide (0 ∈ l) = true by simp [hm]]
            go_wp2
            go_ret
            exact ⟨ret_bool (by simp [okSeg, hm]), HB.out⟩
          · rw [show decide (0 ∈ l) = false by simp [hm]]
            go_wp2
            go_ret
            exact ⟨ret_bool (by simp [okSeg, hm]; omega), HB.out⟩
/-- What Check answers. -/
def chkOf (L : List Sg) : Int := if okPath L then 0 else 2
set_option maxRecDepth 100000 in
theorem check_any (v : Value) (L : List Sg) (w : World) (h : PathAt w v L) :
    Calls Tryd.prog 13 #[v] w fun e w' => e = .returned (.int .i64 (chkOf L)) ∧ Below w.heap.size w w' := by
  obtain ⟨ad, b, off, cap, rfl, had, ⟨_, hl⟩, hr⟩ := h
  have HR : Hid (RowS _ _ _ _) := hr
  clear hr
  by_cases h16 : 16 < L.length
  · go_enter Tryd.func13, Tryd.ntmps13
    go_wp2
    go_ret
    exact ⟨ret_int (by have : ¬ L.length ≤ 16 := by omega
                       simp [chkOf, okPath, this]), Below.refl _ _⟩
  · go_enter Tryd.func13, Tryd.ntmps13
    go_wp2
    go_loopw [10] (fun i wr => ∃ k : Nat, k ≤ L.length ∧ i = .int .i64 k ∧ Below w.heap.size w wr ∧ (L.take k).all okSeg = true) (fun i _ => L.length - (intOf i).toNat)
    case atStart => exact ⟨0, Nat.zero_le _, rfl, Below.refl _ _, by simp⟩
    case round =>
      obtain ⟨k, hk, rfl, hb, hn⟩ := hrel
      have HN : Hid (_ : Prop) := hn
      have HB : Hid (Below _ _ _) := hb
      clear hn
      by_cases hlt : k < L.length
      · obtain rfl : ad = some ⟨b, off, none⟩ := by rcases had with h | h; exact h; omega
        obtain ⟨c0, va, c1, hva⟩ := (HR.out.below hb) k hlt
        have HT := take_snoc L k hlt
        have HT' : Hid (_ = _) := HT
        clear HT hb had
        generalize hs : L[k] = s at *
        obtain ⟨kd, av⟩ := s
        obtain ⟨ad2, b2, off2, cap2, rfl, h2⟩ := id hva
        have HV : Hid (ASAt _ _ _) := hva
        clear h2 hva
        go_wp2_with fail
        refine (maySeg_any kd _ av _ (HV.out.below ((Below.refl _ _).alloc (Nat.le_refl _) _))).mono ?_
        rintro e w' ⟨rfl, hb2⟩
        have HB2 : Hid (Below w.heap.size w w') := (HB.out.alloc HB.out.size _).trans (hb2.mono (Nat.le_trans HB.out.size (by simp)))
        clear hb2 c0 c1
        by_cases ho : okSeg (kd, av) = true
        · rw [ho]
          go_wp2
          go_roundw
          case rel => exact ⟨k + 1, by omega, by go_num, HB2.out, by rw [HT'.out]; simp [ho]; simpa using HN.out⟩
          case measure => simp [intOf]; omega
        · rw [Bool.not_eq_true] at ho
          rw [ho]
          go_wp2
          go_ret
          refine ⟨ret_int ?_, HB2.out⟩
          have : okPath L = false := by
            cases hq : okPath L with
            | false => rfl
            | true =>
              simp only [okPath, Bool.and_eq_true, List.all_eq_true] at hq
              have := hq.2 _ (List.getElem_mem hlt)
              rw [hs, ho] at this; cases this
          simp [chkOf, this]
      · obtain rfl : k = L.length := by omega
        go_wp2
        go_ret
        refine ⟨ret_int ?_, HB.out⟩
        have := HN.out
        rw [List.take_length] at this
        simp [chkOf, okPath, this]; omega
end Go.Proofs.YtbdfigfjoiefiaaDoor
