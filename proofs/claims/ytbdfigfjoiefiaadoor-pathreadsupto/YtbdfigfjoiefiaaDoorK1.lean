/-
  The reference's Check and Length.
-/
import Derived.Test.YtbdfigfjoiefiaaDoorC2
namespace Go.Proofs.YtbdfigfjoiefiaaDoor
open Go.RowKit
theorem bad_of {L : List Sg} {i : Nat} (hi : i < L.length) (h : okSeg L[i] = false) : okPath L = false := by
  cases hq : okPath L with
  | false => rfl
  | true =>
    simp only [okPath, Bool.and_eq_true, List.all_eq_true] at hq
    have := hq.2 _ (List.getElem_mem hi)
    rw [h] at this; cases this
set_option maxRecDepth 100000 in
set_option maxHeartbeats 800000 in
theorem rcheck_any (v : Value) (L : List Sg) (w : World) (h : PathAt w v L) :
    Calls Tryd.prog 14 #[v] w fun e w' => e = .returned (.int .i64 (chkOf L)) ∧ w' = w := by
  obtain ⟨ad, b, off, cap, rfl, had, ⟨_, hl⟩, hr⟩ := h
  have HR : Hid (RowS _ _ _ _) := hr
  clear hr
  by_cases h16 : 16 < L.length
  · go_enter Tryd.func14, Tryd.ntmps14
    go_wp2
    go_ret
    exact ⟨ret_int (by have : ¬ L.length ≤ 16 := by omega
                       simp [chkOf, okPath, this]), rfl⟩
  · go_enter Tryd.func14, Tryd.ntmps14
    go_wp2
    go_loopw [3] (fun i wr => ∃ k : Nat, k ≤ L.length ∧ i = .int .i64 k ∧ wr = w ∧ (L.take k).all okSeg = true) (fun i _ => L.length - (intOf i).toNat)
    case atStart => exact ⟨0, Nat.zero_le _, rfl, rfl, by simp⟩
    case round =>
      obtain ⟨k, hk, rfl, hw, hn⟩ := hrel
      obtain rfl : w = wr := hw.symm
      clear hw
      have HN : Hid (_ : Prop) := hn
      clear hn
      by_cases hlt : k < L.length
      · obtain rfl : ad = some ⟨b, off, none⟩ := by rcases had with h | h; exact h; omega
        obtain ⟨c0, va, c1, hva⟩ := HR.out k hlt
        have HT : Hid (L.take (k + 1) = L.take k ++ [L[k]]) := take_snoc L k hlt
        have HBad : Hid (okSeg L[k] = false → okPath L = false) := bad_of hlt
        clear had
        generalize hs : L[k] = s at *
        obtain ⟨kd, av⟩ := s
        obtain ⟨ad2, b2, off2, cap2, rfl, had2, ⟨_, hl2⟩, hr2⟩ := id hva
        simp only at had2 hr2 hl2
        have HRU : Hid (RowU _ _ _ _) := hr2
        have HA2 : Hid (ad2 = some ⟨b2, off2, none⟩ ∨ av.length = 0) := had2
        clear hva hr2 had2
        simp only at c0
        by_cases h1 : kd < 1
        · have HG : Hid (okPath L = false) := HBad.out (by simp [okSeg]; omega)
          go_wp2
          go_ret
          exact ⟨ret_int (by simp [chkOf, HG.out]), rfl⟩
        · by_cases h2 : 4 < kd
          · have HG : Hid (okPath L = false) := HBad.out (by simp [okSeg]; omega)
            go_wp2
            go_ret
            exact ⟨ret_int (by simp [chkOf, HG.out]), rfl⟩
          · by_cases h3 : av.length < 1
            · have HG : Hid (okPath L = false) := HBad.out (by simp [okSeg]; omega)
              have h3' : (av.length : Int) < 1 := by omega
              clear h3
              go_wp2
              go_ret
              exact ⟨ret_int (by simp [chkOf, HG.out]), rfl⟩
            · by_cases h4 : 255 < av.length
              · have HG : Hid (okPath L = false) := HBad.out (by simp [okSeg]; omega)
                have h4' : 255 < (av.length : Int) := by omega
                have h3' : ¬ ((av.length : Int) < 1) := by omega
                go_wp2
                go_ret
                exact ⟨ret_int (by simp [chkOf, HG.out]), rfl⟩
              · obtain rfl : ad2 = some ⟨b2, off2, none⟩ := by rcases HA2.out with h | h; exact h; omega
                have h3' : ¬ ((av.length : Int) < 1) := by omega
                have h4' : ¬ (255 < (av.length : Int)) := by omega
                have HOK : Hid (1 ≤ kd ∧ kd ≤ 4 ∧ 1 ≤ av.length ∧ av.length ≤ 255) := ⟨by omega, by omega, by omega, by omega⟩
                go_wp2
                clear h3' h4' h1 h2
                go_loopw [4] (fun i wr => ∃ j : Nat, j ≤ av.length ∧ i = .int .i64 j ∧ wr = w ∧ 0 ∉ av.take j) (fun i _ => av.length - (intOf i).toNat)
                case atStart => exact ⟨0, Nat.zero_le _, rfl, rfl, by simp⟩
                case round =>
                  obtain ⟨j, hj, rfl, hw, hz⟩ := hrel
                  obtain rfl : w = wr := hw.symm
                  clear hw
                  have HZ : Hid (_ : Prop) := hz
                  clear hz
                  by_cases hlt2 : j < av.length
                  · have hc := (HRU.out j hlt2).1
                    have HS : Hid (av.take (j + 1) = av.take j ++ [av[j]]) := take_snoc av j hlt2
                    have HM : Hid (av[j] ∈ av) := List.getElem_mem hlt2
                    generalize av[j] = x at *
                    by_cases hx : x = 0
                    · subst hx
                      have HG : Hid (okPath L = false) := HBad.out (by simp [okSeg, HM.out])
                      go_wp2
                      go_ret
                      exact ⟨ret_int (by simp [chkOf, HG.out]), rfl⟩
                    · have hx' : ¬ ((x : Int) = 0) := by omega
                      have HX : Hid (0 ∉ av.take (j + 1)) := by unfold Hid; rw [HS.out]; simp; exact ⟨HZ.out, fun h => hx h.symm⟩
                      clear hx
                      go_wp2
                      go_roundw
                      case rel => exact ⟨j + 1, by omega, by go_num, trivial, HX.out⟩
                      case measure => simp [intOf]; omega
                  · obtain rfl : j = av.length := by omega
                    rw [List.take_length] at HZ
                    have HK : Hid ((L.take (k + 1)).all okSeg = true) := by
                      have hk1 : okSeg (kd, av) = true := (okSeg_iff _).mpr ⟨HOK.out.1, HOK.out.2.1, HOK.out.2.2.1, HOK.out.2.2.2, HZ.out⟩
                      unfold Hid
                      rw [HT.out]; simp [hk1]; simpa using HN.out
                    go_wp2
                    go_roundw
                    case rel => exact ⟨k + 1, by omega, by go_num, trivial, HK.out⟩
                    case measure => simp [intOf]; omega
      · obtain rfl : k = L.length := by omega
        go_wp2
        go_ret
        refine ⟨ret_int ?_, rfl⟩
        have := HN.out
        rw [List.take_length] at this
        simp [chkOf, okPath, this]; omega
end Go.Proofs.YtbdfigfjoiefiaaDoor
