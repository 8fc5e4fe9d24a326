/-
  The reference's Same.
-/
import Derived.Test.YtbdfigfjoiefiaaDoorC1
import Derived.BigQuiet
import Derived.Deep.RegionHeld3
namespace Go.Proofs.YtbdfigfjoiefiaaDoor
open Go.RowKit
set_option maxRecDepth 100000 in
theorem rsame_any (va vb : Value) (L M : List Sg) (w : World) (ha : PathAt w va L) (hb : PathAt w vb M) :
    Calls Tryd.prog 21 #[va, vb] w fun e w' => e = .returned (.bool (decide (L = M))) ∧ Below w.heap.size w w' := by
  obtain ⟨ad, b, off, cap, rfl, had, ⟨_, hl⟩, hr⟩ := ha
  obtain ⟨ad', b', off', cap', rfl, had', ⟨_, hl'⟩, hr'⟩ := hb
  by_cases hne : L.length = M.length
  · have HR : Hid (RowS _ _ _ _) := hr
    have HR' : Hid (RowS _ _ _ _) := hr'
    clear hr hr'
    go_enter Tryd.func21, Tryd.ntmps21
    go_wp2
    have HNe : Hid (L.length = M.length) := hne
    clear hne
    go_loopw [5] (fun i wr => ∃ k : Nat, k ≤ L.length ∧ i = .int .i64 k ∧ Below w.heap.size w wr ∧ L.take k = M.take k) (fun i _ => L.length - (intOf i).toNat)
    case atStart => exact ⟨0, Nat.zero_le _, rfl, Below.refl _ _, by simp⟩
    case round =>
      obtain ⟨k, hk, rfl, hb, hn⟩ := hrel
      have HN : Hid (_ : Prop) := hn
      have HB : Hid (Below _ _ _) := hb
      clear hn
      by_cases hlt : k < L.length
      · obtain rfl : ad = some ⟨b, off, none⟩ := by rcases had with h | h; exact h; omega
        obtain rfl : ad' = some ⟨b', off', none⟩ := by rcases had' with h | h; exact h; have := HNe.out; omega
        have hlt' : k < M.length := by have := HNe.out; omega
        obtain ⟨c0, va, c1, hva⟩ := (HR.out.below hb) k hlt
        obtain ⟨d0, vb, d1, hvb⟩ := (HR'.out.below hb) k hlt'
        have HE : Hid (L[k] = M[k] → L.take (k + 1) = M.take (k + 1)) := eq_take_succ HN.out hlt hlt'
        have HF : Hid (L[k] ≠ M[k] → L ≠ M) := ne_of_at hlt hlt'
        clear hb had had'
        generalize L[k] = s at *
        generalize M[k] = t at *
        obtain ⟨kd, av⟩ := s
        obtain ⟨ke, aw⟩ := t
        obtain ⟨ad2, b2, off2, cap2, rfl, h2⟩ := id hva
        obtain ⟨ad3, b3, off3, cap3, rfl, h3⟩ := id hvb
        have HV : Hid (ASAt _ _ _) := hva
        have HW : Hid (ASAt _ _ _) := hvb
        clear h2 hva h3 hvb
        simp only at c0 d0
        by_cases hq : kd = ke
        · subst hq
          go_wp2
          go_region_held (fun w' => w'.cell? ⟨b, off + k * 2, none⟩ = some (.int .i64 kd) ∧ w'.cell? ⟨b, off + k * 2 + 1, none⟩ = some (.slice ad2 av.length cap2) ∧ w'.cell? ⟨b', off' + k * 2, none⟩ = some (.int .i64 kd) ∧ w'.cell? ⟨b', off' + k * 2 + 1, none⟩ = some (.slice ad3 aw.length cap3)) (go_keep)
            (first | (go_at_call 23; refine (sameAS_any _ _ av aw _ (HV.out.below (Below.refl _ _).drew) (HW.out.below (Below.refl _ _).drew)).mono ?_; rintro e w5 ⟨rfl, hb5⟩; have q0 := below_cell (w := wr.drew) hb5 c0; have q1 := below_cell (w := wr.drew) hb5 c1; have q2 := below_cell (w := wr.drew) hb5 d0; have q3 := below_cell (w := wr.drew) hb5 d1))
          have HB2 : Hid (Below w.heap.size w w5) := HB.out.drew.trans (hb5.mono HB.out.size)
          clear hb5 q0 q1 q2 q3 c0 c1 d0 d1
          by_cases ho : av = aw
          · rw [show decide (av = aw) = true by simpa using ho]
            go_wp2
            go_roundw
            case rel => exact ⟨k + 1, by omega, by go_num, HB2.out, HE.out (by rw [ho])⟩
            case measure => simp [intOf]; omega
          · rw [show decide (av = aw) = false by simpa using ho]
            have HG : Hid (L ≠ M) := HF.out (fun h => ho (by injection h))
            go_wp2
            go_ret
            exact ⟨ret_bool (by simp [HG.out]), HB2.out⟩
        · go_wp2
          go_quiet (fail)
          have HG : Hid (L ≠ M) := HF.out (fun h => hq (by injection h))
          go_wp2
          go_ret
          exact ⟨ret_bool (by simp [HG.out]), below_drewN' HB.out _⟩
      · obtain rfl : k = L.length := by omega
        have HE : Hid (_ = _) := eq_of_take HN.out HNe.out
        go_wp2
        go_ret
        exact ⟨ret_bool (by simp [HE.out]), HB.out⟩
  · have hne2 : ¬ ((L.length : Int) = (M.length : Int)) := by omega
    have HE : Hid (¬ L = M) := fun h => hne (by rw [h])
    go_enter Tryd.func21, Tryd.ntmps21
    go_wp2
    go_ret
    exact ⟨ret_bool (by simp [HE.out]), Below.refl _ _⟩
end Go.Proofs.YtbdfigfjoiefiaaDoor
