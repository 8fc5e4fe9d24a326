/-
  Same, and the reference's Same.
-/
import Derived.Test.YtbdfigfjoiefiabGreatDoorC1
import Derived.BigQuiet
import Derived.Deep.RegionHeld3
namespace Go.Proofs.YtbdfigfjoiefiabGreatDoor
open Go.RowKit
theorem same1_any (k1 k2 : Int) (v1 v2 : Value) (l m : List Nat) (w : World) (h1 : ASAt w v1 l) (h2 : ASAt w v2 m) :
    Calls Tryz.prog 24 #[.agg #[.int .i64 k1, v1], .agg #[.int .i64 k2, v2]] w fun e w' => e = .returned (.bool (decide ((k1, l) = (k2, m)))) ∧ Below w.heap.size w w' := by
  have H1 : Hid (ASAt _ _ _) := h1
  have H2 : Hid (ASAt _ _ _) := h2
  obtain ⟨ad, b, off, cap, rfl, had, _, hr⟩ := h1
  obtain ⟨ad', b', off', cap', rfl, had', _, hr'⟩ := h2
  clear hr had hr' had'
  have HB : Hid (Below w.heap.size w ((w.alloc (.cells #[.int .i64 k1, .slice ad l.length cap] 24)).alloc (.cells #[.int .i64 k2, .slice ad' m.length cap'] 24))) := ((Below.refl _ _).alloc (by simp) _).alloc (by simp) _
  by_cases hk : k1 = k2
  · subst hk
    go_enter Tryz.func24, Tryz.ntmps24
    go_wp2_with fail
    refine (eqAS_any _ _ l m _ (H1.out.below HB.out) (H2.out.below HB.out)).mono ?_
    rintro e w' ⟨rfl, hb⟩
    have HB2 : Hid (Below w.heap.size w w') := HB.out.trans (hb.mono HB.out.size)
    clear hb
    go_wp2
    go_ret
    exact ⟨ret_bool (by simp), HB2.out⟩
  · go_enter Tryz.func24, Tryz.ntmps24
    go_wp2
    go_ret
    exact ⟨ret_bool (by simp [hk]), HB.out⟩
set_option maxRecDepth 100000 in
theorem eqFunc_any (va vb : Value) (L M : List Sg) (w : World) (ha : PathAt w va L) (hb : PathAt w vb M) :
    Calls Tryz.prog 23 #[va, vb, .func (.func 24) #[] #[]] w fun e w' => e = .returned (.bool (decide (L = M))) ∧ Below w.heap.size w w' := by
  obtain ⟨ad, b, off, cap, rfl, had, ⟨_, hl⟩, hr⟩ := ha
  obtain ⟨ad', b', off', cap', rfl, had', ⟨_, hl'⟩, hr'⟩ := hb
  by_cases hne : L.length = M.length
  · have HR : Hid (RowS _ _ _ _) := hr
    have HR' : Hid (RowS _ _ _ _) := hr'
    clear hr hr'
    go_enter Tryz.func23, Tryz.ntmps23
    go_wp2
    have HNe : Hid (L.length = M.length) := hne
    clear hne
    go_loopw [17] (fun i wr => ∃ k : Nat, k ≤ L.length ∧ i = .int .i64 k ∧ Below w.heap.size w wr ∧ L.take k = M.take k) (fun i _ => L.length - (intOf i).toNat)
    case atStart => exact ⟨0, Nat.zero_le _, rfl, Below.refl _ _, by simp⟩
    case round =>
      obtain ⟨k, hk, rfl, hb, hn⟩ := hrel
      have HN : Hid (_ : Prop) := hn
      have HB : Hid (Below _ _ _) := hb
      clear hn
      by_cases hlt : k < L.length
      · obtain rfl : ad = some ⟨b, off, none⟩ := by rcases had with h | h; exact h; omega
        obtain rfl : ad' = some ⟨b', off', none⟩ := by rcases had' with h | h; exact h; have := HNe.out; omega
        have hlt' : k < M.length := by have := HNe.out; omega
        obtain ⟨c0, va, c1, hva⟩ := (HR.out.below hb) k hlt
        obtain ⟨d0, vb, d1, hvb⟩ := (HR'.out.below hb) k hlt'
        have HE : Hid (L[k] = M[k] → L.take (k + 1) = M.take (k + 1)) := eq_take_succ HN.out hlt hlt'
        have HF : Hid (L[k] ≠ M[k] → L ≠ M) := ne_of_at hlt hlt'
        clear hb had had'
        generalize L[k] = s at *
        generalize M[k] = t at *
        obtain ⟨kd, av⟩ := s
        obtain ⟨ke, aw⟩ := t
        obtain ⟨ad2, b2, off2, cap2, rfl, h2⟩ := id hva
        obtain ⟨ad3, b3, off3, cap3, rfl, h3⟩ := id hvb
        have HV : Hid (ASAt _ _ _) := hva
        have HW : Hid (ASAt _ _ _) := hvb
        clear h2 hva h3 hvb
        simp only at c0 d0
        have d0' : ∀ o, (wr.alloc o).cell? ⟨b', off' + k * 2, none⟩ = some (.int .i64 ke) := fun o => below_cell ((Below.refl _ wr).alloc (Nat.le_refl _) o) d0
        have d1' : ∀ o, (wr.alloc o).cell? ⟨b', off' + k * 2 + 1, none⟩ = some (.slice ad3 aw.length cap3) := fun o => below_cell ((Below.refl _ wr).alloc (Nat.le_refl _) o) d1
        clear d0 d1
        go_wp2_with fail
        refine (same1_any kd ke _ _ av aw _ (HV.out.below (((Below.refl _ _).alloc (Nat.le_refl _) _).alloc (by simp) _)) (HW.out.below (((Below.refl _ _).alloc (Nat.le_refl _) _).alloc (by simp) _))).mono ?_
        rintro e w' ⟨rfl, hb2⟩
        have HB2 : Hid (Below w.heap.size w w') := ((HB.out.alloc HB.out.size _).alloc (Nat.le_trans HB.out.size (by simp)) _).trans (hb2.mono (Nat.le_trans HB.out.size (by simp; omega)))
        clear hb2 c0 c1 d0' d1'
        by_cases ho : (kd, av) = (ke, aw)
        · rw [show decide ((kd, av) = (ke, aw)) = true by simpa using ho]
          go_wp2
          go_roundw
          case rel => exact ⟨k + 1, by omega, by go_num, HB2.out, HE.out ho⟩
          case measure => simp [intOf]; omega
        · rw [show decide ((kd, av) = (ke, aw)) = false by simpa using ho]
          have HG : Hid (L ≠ M) := HF.out ho
          go_wp2
          go_ret
          exact ⟨ret_bool (by simp [HG.out]), HB2.out⟩
      · obtain rfl : k = L.length := by omega
        have HE : Hid (_ = _) := eq_of_take HN.out HNe.out
        have hne := HNe.out
        go_wp2
        go_ret
        exact ⟨ret_bool (by simp [HE.out]), HB.out⟩
  · have hne2 : ¬ ((L.length : Int) = (M.length : Int)) := by omega
    have HE : Hid (¬ L = M) := fun h => hne (by rw [h])
    go_enter Tryz.func23, Tryz.ntmps23
    go_wp2
    go_ret
    exact ⟨ret_bool (by simp [HE.out]), Below.refl _ _⟩
theorem same_any (va vb : Value) (L M : List Sg) (w : World) (ha : PathAt w va L) (hb : PathAt w vb M) :
    Calls Tryz.prog 11 #[va, vb] w fun e w' => e = .returned (.bool (decide (L = M))) ∧ Below w.heap.size w w' := by
  go_enter Tryz.func11, Tryz.ntmps11
  go_wp2_with fail
  refine (eqFunc_any va vb L M w ha hb).mono ?_
  rintro e w' ⟨rfl, hb⟩
  go_wp2
  go_ret
  exact ⟨rfl, hb⟩
end Go.Proofs.YtbdfigfjoiefiabGreatDoor
