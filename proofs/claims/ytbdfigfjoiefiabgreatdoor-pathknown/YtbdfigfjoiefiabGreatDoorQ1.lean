/-
  The reference's Length; First; Has.
-/
import Derived.Test.YtbdfigfjoiefiabGreatDoorH1
namespace Go.Proofs.YtbdfigfjoiefiabGreatDoor
open Go.RowKit
theorem firstOf_skip {L : List Sg} {k : Nat} (h : ∀ s ∈ L.take k, confed s = true) : firstOf L = firstOf (L.drop k) := by
  induction L generalizing k with
  | nil => simp
  | cons s L ih =>
    cases k with
    | zero => rfl
    | succ k =>
      have h1 := h s (by simp)
      rw [List.drop_succ_cons, ← ih (fun t ht => h t (by simp [ht]))]
      simp [firstOf, h1]
theorem ret2b {a b : Nat} {x y : Bool} (h : (a, x) = (b, y)) : Ending.returned (.tuple #[.int .u32 (a : Int), .bool x]) = .returned (.tuple #[.int .u32 (b : Int), .bool y]) := by
  injection h with h1 h2; rw [h1, h2]
set_option maxRecDepth 100000 in
theorem first_any (v : Value) (L : List Sg) (w : World) (h : PathAt w v L) :
    Calls Tryz.prog 5 #[v] w fun e w' => e = .returned (.tuple #[.int .u32 ((firstOf L).1 : Int), .bool (firstOf L).2]) ∧ Below w.heap.size w w' := by
  obtain ⟨ad, b, off, cap, rfl, had, ⟨_, hl⟩, hr⟩ := h
  have HR : Hid (RowS _ _ _ _) := hr
  clear hr
  go_enter Tryz.func5, Tryz.ntmps5
  go_wp2
  go_loopw [8] (fun i wr => ∃ k : Nat, k ≤ L.length ∧ i = .int .i64 k ∧ Below w.heap.size w wr ∧ ∀ s ∈ L.take k, confed s = true) (fun i _ => L.length - (intOf i).toNat)
  case atStart => exact ⟨0, Nat.zero_le _, rfl, Below.refl _ _, by simp⟩
  case round =>
    obtain ⟨k, hk, rfl, hb, hn⟩ := hrel
    have HB : Hid (Below _ _ _) := hb
    have HF : Hid (firstOf L = firstOf (L.drop k)) := firstOf_skip hn
    have HN : Hid (_ : Prop) := hn
    clear hn
    by_cases hlt : k < L.length
    · obtain rfl : ad = some ⟨b, off, none⟩ := by rcases had with h | h; exact h; omega
      obtain ⟨c0, va, c1, hva⟩ := (HR.out.below hb) k hlt
      have HX : Hid (firstOf L = firstOf (L[k] :: L.drop (k + 1))) := by unfold Hid; rw [HF.out, List.drop_eq_getElem_cons hlt]
      have HT : Hid (L.take (k + 1) = L.take k ++ [L[k]]) := take_snoc L k hlt
      clear hb had
      generalize L[k] = s at *
      obtain ⟨kd, av⟩ := s
      obtain ⟨ad2, b2, off2, cap2, rfl, had2, ⟨hc2, hl2⟩, hr2⟩ := id hva
      have HRU : Hid (RowU _ _ _ _) := hr2
      have HA2 : Hid (ad2 = some ⟨b2, off2, none⟩ ∨ av.length = 0) := had2
      clear hva hr2 had2
      simp only at c0
      go_wp2_with fail
      have hba : Below wr.heap.size wr (wr.alloc (.cells #[.int .i64 kd, .slice ad2 av.length cap2] 24)) := (Below.refl _ _).alloc (Nat.le_refl _) _
      refine (isConfed_any kd _ av _).mono ?_
      rintro e w1 ⟨rfl, hb1⟩
      have d0 : w1.cell? ⟨wr.heap.size, 0, none⟩ = some (.int .i64 kd) := below_cell hb1 (by simp)
      have d1 : w1.cell? ⟨wr.heap.size, 1, none⟩ = some (.slice ad2 av.length cap2) := below_cell hb1 (by simp)
      have HB1 : Hid (Below w.heap.size w w1) := (HB.out.alloc HB.out.size _).trans (hb1.mono (Nat.le_trans HB.out.size (by simp)))
      have HRU1 : Hid (RowU w1 b2 off2 av) := (HRU.out.below hba).below hb1
      clear hb1 hba c0 c1 HRU
      cases hcf : confed (kd, av) with
      | true =>
        have HN2 : Hid (∀ s ∈ L.take (k + 1), confed s = true) := by
          intro s hs
          rw [HT.out] at hs
          rcases List.mem_append.mp hs with h | h
          · exact HN.out s h
          · rw [List.mem_singleton.mp h]; exact hcf
        go_wp2
        go_roundw
        case rel => exact ⟨k + 1, by omega, by go_num, HB1.out, HN2.out⟩
        case measure => simp [intOf]; omega
      | false =>
        by_cases h2 : kd = 2
        · subst h2
          cases av with
          | nil =>
            have HZ : Hid (firstOf L = (0, false)) := by unfold Hid; rw [HX.out]; simp [firstOf, hcf]
            clear HRU1 HA2
            go_wp2
            go_ret2
            exact ⟨ret2b (by rw [HZ.out]), HB1.out⟩
          | cons x av =>
            obtain rfl : ad2 = some ⟨b2, off2, none⟩ := by rcases HA2.out with h | h; exact h; simp at h
            have hc := (HRU1.out 0 (by simp)).1
            simp only [Nat.add_zero, List.getElem_cons_zero] at hc
            have HZ : Hid (firstOf L = (x, true)) := by unfold Hid; rw [HX.out]; simp [firstOf, hcf]
            have hz : (((av.length : Int) + 1) == 0) = false := by rw [beq_eq_false_iff_ne]; omega
            clear HRU1 HA2
            go_wp2
            go_ret2
            exact ⟨ret2b (by rw [HZ.out]), HB1.out⟩
        · have HZ : Hid (firstOf L = (0, false)) := by unfold Hid; rw [HX.out]; simp [firstOf, hcf, h2]
          clear HRU1 HA2
          go_wp2
          go_ret2
          exact ⟨ret2b (by rw [HZ.out]), HB1.out⟩
    · obtain rfl : k = L.length := by omega
      have HZ : Hid (firstOf L = (0, false)) := by unfold Hid; rw [HF.out, List.drop_length]; rfl
      clear hb
      go_wp2
      go_ret2
      exact ⟨ret2b (by rw [HZ.out]), HB.out⟩
theorem hasc_any (k : Int) (v : Value) (l : List Nat) (p a : Nat) (w : World) (h : ASAt w v l) (hp : w.cell? ⟨p, 0, none⟩ = some (.int .u32 (a : Int))) :
    Calls Tryz.prog 21 #[.agg #[.int .i64 k, v], .pointer (some ⟨p, 0, none⟩)] w fun e w' => e = .returned (.bool (decide (a ∈ l))) ∧ Below w.heap.size w w' := by
  have H : Hid (ASAt _ _ _) := h
  obtain ⟨ad, b, off, cap, rfl, h2⟩ := h
  clear h2
  have hp' : ∀ o, (w.alloc o).cell? ⟨p, 0, none⟩ = some (.int .u32 (a : Int)) := fun o => below_cell ((Below.refl _ _).alloc (Nat.le_refl _) o) hp
  go_enter Tryz.func21, Tryz.ntmps21
  go_wp2_with fail
  refine (contains_any _ l a _ (H.out.below ((Below.refl _ _).alloc (Nat.le_refl _) _))).mono ?_
  rintro e w' ⟨rfl, rfl⟩
  go_wp2
  go_ret
  exact ⟨rfl, (Below.refl _ _).alloc (Nat.le_refl _) _⟩
set_option maxRecDepth 100000 in
theorem idxF_any (v : Value) (L : List Sg) (p a : Nat) (w : World) (h : PathAt w v L) (hp : w.cell? ⟨p, 0, none⟩ = some (.int .u32 (a : Int))) :
    Calls Tryz.prog 40 #[v, .func (.func 21) #[] #[.pointer (some ⟨p, 0, none⟩)]] w fun e w' => (∃ i : Int, e = .returned (.int .i64 i) ∧ (0 ≤ i ↔ a ∈ flatOf L)) ∧ Below w.heap.size w w' := by
  obtain ⟨ad, b, off, cap, rfl, had, ⟨_, hl⟩, hr⟩ := h
  have HR : Hid (RowS _ _ _ _) := hr
  have HP : Hid (w.cell? ⟨p, 0, none⟩ = some (.int .u32 (a : Int))) := hp
  clear hr hp
  go_enter Tryz.func40, Tryz.ntmps40
  go_wp2
  go_loopw [8] (fun i wr => ∃ k : Nat, k ≤ L.length ∧ i = .int .i64 k ∧ Below w.heap.size w wr ∧ a ∉ flatOf (L.take k)) (fun i _ => L.length - (intOf i).toNat)
  case atStart => exact ⟨0, Nat.zero_le _, rfl, Below.refl _ _, by simp [flatOf]⟩
  case round =>
    obtain ⟨k, hk, rfl, hb, hn⟩ := hrel
    have HB : Hid (Below _ _ _) := hb
    have HN : Hid (a ∉ flatOf (L.take k)) := hn
    clear hn
    by_cases hlt : k < L.length
    · obtain rfl : ad = some ⟨b, off, none⟩ := by rcases had with h | h; exact h; omega
      obtain ⟨c0, va, c1, hva⟩ := (HR.out.below hb) k hlt
      have HT : Hid (flatOf (L.take (k + 1)) = flatOf (L.take k) ++ L[k].2) := by unfold Hid; rw [take_snoc L k hlt, flatOf_snoc]
      have HM : Hid (∀ x ∈ L[k].2, x ∈ flatOf L) := fun x hx => List.mem_flatMap.mpr ⟨L[k], List.getElem_mem hlt, hx⟩
      clear hb had
      generalize L[k] = s at *
      obtain ⟨kd, av⟩ := s
      obtain ⟨ad2, b2, off2, cap2, rfl, h2⟩ := id hva
      have HV : Hid (ASAt _ _ _) := hva
      clear hva h2
      simp only at c0
      go_wp2_with fail
      refine (hasc_any kd _ av p a wr HV.out (below_cell HB.out HP.out)).mono ?_
      rintro e w1 ⟨rfl, hb1⟩
      have HB1 : Hid (Below w.heap.size w w1) := HB.out.trans (hb1.mono HB.out.size)
      clear hb1 c0 c1
      by_cases hm : a ∈ av
      · have HZ : Hid (a ∈ flatOf L) := HM.out a hm
        rw [show decide (a ∈ av) = true by simpa using hm]
        clear hm
        go_wp2
        go_ret
        exact ⟨⟨k, rfl, by simp [HZ.out]⟩, HB1.out⟩
      · have HZ : Hid (a ∉ flatOf (L.take (k + 1))) := by
          unfold Hid; rw [HT.out]; intro h
          rcases List.mem_append.mp h with h | h
          · exact HN.out h
          · exact hm h
        rw [show decide (a ∈ av) = false by simpa using hm]
        clear hm
        go_wp2
        go_roundw
        case rel => exact ⟨k + 1, by omega, by go_num, HB1.out, HZ.out⟩
        case measure => simp [intOf]; omega
    · obtain rfl : k = L.length := by omega
      clear hb
      go_wp2
      go_ret
      refine ⟨⟨-1, rfl, ?_⟩, HB.out⟩
      have := HN.out
      rw [List.take_length] at this
      constructor
      · intro h; omega
      · intro h; exact absurd h this
theorem has_any (v : Value) (L : List Sg) (a : Nat) (w : World) (h : PathAt w v L) :
    Calls Tryz.prog 9 #[v, .int .u32 (a : Int)] w fun e w' => e = .returned (.bool (decide (a ∈ flatOf L))) ∧ Below w.heap.size w w' := by
  have H : Hid (PathAt _ _ _) := h
  obtain ⟨ad, b, off, cap, rfl, h2⟩ := h
  clear h2
  have cf : ∀ (p : Nat) (W : World), PathAt W (.slice ad L.length cap) L → W.cell? ⟨p, 0, none⟩ = some (.int .u32 (a : Int)) → Calls Tryz.prog 20 #[.slice ad L.length cap, .func (.func 21) #[] #[.pointer (some ⟨p, 0, none⟩)]] W fun e w' => e = .returned (.bool (decide (a ∈ flatOf L))) ∧ Below W.heap.size W w' := by
    intro p W hW hp
    have HW : Hid (PathAt _ _ _) := hW
    have HP : Hid (_ = _) := hp
    clear hW hp
    go_enter Tryz.func20, Tryz.ntmps20
    go_wp2_with fail
    refine (idxF_any _ L p a W HW.out HP.out).mono ?_
    rintro e w' ⟨⟨i, rfl, hi⟩, hb⟩
    have HI : Hid (_ : Prop) := hi
    clear hi
    go_wp2
    go_ret
    exact ⟨ret_bool (by simp only [HI.out]), hb⟩
  have hba : Below w.heap.size w (w.alloc (.cells #[.int .u32 (a : Int)] 26)) := (Below.refl _ _).alloc (Nat.le_refl _) _
  have HC : Hid (Calls _ _ _ _ _) := cf w.heap.size (w.alloc (.cells #[.int .u32 (a : Int)] 26)) (H.out.below hba) (by simp)
  have HBA : Hid (Below _ _ _) := hba
  clear cf hba
  go_enter Tryz.func9, Tryz.ntmps9
  go_wp2_with fail
  refine HC.out.mono ?_
  rintro e w' ⟨rfl, hb⟩
  have hB := HBA.out.trans (hb.mono (by simp))
  go_wp2
  go_ret
  exact ⟨rfl, hB⟩
end Go.Proofs.YtbdfigfjoiefiabGreatDoor
