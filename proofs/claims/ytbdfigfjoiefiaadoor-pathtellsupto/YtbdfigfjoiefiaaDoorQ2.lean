/-
  The reference's Bare and First; Bare.
-/
import Derived.Test.YtbdfigfjoiefiaaDoorM1
import Derived.Test.YtbdfigfjoiefiaaDoorO1
import Derived.Test.YtbdfigfjoiefiaaDoorQ1
namespace Go.Proofs.YtbdfigfjoiefiaaDoor
open Go.RowKit
theorem bare_le (L : List Sg) : (bareOf L).length ≤ L.length := List.length_filter_le _ _
set_option maxRecDepth 100000 in
theorem rbare_any (v : Value) (L : List Sg) (w : World) (h : PathAt w v L) :
    Calls Tryd.prog 22 #[v] w fun e w' => ∃ v' R, e = .returned v' ∧ sgs R = bareOf L ∧ OwnS w' w.heap.size v' R ∧ Below w.heap.size w w' := by
  obtain ⟨i0, hi, hz0, hz1, hz2⟩ := info_parts info48
  obtain ⟨ad, b, off, cap, rfl, had, ⟨_, hl⟩, hr⟩ := h
  have HR : Hid (RowS _ _ _ _) := hr
  clear hr
  go_enter Tryd.func22, Tryd.ntmps22
  go_wp2
  go_loopw [3, 4] (fun t i wr => ∃ (n : Nat) (R : List Sv), n ≤ L.length ∧ i = .int .i64 n ∧ R.length ≤ n ∧ sgs R = bareOf (L.take n) ∧ OwnS wr w.heap.size t R ∧ Below w.heap.size w wr) (fun _ i _ => L.length - (intOf i).toNat)
  case atStart => exact ⟨0, [], Nat.zero_le _, rfl, Nat.le_refl _, by simp [sgs, bareOf], ⟨World.ownsRow_nil _ _ _ _, fun r hr => by simp at hr, by simp⟩, Below.refl _ _⟩
  case round =>
    obtain ⟨n, R, hn, rfl, hRl, hR, hown, hb⟩ := hrel
    have HB : Hid (Below _ _ _) := hb
    have HO : Hid (OwnS _ _ _ _) := hown
    have HL : Hid (sgs R = bareOf (L.take n)) := hR
    clear hown hR
    by_cases hlt : n < L.length
    · obtain rfl : ad = some ⟨b, off, none⟩ := by rcases had with h | h; exact h; omega
      obtain ⟨c0, va, c1, hva⟩ := (HR.out.below hb) n hlt
      have HX : Hid (bareOf (L.take (n + 1)) = bareOf (L.take n) ++ (if confed L[n] then [] else [L[n]])) := by unfold Hid; rw [take_snoc L n hlt, bareOf_snoc]
      have hsz := hb.size
      clear hb had
      generalize L[n] = s at *
      obtain ⟨kd, av⟩ := s
      obtain ⟨ad2, b2, off2, cap2, rfl, h2⟩ := id hva
      have HV : Hid (ASAt _ _ _) := hva
      clear h2 hva
      simp only at c0
      go_wp2_with fail
      refine (rconfed_any kd av wr).mono ?_
      rintro e w0 ⟨rfl, hw⟩
      obtain rfl : wr = w0 := hw.symm
      clear hw
      cases hcf : confed (kd, av) with
      | true =>
        have HS : Hid (sgs R = bareOf (L.take (n + 1))) := by unfold Hid; rw [HX.out, if_pos hcf, List.append_nil]; exact HL.out
        go_wp2
        go_roundw
        case rel => exact ⟨n + 1, R, by omega, by go_num, by omega, HS.out, HO.out, HB.out⟩
        case measure => simp [intOf]; omega
      | false =>
        go_wp2_with fail
        refine (own_any kd _ av wr HV.out).mono ?_
        rintro e w1 ⟨v1, rfl, ho1, hb1⟩
        obtain ⟨ad3, c3, rfl⟩ := slice_of_owns ho1.1
        have HO1 : Hid (OwnU _ _ _ _) := ho1
        have HB1 : Hid (Below _ _ _) := hb1
        have hs1 := hb1.size
        clear ho1 hb1 c0 c1
        have hRw : w1.ownsRow w.heap.size 48 2 u3 R.length (cellsS R) := owns_below HO.out.1 HB1.out
        go_wp2_with (at_builtin; refine wpList_append_own _ rfl _ _ 22 rfl w.heap.size 48 i0 (.agg #[.int .i64 0, .slice none 0 0]) 2 32 Tryd.underlying22 hi hz0 hz1 hz2 rfl (by decide) _ _ _ rfl (hRw.alloc _) ⟨w1.heap.size, 0, none⟩ 1 1 [.int .i64 kd, .slice ad3 av.length c3] rfl rfl (news2 w1 _ _ 48) (two_seg _ _ _ _) (by unfold maxLen; omega) (by omega) (Nat.le_trans hsz (Nat.le_trans hs1 (by simp))) ?_; intro v3 w3 hown3 hgrow3 _)
        have hb1 := HB.out.trans (HB1.out.mono hsz)
        have hb3 : Below w.heap.size w w3 := (hb1.alloc hb1.size _).grown hgrow3 (Nat.le_trans hb1.size (by simp)) (fun j e => (hRw.lt j e).1)
        have hos : OwnS w3 w.heap.size v3 (R ++ [(kd, .slice ad3 av.length c3, av)]) := OwnS.snoc ((HO.out.below HB1.out).alloc _) ((HO1.out.mono hsz).alloc _) (by omega) hown3 hgrow3
        have HS : Hid (sgs (R ++ [(kd, .slice ad3 av.length c3, av)]) = bareOf (L.take (n + 1))) := by unfold Hid; rw [sgs_snoc, HL.out, HX.out, if_neg (by rw [hcf]; simp)]
        clear hown3 hgrow3 hRw hb1
        go_roundw
        case rel => exact ⟨n + 1, _, by omega, by go_num, by simp; omega, HS.out, hos, hb3⟩
        case measure => simp [intOf]; omega
    · obtain rfl : n = L.length := by omega
      rw [List.take_length] at HL
      clear hb
      go_wp2
      go_ret
      exact ⟨_, R, rfl, HL.out, HO.out, HB.out⟩
set_option maxRecDepth 100000 in
theorem rfirst_any (v : Value) (L : List Sg) (w : World) (h : PathAt w v L) :
    Calls Tryd.prog 12 #[v] w fun e w' => e = .returned (.tuple #[.int .u32 ((firstOf L).1 : Int), .bool (firstOf L).2]) ∧ Below w.heap.size w w' := by
  have H : Hid (PathAt _ _ _) := h
  obtain ⟨ad, b, off, cap, rfl, h2⟩ := h
  clear h2
  go_enter Tryd.func12, Tryd.ntmps12
  go_wp2_with fail
  refine (rbare_any _ L w H.out).mono ?_
  rintro e w1 ⟨v1, R, rfl, hR, ho, hb⟩
  obtain ⟨a1, c1, rfl⟩ := slice_of_owns ho.1
  have HF : Hid (firstOf L = firstOf (sgs R)) := by unfold Hid; rw [hR, firstOf_bare]
  have HC : Hid (∀ r ∈ R, confed (r.1, r.2.2) = false) := fun r hr => by
    have : (r.1, r.2.2) ∈ bareOf L := by rw [← hR]; exact List.mem_map.mpr ⟨r, hr, rfl⟩
    simpa [bareOf] using (List.mem_filter.mp this).2
  have HB : Hid (Below _ _ _) := hb
  clear hb hR
  cases R with
  | nil =>
    have HZ : Hid (firstOf L = (0, false)) := HF.out
    clear ho
    go_wp2
    go_ret2
    exact ⟨ret2b (by rw [HZ.out]), HB.out⟩
  | cons r R =>
    obtain ⟨kd, u, av⟩ := r
    have hcf := HC.out (kd, u, av) (by simp)
    simp only at hcf
    obtain ⟨g, cap2, cur, e, hg, hh, hc, hsz, ht⟩ := ho.open
    simp only [Value.slice.injEq] at e
    obtain ⟨rfl, _, rfl⟩ := e
    have x0 := (ho.cells 0 (by simp)).1
    have x1 := (ho.cells 0 (by simp)).2
    simp only [Nat.zero_mul, List.getElem_cons_zero, Nat.zero_add] at x0 x1
    have hu := (ho.2.1 (kd, u, av) (by simp)).at
    simp only at hu
    obtain ⟨ad3, b3, off3, c3, rfl, had3, _, hr3⟩ := hu
    have hz : (((R.length : Int) + 1) == 0) = false := by rw [beq_eq_false_iff_ne]; omega
    clear ho hh hsz ht
    by_cases h2 : kd = 2
    · subst h2
      cases av with
      | nil =>
        have HZ : Hid (firstOf L = (0, false)) := by unfold Hid; rw [HF.out]; simp [firstOf, hcf, sgs]
        clear hr3 had3
        go_wp2
        go_ret2
        exact ⟨ret2b (by rw [HZ.out]), HB.out⟩
      | cons x av =>
        obtain rfl : ad3 = some ⟨b3, off3, none⟩ := by rcases had3 with h | h; exact h; simp at h
        have hc0 := (hr3 0 (by simp)).1
        simp only [Nat.add_zero, List.getElem_cons_zero] at hc0
        have HZ : Hid (firstOf L = (x, true)) := by unfold Hid; rw [HF.out]; simp [firstOf, hcf, sgs]
        have hz2 : (((av.length : Int) + 1) == 0) = false := by rw [beq_eq_false_iff_ne]; omega
        clear hr3 had3
        go_wp2
        go_ret2
        exact ⟨ret2b (by rw [HZ.out]), HB.out⟩
    · have HZ : Hid (firstOf L = (0, false)) := by unfold Hid; rw [HF.out]; simp [firstOf, hcf, sgs, h2]
      clear hr3 had3
      go_wp2
      go_ret2
      exact ⟨ret2b (by rw [HZ.out]), HB.out⟩
/-- One segment of a path. -/
theorem PathAt.one {w : World} {b off n cap : Nat} {L : List Sg} (h : PathAt w (.slice (some ⟨b, off, none⟩) n cap) L) (i : Nat) (hi : i < L.length) :
    (∀ W, (Instr.slice 22 (.slice (some ⟨b, off, none⟩) L.length cap) (some (.int .i64 (i : Int))) (some (.int .i64 ((i : Int) + 1))) none).run Tryd.prog W = .ok (.slice (some ⟨b, off + i * 2, none⟩) 1 (cap - i)) W) ∧ PathAt w (.slice (some ⟨b, off + i * 2, none⟩) 1 (cap - i)) [L[i]] := by
  obtain ⟨ad, b', off', cap', h1, h2, ⟨h3, h3'⟩, h4⟩ := h
  simp only [Value.slice.injEq] at h1
  obtain ⟨rfl, rfl, rfl⟩ := h1
  obtain ⟨rfl, rfl⟩ : b = b' ∧ off = off' := by
    rcases h2 with h2 | h2
    · simpa using h2
    · omega
  have hel : Tryd.prog.elem 22 = 48 := by simp [Program.elem, Tryd.underlying22]
  refine ⟨fun W => ?_, some ⟨b, off + i * 2, none⟩, b, off + i * 2, cap - i, rfl, Or.inl rfl, by simp; omega, fun j hj => ?_⟩
  · rw [run_slice_lh W 22 (some ⟨b, off, none⟩) L.length cap (by rw [hel]; exact Tryd.underlying22) .i64 .i64 (i : Int) ((i : Int) + 1) (by omega) (by omega) (by omega), hel, Tryd.sizeOf48]
    have e1 : ((i : Int) + 1).toNat = i + 1 := by omega
    have e2 : ¬ cap = i := by omega
    simp [Result.andThen, sliced, e1, e2, Addr.add]
  · obtain rfl : j = 0 := by simp at hj; exact hj
    simpa using h4 i hi
set_option maxRecDepth 100000 in
set_option maxHeartbeats 800000 in
theorem bare_any (v : Value) (L : List Sg) (w : World) (h : PathAt w v L) (hL : L.length ≤ 900) :
    Calls Tryd.prog 19 #[v] w fun e w' => ∃ v' R, e = .returned v' ∧ sgs R = bareOf L ∧ OwnS w' w.heap.size v' R ∧ Below w.heap.size w w' := by
  have H : Hid (PathAt _ _ _) := h
  obtain ⟨ad, b, off, cap, rfl, had, ⟨hcap, hl⟩, hr⟩ := h
  have HR : Hid (RowS _ _ _ _) := hr
  clear hr
  go_enter Tryd.func19, Tryd.ntmps19
  go_wp2
  go_loopw [3, 8] (fun t i wr => ∃ (n : Nat) (R : List Sv), n ≤ L.length ∧ i = .int .i64 n ∧ R.length ≤ n ∧ sgs R = bareOf (L.take n) ∧ OwnS wr w.heap.size t R ∧ Below w.heap.size w wr) (fun _ i _ => L.length - (intOf i).toNat)
  case atStart => exact ⟨0, [], Nat.zero_le _, rfl, Nat.le_refl _, by simp [sgs, bareOf], ⟨World.ownsRow_nil _ _ _ _, fun r hr => by simp at hr, by simp⟩, Below.refl _ _⟩
  case round =>
    obtain ⟨n, R, hn, rfl, hRl, hR, hown, hb⟩ := hrel
    have HB : Hid (Below _ _ _) := hb
    have HO : Hid (OwnS _ _ _ _) := hown
    have HL : Hid (sgs R = bareOf (L.take n)) := hR
    obtain ⟨adq, cq, rfl⟩ := slice_of_owns hown.1
    clear hown hR
    by_cases hlt : n < L.length
    · obtain rfl : ad = some ⟨b, off, none⟩ := by rcases had with h | h; exact h; omega
      obtain ⟨c0, va, c1, hva⟩ := (HR.out.below hb) n hlt
      have HX : Hid (bareOf (L.take (n + 1)) = bareOf (L.take n) ++ (if confed L[n] then [] else [L[n]])) := by unfold Hid; rw [take_snoc L n hlt, bareOf_snoc]
      obtain ⟨hsl, hone⟩ := H.out.one n hlt
      have HONE : Hid (PathAt _ _ _) := hone
      have hsz := hb.size
      clear hb had hone
      generalize L[n] = s at *
      obtain ⟨kd, av⟩ := s
      obtain ⟨ad2, b2, off2, cap2, rfl, h2⟩ := id hva
      clear h2 hva
      simp only at c0
      go_wp2_with fail
      refine (isConfed_any kd _ av _).mono ?_
      rintro e w1 ⟨rfl, hb1⟩
      have HBA : Hid (Below wr.heap.size wr w1) := ((Below.refl _ _).alloc (Nat.le_refl _) _).trans (hb1.mono (by simp))
      have HB1 : Hid (Below w.heap.size w w1) := HB.out.trans (HBA.out.mono hsz)
      have HO1 : Hid (OwnS _ _ _ _) := HO.out.below HBA.out
      clear hb1 c0 c1 HBA
      cases hcf : confed (kd, av) with
      | true =>
        have HS : Hid (sgs R = bareOf (L.take (n + 1))) := by unfold Hid; rw [HX.out, if_pos hcf, List.append_nil]; exact HL.out
        go_wp2
        go_roundw
        case rel => exact ⟨n + 1, R, by omega, by go_num, by omega, HS.out, HO1.out, HB1.out⟩
        case measure => simp [intOf]; omega
      | false =>
        go_wp2_with fail
        refine (appendSegs_any w.heap.size _ _ R [(kd, av)] w1 HO1.out (HONE.out.below HB1.out) HB1.out.size (by simp; omega) ⟨w, HONE.out, HB1.out, rfl⟩).mono ?_
        rintro e w2 ⟨v2, R2, rfl, hR2, ho2, hb2⟩
        have hl2 : R2.length ≤ n + 1 := by
          have := congrArg List.length hR2
          simp [sgs_length] at this
          omega
        have HS : Hid (sgs R2 = bareOf (L.take (n + 1))) := by unfold Hid; rw [hR2, HL.out, HX.out, if_neg (by rw [hcf]; simp)]
        have HB2 : Hid (Below w.heap.size w w2) := HB1.out.trans hb2
        have HO2 : Hid (OwnS _ _ _ _) := ho2
        clear hR2 ho2 hb2
        go_wp2
        go_roundw
        case rel => exact ⟨n + 1, R2, by omega, by go_num, hl2, HS.out, HO2.out, HB2.out⟩
        case measure => simp [intOf]; omega
    · obtain rfl : n = L.length := by omega
      rw [List.take_length] at HL
      clear hb
      go_wp2
      go_ret
      exact ⟨_, R, rfl, HL.out, HO.out, HB.out⟩
end Go.Proofs.YtbdfigfjoiefiaaDoor
