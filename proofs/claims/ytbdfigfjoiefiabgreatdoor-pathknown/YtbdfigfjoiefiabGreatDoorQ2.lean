/-
  The reference's Bare and First; Bare.
-/
import Derived.Test.YtbdfigfjoiefiabGreatDoorM1
import Derived.Test.YtbdfigfjoiefiabGreatDoorO1
import Derived.Test.YtbdfigfjoiefiabGreatDoorQ1
namespace Go.Proofs.YtbdfigfjoiefiabGreatDoor
open Go.RowKit
theorem bare_le (L : List Sg) : (bareOf L).length ≤ L.length := List.length_filter_le _ _
/-- One segment of a path. -/
theorem PathAt.one {w : World} {b off n cap : Nat} {L : List Sg} (h : PathAt w (.slice (some ⟨b, off, none⟩) n cap) L) (i : Nat) (hi : i < L.length) :
    (∀ W, (Instr.slice 27 (.slice (some ⟨b, off, none⟩) L.length cap) (some (.int .i64 (i : Int))) (some (.int .i64 ((i : Int) + 1))) none).run Tryz.prog W = .ok (.slice (some ⟨b, off + i * 2, none⟩) 1 (cap - i)) W) ∧ PathAt w (.slice (some ⟨b, off + i * 2, none⟩) 1 (cap - i)) [L[i]] := by
  obtain ⟨ad, b', off', cap', h1, h2, ⟨h3, h3'⟩, h4⟩ := h
  simp only [Value.slice.injEq] at h1
  obtain ⟨rfl, rfl, rfl⟩ := h1
  obtain ⟨rfl, rfl⟩ : b = b' ∧ off = off' := by
    rcases h2 with h2 | h2
    · simpa using h2
    · omega
  have hel : Tryz.prog.elem 27 = 24 := by simp [Program.elem, Tryz.underlying27]
  refine ⟨fun W => ?_, some ⟨b, off + i * 2, none⟩, b, off + i * 2, cap - i, rfl, Or.inl rfl, by simp; omega, fun j hj => ?_⟩
  · rw [run_slice_lh W 27 (some ⟨b, off, none⟩) L.length cap (by rw [hel]; exact Tryz.underlying27) .i64 .i64 (i : Int) ((i : Int) + 1) (by omega) (by omega) (by omega), hel, Tryz.sizeOf24]
    have e1 : ((i : Int) + 1).toNat = i + 1 := by omega
    have e2 : ¬ cap = i := by omega
    simp [Result.andThen, sliced, e1, e2, Addr.add]
  · obtain rfl : j = 0 := by simp at hj; exact hj
    simpa using h4 i hi
set_option maxRecDepth 100000 in
set_option maxHeartbeats 800000 in
theorem bare_any (v : Value) (L : List Sg) (w : World) (h : PathAt w v L) (hL : L.length ≤ 900) :
    Calls Tryz.prog 8 #[v] w fun e w' => ∃ v' R, e = .returned v' ∧ sgs R = bareOf L ∧ OwnS w' w.heap.size v' R ∧ Below w.heap.size w w' := by
  have H : Hid (PathAt _ _ _) := h
  obtain ⟨ad, b, off, cap, rfl, had, ⟨hcap, hl⟩, hr⟩ := h
  have HR : Hid (RowS _ _ _ _) := hr
  clear hr
  go_enter Tryz.func8, Tryz.ntmps8
  go_wp2
  go_loopw [3, 8] (fun t i wr => ∃ (n : Nat) (R : List Sv), n ≤ L.length ∧ i = .int .i64 n ∧ R.length ≤ n ∧ sgs R = bareOf (L.take n) ∧ OwnS wr w.heap.size t R ∧ Below w.heap.size w wr) (fun _ i _ => L.length - (intOf i).toNat)
  case atStart => exact ⟨0, [], Nat.zero_le _, rfl, Nat.le_refl _, by simp [sgs, bareOf], ⟨World.ownsRow_nil _ _ _ _, fun r hr => by simp at hr, by simp⟩, Below.refl _ _⟩
  case round =>
    obtain ⟨n, R, hn, rfl, hRl, hR, hown, hb⟩ := hrel
    have HB : Hid (Below _ _ _) := hb
    have HO : Hid (OwnS _ _ _ _) := hown
    have HL : Hid (sgs R = bareOf (L.take n)) := hR
    obtain ⟨adq, cq, rfl⟩ := slice_of_owns hown.1
    clear hown hR
    by_cases hlt : n < L.length
    · obtain rfl : ad = some ⟨b, off, none⟩ := by rcases had with h | h; exact h; omega
      obtain ⟨c0, va, c1, hva⟩ := (HR.out.below hb) n hlt
      have HX : Hid (bareOf (L.take (n + 1)) = bareOf (L.take n) ++ (if confed L[n] then [] else [L[n]])) := by unfold Hid; rw [take_snoc L n hlt, bareOf_snoc]
      obtain ⟨hsl, hone⟩ := H.out.one n hlt
      have HONE : Hid (PathAt _ _ _) := hone
      have hsz := hb.size
      clear hb had hone
      generalize L[n] = s at *
      obtain ⟨kd, av⟩ := s
      obtain ⟨ad2, b2, off2, cap2, rfl, h2⟩ := id hva
      clear h2 hva
      simp only at c0
      go_wp2_with fail
      refine (isConfed_any kd _ av _).mono ?_
      rintro e w1 ⟨rfl, hb1⟩
      have HBA : Hid (Below wr.heap.size wr w1) := ((Below.refl _ _).alloc (Nat.le_refl _) _).trans (hb1.mono (by simp))
      have HB1 : Hid (Below w.heap.size w w1) := HB.out.trans (HBA.out.mono hsz)
      have HO1 : Hid (OwnS _ _ _ _) := HO.out.below HBA.out
      clear hb1 c0 c1 HBA
      cases hcf : confed (kd, av) with
      | true =>
        have HS : Hid (sgs R = bareOf (L.take (n + 1))) := by unfold Hid; rw [HX.out, if_pos hcf, List.append_nil]; exact HL.out
        go_wp2
        go_roundw
        case rel => exact ⟨n + 1, R, by omega, by go_num, by omega, HS.out, HO1.out, HB1.out⟩
        case measure => simp [intOf]; omega
      | false =>
        go_wp2_with fail
        refine (appendSegs_any w.heap.size _ _ R [(kd, av)] w1 HO1.out (HONE.out.below HB1.out) HB1.out.size (by simp; omega) ⟨w, HONE.out, HB1.out, rfl⟩).mono ?_
        rintro e w2 ⟨v2, R2, rfl, hR2, ho2, hb2⟩
        have hl2 : R2.length ≤ n + 1 := by
          have := congrArg List.length hR2
          simp [sgs_length] at this
          omega
        have HS : Hid (sgs R2 = bareOf (L.take (n + 1))) := by unfold Hid; rw [hR2, HL.out, HX.out, if_neg (by rw [hcf]; simp)]
        have HB2 : Hid (Below w.heap.size w w2) := HB1.out.trans hb2
        have HO2 : Hid (OwnS _ _ _ _) := ho2
        clear hR2 ho2 hb2
        go_wp2
        go_roundw
        case rel => exact ⟨n + 1, R2, by omega, by go_num, hl2, HS.out, HO2.out, HB2.out⟩
        case measure => simp [intOf]; omega
    · obtain rfl : n = L.length := by omega
      rw [List.take_length] at HL
      clear hb
      go_wp2
      go_ret
      exact ⟨_, R, rfl, HL.out, HO.out, HB.out⟩
end Go.Proofs.YtbdfigfjoiefiabGreatDoor
