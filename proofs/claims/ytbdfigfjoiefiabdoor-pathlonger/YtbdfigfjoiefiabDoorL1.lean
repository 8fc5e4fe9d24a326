/-
  PathLonger answers true.
-/
import Derived.Test.YtbdfigfjoiefiabDoorR2
import Derived.Test.YtbdfigfjoiefiabDoorQ2
import Derived.Test.YtbdfigfjoiefiabDoorQ3
import Derived.Test.YtbdfigfjoiefiabDoorH1
import Derived.Test.YtbdfigfjoiefiabDoorC3
namespace Go.Proofs.YtbdfigfjoiefiabDoor
open Go.RowKit
theorem PathAt.slice {w : World} {v : Value} {L : List Sg} (h : PathAt w v L) : ∃ ad n cap, v = .slice ad n cap := by
  obtain ⟨ad, _, _, cap, h, _⟩ := h
  exact ⟨ad, _, cap, h⟩
theorem good_of {R : List Sv} (h : R.length ≤ 6 ∧ ∀ r ∈ R, goodS r) : goodP (sgs R) := by
  refine ⟨by simpa [sgs] using h.1, fun s hs => ?_⟩
  simp only [sgs, List.mem_map] at hs
  obtain ⟨r, hr, rfl⟩ := hs
  exact h.2 r hr
theorem len_bd {P : List Sg} (h : ∀ s ∈ P, s.2.length ≤ 3) : 0 ≤ lenOf P ∧ lenOf P ≤ 3 * P.length := by
  induction P with
  | nil => exact ⟨by simp [lenOf], by simp [lenOf]⟩
  | cons s P ih =>
    obtain ⟨h1, h2⟩ := ih fun t ht => h t (List.mem_cons_of_mem _ ht)
    have h3 := h s (by simp)
    rw [lenOf_cons, List.length_cons]
    split
    · omega
    · split <;> omega
theorem good_len {P : List Sg} (h : goodP P) : 0 ≤ lenOf P ∧ lenOf P ≤ 18 := by
  have h1 := len_bd fun s hs => (h.2 s hs).2.2.2.1
  have h2 := h.1
  omega
set_option maxRecDepth 100000 in
set_option maxHeartbeats 1600000 in
theorem pg_any (va : Value) (L : List Sg) (a : Nat) (w : World) (ha : PathAt w va L) (hlt : a < 4294967296) (ht : Tabs w) :
    Calls Tryd.prog 4 #[va, .int .u32 (a : Int)] w fun e w' => e = .returned (.bool true) ∧ Below w.heap.size w w' := by
  obtain ⟨ad, n, cap, rfl⟩ := ha.slice
  have HA : Hid (PathAt _ _ _) := ha
  have HT : Hid (Tabs _) := ht
  clear ha ht
  go_enter Tryd.func4, Tryd.ntmps4
  go_wp2_with fail
  refine (works_any w HT.out).mono ?_
  rintro e w1 ⟨rfl, hb1⟩
  have B1 : Hid (Below _ _ _) := hb1
  clear hb1
  go_wp2_with fail
  refine (right_any _ L w1 (HA.out.below B1.out)).mono ?_
  rintro e w2 ⟨v2, R, rfl, hR, ho, hb⟩
  have hg := good_of hR
  have h2 := ho.at
  obtain ⟨a2, n2, c2, rfl⟩ := h2.slice
  have P2 : Hid (PathAt _ _ _) := h2
  have B2 : Hid (Below w.heap.size w w2) := B1.out.trans (hb.mono B1.out.size)
  have G : Hid (goodP _) := hg
  clear hg h2 ho hb hR HA B1 HT
  generalize sgs R = P at *
  have hmx : max (a : Int) 1 = ((max a 1 : Nat) : Int) := by omega
  have hxm : max a 1 < 4294967296 := by omega
  have hxz : max a 1 ≠ 0 := by omega
  go_wp2_with fail
  clear hmx hlt
  generalize max a 1 = y at *
  have C2 : Hid (Below w2.heap.size w2 w2) := Below.refl _ _
  refine (prep_all _ P y false w2 P2.out hxm).mono ?_
  rintro e w3 ⟨v3, R3, rfl, hR3, ho3, hb3⟩
  rw [(prep_form G.out y hxz false).1]
  have h3 := ho3.at
  rw [hR3] at h3
  obtain ⟨a3, n3, c3, rfl⟩ := h3.slice
  have PA : Hid (PathAt _ _ _) := h3
  have C3 : Hid (Below w2.heap.size w2 w3) := hb3
  clear hb3 ho3 hR3 h3 C2
  go_wp2_with fail
  refine (prep_all _ P y true w3 (P2.out.below C3.out) hxm).mono ?_
  rintro e w4 ⟨v4, R4, rfl, hR4, ho4, hb4⟩
  rw [(prep_form G.out y hxz true).1]
  have h4 := ho4.at
  rw [hR4] at h4
  obtain ⟨a4, n4, c4, rfl⟩ := h4.slice
  have PB : Hid (PathAt _ _ _) := h4
  have PA4 : Hid (PathAt _ _ _) := PA.out.below hb4
  have P4 : Hid (PathAt _ _ _) := P2.out.below (C3.out.trans (hb4.mono C3.out.size))
  have C4 : Hid (Below w.heap.size w w4) := B2.out.trans ((C3.out.trans (hb4.mono C3.out.size)).mono B2.out.size)
  clear hb4 ho4 hR4 h4 C3 PA P2 B2
  have SA := prep_small G.out y hxz false
  have SB := prep_small G.out y hxz true
  have hP6 : P.length ≤ 6 := G.out.1
  have C4' : Hid (Below w4.heap.size w4 w4) := Below.refl _ _
  go_wp2_with fail
  refine (first_any _ _ w4 PA4.out).mono ?_
  rintro e w5 ⟨rfl, hb⟩
  rw [longer_first G.out y hxz]
  have C5 : Hid (Below w4.heap.size w4 w5) := hb
  clear hb C4'
  go_wp2_with fail
  refine (flat_any _ _ w5 (PA4.out.below C5.out) (by omega) (fun s hs => by have := SA.2 s hs; omega)).mono ?_
  rintro e w6 ⟨vf, rfl, hof, hb⟩
  rw [longer_flat G.out y hxz] at hof
  have C6 : Hid (Below w4.heap.size w4 w6) := C5.out.trans (hb.mono C5.out.size)
  obtain ⟨af, bf, ofs, cf, rfl, hadf, ⟨_, hlf⟩, hrf⟩ := hof.at
  obtain rfl : af = some ⟨bf, ofs, none⟩ := by rcases hadf with h | h; exact h; simp at h
  have HRF : Hid (RowU _ _ _ _) := hrf
  simp only [List.length_cons] at hlf
  clear hb hof C5 hadf hrf
  have hz := good_len G.out
  have C6' : Hid (Below w6.heap.size w6 w6) := Below.refl _ _
  go_wp2_with fail
  refine (length_any _ _ w6 (PA4.out.below C6.out) (by omega)).mono ?_
  rintro e w7 ⟨rfl, hb⟩
  rw [longer_len G.out y hxz]
  have C7 : Hid (Below w6.heap.size w6 w7) := hb
  clear hb C6'
  go_wp2_with fail
  refine (length_any _ P w7 (P4.out.below (C6.out.trans (C7.out.mono C6.out.size))) (by omega)).mono ?_
  rintro e w8 ⟨rfl, hb⟩
  have C8 : Hid (Below w6.heap.size w6 w8) := C7.out.trans (hb.mono C7.out.size)
  clear hb C7
  have f0 : w8.cell? ⟨bf, ofs, none⟩ = some (.int .u32 (y : Int)) := by have := ((HRF.out.below C8.out) 0 (by simp)).1; simpa using this
  have hzn : ∃ z : Nat, lenOf P = z ∧ z ≤ 18 := ⟨(lenOf P).toNat, by omega, by omega⟩
  obtain ⟨z, hze, hz18⟩ := hzn
  rw [hze]
  have HZ : Hid (lenOf P = z) := hze
  clear hz hze
  go_wp2_with fail
  refine (has_any _ _ y w8 (PA4.out.below (C6.out.trans (C8.out.mono C6.out.size)))).mono ?_
  rintro e w9 ⟨rfl, hb⟩
  rw [show decide (y ∈ flatOf (prepP P y false)) = true by rw [longer_flat G.out y hxz]; simp]
  have C9 : Hid (Below w6.heap.size w6 w9) := C8.out.trans (hb.mono C8.out.size)
  clear hb C8 f0
  go_wp2_with fail
  refine (flat_any _ P w9 (P4.out.below (C6.out.trans (C9.out.mono C6.out.size))) (by omega) (fun s hs => by have := (G.out.2 s hs).2.2.2.1; omega)).mono ?_
  rintro e w10 ⟨vw, rfl, how, hb⟩
  have C10 : Hid (Below w6.heap.size w6 w10) := C9.out.trans (hb.mono C9.out.size)
  obtain ⟨aw, bw, ow, cw, rfl, hadw, ⟨_, hlw⟩, hrw⟩ := how.at
  have HRW : Hid (RowU _ _ _ _) := hrw
  have HRF2 : Hid (RowU _ _ _ _) := HRF.out.below C10.out
  have D10 : Hid (Below w4.heap.size w4 w10) := C6.out.trans (C10.out.mono C6.out.size)
  have P10 : Hid (PathAt _ _ _) := P4.out.below D10.out
  have PB10 : Hid (PathAt _ _ _) := PB.out.below D10.out
  have B10 : Hid (Below w.heap.size w w10) := C4.out.trans (D10.out.mono C4.out.size)
  clear hb how hrw C9 C10 HRF D10 P4 PB PA4 C4 C6
  have HFL : Hid (flatOf P = flatOf P) := rfl
  generalize hF : flatOf P = F at *
  clear HFL
  have HFE : Hid (flatOf P = F) := hF
  clear hF
  go_wp2
  go_loopw [13] (fun i wr => ∃ k : Nat, k ≤ F.length ∧ i = .int .i64 k ∧ Below w10.heap.size w10 wr) (fun i _ => F.length - (intOf i).toNat)
  case atStart => exact ⟨0, Nat.zero_le _, rfl, Below.refl _ _⟩
  case round =>
    obtain ⟨k, hk, rfl, hb⟩ := hrel
    have HB : Hid (Below _ _ _) := hb
    by_cases hlt : k < F.length
    · obtain rfl : aw = some ⟨bw, ow, none⟩ := by rcases hadw with h | h; exact h; omega
      have c1 := ((HRW.out.below hb) k hlt).1
      have c2 := ((HRF2.out.below hb) (k + 1) (by simp; omega)).1
      simp only [List.getElem_cons_succ] at c2
      clear hadw hb
      generalize F[k] = x at *
      go_wp2
      go_region
      go_wp2
      go_roundw
      case rel => exact ⟨k + 1, by omega, by go_num, HB.out.drew⟩
      case measure => simp [intOf]; omega
    · obtain rfl : k = F.length := by omega
      clear hb
      go_wp2_with fail
      refine (bare_any _ P wr (P10.out.below HB.out) (by omega)).mono ?_
      rintro e w11 ⟨vb, Rb, rfl, hRb, hob, hb⟩
      have hba := hob.at
      rw [hRb] at hba
      obtain ⟨a5, n5, c5, rfl⟩ := hba.slice
      have PR : Hid (PathAt _ _ (bareOf P)) := hba
      have E11 : Hid (Below w10.heap.size w10 w11) := HB.out.trans (hb.mono HB.out.size)
      clear hb hba hob hRb
      have E11' : Hid (Below w11.heap.size w11 w11) := Below.refl _ _
      go_wp2_with fail
      refine (length_any _ _ w11 (PB10.out.below E11.out) (by omega)).mono ?_
      rintro e w12 ⟨rfl, hb⟩
      rw [conf_len G.out y hxz]
      have E12 : Hid (Below w11.heap.size w11 w12) := hb
      clear hb E11'
      go_wp2_with fail
      refine (length_any _ P w12 (P10.out.below (E11.out.trans (E12.out.mono E11.out.size))) (by omega)).mono ?_
      rintro e w13 ⟨rfl, hb⟩
      have E13 : Hid (Below w11.heap.size w11 w13) := E12.out.trans (hb.mono E12.out.size)
      clear hb E12
      rw [HZ.out]
      go_wp2_with fail
      refine (bare_any _ (prepP P y true) w13 (PB10.out.below (E11.out.trans (E13.out.mono E11.out.size))) (by omega)).mono ?_
      rintro e w14 ⟨vc, Rc, rfl, hRc, hoc, hb⟩
      have hca := hoc.at
      rw [hRc, conf_bare G.out y hxz] at hca
      obtain ⟨a6, n6, c6, rfl⟩ := hca.slice
      have PC : Hid (PathAt _ _ (bareOf P)) := hca
      have E14 : Hid (Below w11.heap.size w11 w14) := E13.out.trans (hb.mono E13.out.size)
      clear hb hca hoc hRc E13
      go_wp2_with fail
      refine (same_any _ _ (bareOf P) (bareOf P) w14 PC.out (PR.out.below E14.out)).mono ?_
      rintro e w15 ⟨rfl, hb⟩
      rw [show decide (bareOf P = bareOf P) = true by simp]
      have E15 : Hid (Below w11.heap.size w11 w15) := E14.out.trans (hb.mono E14.out.size)
      clear hb PC E14
      have hbl : (bareOf P).length ≤ 6 := Nat.le_trans (List.length_filter_le _ _) hP6
      go_wp2_with fail
      refine (length_any _ (bareOf P) w15 (PR.out.below E15.out) (by omega)).mono ?_
      rintro e w16 ⟨rfl, hb⟩
      rw [bare_len, HZ.out]
      have E16 : Hid (Below w11.heap.size w11 w16) := E15.out.trans (hb.mono E15.out.size)
      clear hb E15
      go_wp2_with fail
      refine (length_any _ P w16 (P10.out.below (E11.out.trans (E16.out.mono E11.out.size))) (by omega)).mono ?_
      rintro e w17 ⟨rfl, hb⟩
      rw [HZ.out]
      have E17 : Hid (Below w11.heap.size w11 w17) := E16.out.trans (hb.mono E16.out.size)
      clear hb E16
      go_wp2_with fail
      refine (has_any _ _ y w17 (PB10.out.below (E11.out.trans (E17.out.mono E11.out.size)))).mono ?_
      rintro e w18 ⟨rfl, hb⟩
      rw [show decide (y ∈ flatOf (prepP P y true)) = true by rw [longer_flat G.out y hxz]; simp]
      have hB := E17.out.trans (hb.mono E17.out.size)
      have hB2 := E11.out.trans (hB.mono E11.out.size)
      have HB3 : Hid (Below w.heap.size w w18) := B10.out.trans (hB2.mono B10.out.size)
      clear hb hB hB2
      go_wp2
      go_ret
      exact ⟨rfl, HB3.out⟩
end Go.Proofs.YtbdfigfjoiefiabDoor
