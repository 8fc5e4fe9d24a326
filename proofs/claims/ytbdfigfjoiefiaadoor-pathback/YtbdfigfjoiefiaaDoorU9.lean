/-
  PathBack: paths come back from their bytes and texts.
-/
import Derived.Test.YtbdfigfjoiefiaaDoorU7
import Derived.Test.YtbdfigfjoiefiaaDoorT5
import Derived.Test.YtbdfigfjoiefiaaDoorR1
import Derived.Test.YtbdfigfjoiefiaaDoorH1
import Derived.Test.YtbdfigfjoiefiaaDoorI1
import Derived.BigQuiet
set_option linter.unusedVariables false
set_option linter.unusedSimpArgs false
namespace Go.Proofs.YtbdfigfjoiefiaaDoor
open Go.RowKit
theorem good_ok {R : List Sv} (h6 : R.length ≤ 6) (hg : ∀ r ∈ R, goodS r) : okPath (sgs R) = true := by
  unfold okPath
  simp only [Bool.and_eq_true, decide_eq_true_eq, List.all_eq_true]
  refine ⟨by simp [sgs]; omega, fun s hs => ?_⟩
  simp only [sgs, List.mem_map] at hs
  obtain ⟨r, hr, rfl⟩ := hs
  obtain ⟨a, b, c, d, e⟩ := hg r hr
  exact (okSeg_iff _).2 ⟨a, b, c, by simp only; omega, e⟩
/-- A segment of a path in memory, opened. -/
theorem PathAt.open {w : World} {v : Value} {L : List Sg} (h : PathAt w v L) : ∃ (ad : Option Addr) (b off cap : Nat), v = .slice ad L.length cap ∧ (ad = some ⟨b, off, none⟩ ∨ L.length = 0) ∧ L.length ≤ cap ∧ ∀ i (hi : i < L.length), w.cell? ⟨b, off + i * 2, none⟩ = some (.int .i64 L[i].1) ∧ ∃ (ad2 : Option Addr) (b2 off2 cap2 : Nat), w.cell? ⟨b, off + i * 2 + 1, none⟩ = some (.slice ad2 L[i].2.length cap2) ∧ (ad2 = some ⟨b2, off2, none⟩ ∨ L[i].2.length = 0) ∧ L[i].2.length ≤ cap2 ∧ ∀ k (hk : k < L[i].2.length), w.cell? ⟨b2, off2 + k, none⟩ = some (.int .u32 (L[i].2[k] : Int)) := by
  obtain ⟨ad, b, off, cap, h1, h2, h3, h4⟩ := h
  refine ⟨ad, b, off, cap, h1, h2, h3.1, fun i hi => ?_⟩
  obtain ⟨c0, v2, c1, ad2, b2, off2, cap2, e, g2, g3, g4⟩ := h4 i hi
  subst e
  exact ⟨c0, ad2, b2, off2, cap2, c1, g2, g3.1, fun k hk => (g4 k hk).1⟩
set_option maxRecDepth 100000 in
set_option maxHeartbeats 6400000 in
theorem back_walk (v0 : Value) (L0 : List Sg) (w : World) (h : PathAt w v0 L0) (ht : Tabs w) (hm : MaxAt w) :
    Calls Tryd.prog 8 #[v0] w fun e w' => e = .returned (.bool true) ∧ Below w.heap.size w w' := by
  have K0 : Hid (_ : Prop) := works_any w ht
  have K1 : Hid (∀ X, Below w.heap.size w X → _) := fun X (hX : Below w.heap.size w X) => right_any v0 L0 X (h.below hX)
  have HT : Hid (Tabs w) := ht
  have HM : Hid (MaxAt w) := hm
  obtain ⟨ad0, n0, cap0, rfl⟩ := h.slice
  clear h ht hm
  go_enter Tryd.func8, Tryd.ntmps8
  go_wp2_with fail
  refine Calls.mono K0.out ?_
  rintro e w1 ⟨rfl, hb1⟩
  have HB1 : Hid (Below w.heap.size w w1) := hb1
  have K2 : Hid (_ : Prop) := K1.out w1 hb1
  clear hb1 K0 K1
  go_wp2_with fail
  refine Calls.mono K2.out ?_
  rintro e w2 ⟨v, R, rfl, ⟨h6, hgood⟩, hown, hb2⟩
  have HB2 : Hid (Below w.heap.size w w2) := HB1.out.trans (hb2.mono HB1.out.size)
  have hok := good_ok h6 hgood
  have hlt := (OwnS.at hown).lt
  have hP := OwnS.at hown
  have h3 : ∀ s ∈ sgs R, s.2.length ≤ 3 := fun s hs => by
    simp only [sgs, List.mem_map] at hs
    obtain ⟨r, hr, rfl⟩ := hs
    exact (hgood r hr).2.2.2.1
  have hl6 : (sgs R).length ≤ 6 := by simp [sgs]; omega
  clear hown hgood h6 hb2 K2
  generalize sgs R = L at *
  have HOK : Hid (okPath L = true) := hok
  have HLT : Hid (∀ s ∈ L, ∀ x ∈ s.2, x < 4294967296) := hlt
  have HP : Hid (PathAt w2 v L) := hP
  have H3 : Hid (∀ s ∈ L, s.2.length ≤ 3) := h3
  have HBK : Hid (∀ f, decI (szN f) 16 (encOf f L) = some (L.map (fitS f))) := fun f => decI_back f L (fun s hs => ⟨by
    obtain ⟨i, hi, e⟩ := List.getElem_of_mem hs
    rw [← e]
    exact okPath_seg hok i hi, hlt s hs⟩) 16 (by omega)
  have HF : Hid (L.map (fitS true) = L) := by
    unfold Hid
    rw [List.map_congr_left (g := id) (fun s _ => fit_four s)]
    simp
  obtain ⟨ad, n, cap, rfl⟩ := hP.slice
  clear hok hlt h3 hP
  have K3 : Hid (_ : Prop) := encode_any _ L true w2 HP.out HOK.out
  go_wp2_with fail
  refine Calls.mono K3.out ?_
  rintro e w3 ⟨rfl, hb3⟩
  have HB3 : Hid (Below w.heap.size w w3) := HB2.out.trans (hb3.mono HB2.out.size)
  have HP3 : Hid (PathAt w3 _ L) := HP.out.below hb3
  have k4 := decode_any (encOf true L) true w3
  rw [HBK.out true, HF.out] at k4
  have K4 : Hid (_ : Prop) := k4
  clear hb3 K3 k4 HP HB2
  go_wp2_with fail
  refine Calls.mono K4.out ?_
  rintro e w4 ⟨hb4, x, RX, rfl, hRX, hOX⟩
  have HB4 : Hid (Below w.heap.size w w4) := HB3.out.trans (hb4.mono HB3.out.size)
  have HP4 : Hid (PathAt w4 _ L) := HP3.out.below hb4
  have hX4 := OwnS.at hOX
  rw [hRX] at hX4
  have HX4 : Hid (PathAt w4 x L) := hX4
  obtain ⟨adx, nx, capx, rfl⟩ := hX4.slice
  have K5 : Hid (_ : Prop) := text_any _ L w4 HP4.out HOK.out (HT.out.below HB4.out)
  clear hb4 K4 HP3 HB3 hX4 hRX hOX
  go_wp2_with fail
  refine Calls.mono K5.out ?_
  rintro e w5 ⟨rfl, hb5⟩
  have HB5 : Hid (Below w.heap.size w w5) := HB4.out.trans (hb5.mono HB4.out.size)
  have HP5 : Hid (PathAt w5 _ L) := HP4.out.below hb5
  have HX5 : Hid (PathAt w5 _ L) := HX4.out.below hb5
  have K6 : Hid (_ : Prop) := parse_text L w5 HOK.out HLT.out (HT.out.below HB5.out) (HM.out.below HB5.out)
  clear hb5 K5 HP4 HX4 HB4
  go_wp2_with fail
  refine Calls.mono K6.out ?_
  rintro e w6 ⟨hb6, y, RY, rfl, hRY, hOY⟩
  have HB6 : Hid (Below w.heap.size w w6) := HB5.out.trans (hb6.mono HB5.out.size)
  have HP6 : Hid (PathAt w6 _ L) := HP5.out.below hb6
  have HX6 : Hid (PathAt w6 _ L) := HX5.out.below hb6
  have hY6 := OwnS.at hOY
  rw [hRY] at hY6
  have HY6 : Hid (PathAt w6 y L) := hY6
  obtain ⟨ady, ny, capy, rfl⟩ := hY6.slice
  have K7 : Hid (_ : Prop) := encode_any _ L false w6 HP6.out HOK.out
  clear hb6 K6 HP5 HX5 HB5 hY6 hRY hOY
  go_wp2_with fail
  refine Calls.mono K7.out ?_
  rintro e w7 ⟨rfl, hb7⟩
  have HB7 : Hid (Below w.heap.size w w7) := HB6.out.trans (hb7.mono HB6.out.size)
  have HP7 : Hid (PathAt w7 _ L) := HP6.out.below hb7
  have HX7 : Hid (PathAt w7 _ L) := HX6.out.below hb7
  have HY7 : Hid (PathAt w7 _ L) := HY6.out.below hb7
  have k8 := decode_any (encOf false L) false w7
  rw [HBK.out false] at k8
  have K8 : Hid (_ : Prop) := k8
  clear hb7 K7 k8 HP6 HX6 HY6 HB6
  go_wp2_with fail
  refine Calls.mono K8.out ?_
  rintro e w8 ⟨hb8, z, RZ, rfl, hRZ, hOZ⟩
  have HB8 : Hid (Below w.heap.size w w8) := HB7.out.trans (hb8.mono HB7.out.size)
  have HP8 : Hid (PathAt w8 _ L) := HP7.out.below hb8
  have HX8 : Hid (PathAt w8 _ L) := HX7.out.below hb8
  have HY8 : Hid (PathAt w8 _ L) := HY7.out.below hb8
  have hZ8 := OwnS.at hOZ
  rw [hRZ] at hZ8
  have k9 := same_any _ _ L L w8 HX8.out HP8.out
  rw [decide_eq_true rfl] at k9
  have K9 : Hid (_ : Prop) := k9
  obtain ⟨adz, bz, offz, capz, rfl, hadz, hcz, hrz⟩ := hZ8.open
  obtain ⟨adp, bp, offp, capp, hep, hadp, hcp, hrp⟩ := HP8.out.open
  injection hep with e1 e2 e3
  subst e1 e2 e3
  simp only [List.length_map] at hadz hcz hrz ⊢
  have HRP : Hid (∀ i (hi : i < L.length), w8.cell? ⟨bp, offp + i * 2, none⟩ = some (.int .i64 L[i].1) ∧ ∃ (ad2 : Option Addr) (b2 off2 cap2 : Nat), w8.cell? ⟨bp, offp + i * 2 + 1, none⟩ = some (.slice ad2 L[i].2.length cap2) ∧ (ad2 = some ⟨b2, off2, none⟩ ∨ L[i].2.length = 0) ∧ L[i].2.length ≤ cap2 ∧ ∀ k (hk : k < L[i].2.length), w8.cell? ⟨b2, off2 + k, none⟩ = some (.int .u32 (L[i].2[k] : Int))) := hrp
  have HRZ : Hid (∀ i (hi : i < L.length), w8.cell? ⟨bz, offz + i * 2, none⟩ = some (.int .i64 L[i].1) ∧ ∃ (ad2 : Option Addr) (b2 off2 cap2 : Nat), w8.cell? ⟨bz, offz + i * 2 + 1, none⟩ = some (.slice ad2 L[i].2.length cap2) ∧ (ad2 = some ⟨b2, off2, none⟩ ∨ L[i].2.length = 0) ∧ L[i].2.length ≤ cap2 ∧ ∀ k (hk : k < L[i].2.length), w8.cell? ⟨b2, off2 + k, none⟩ = some (.int .u32 (fitN false L[i].2[k] : Int))) := fun i hi => by
    have h := hrz i hi
    simpa [fitS] using h
  clear hb8 K8 HP7 HX7 HY7 HB7 hZ8 hRZ hOZ k9 hrz hrp HBK HF HOK HT HM
  go_wp2_with fail
  refine Calls.mono K9.out ?_
  rintro e w9 ⟨rfl, hb9⟩
  have k10 := same_any _ _ L L w9 (HY8.out.below hb9) (HP8.out.below hb9)
  rw [decide_eq_true rfl] at k10
  have K10 : Hid (_ : Prop) := k10
  have HD9 : Hid (Below w8.heap.size w8 w9) := hb9
  clear hb9 k10 K9 HX8 HY8 HP8
  go_wp2_with fail
  refine Calls.mono K10.out ?_
  rintro e w10 ⟨rfl, hb10⟩
  have HD10 : Hid (Below w8.heap.size w8 w10) := HD9.out.trans (hb10.mono HD9.out.size)
  clear hb10 K10 HD9
  go_wp2
  go_loopw [15] (fun i wr => ∃ n : Nat, n ≤ L.length ∧ i = .int .i64 n ∧ Below w8.heap.size w8 wr) (fun i _ => L.length - (intOf i).toNat)
  case atStart => exact ⟨0, Nat.zero_le _, rfl, HD10.out⟩
  case round =>
    obtain ⟨n, hn, rfl, hb⟩ := hrel
    have HBR : Hid (Below w8.heap.size w8 wr) := hb
    clear hb
    by_cases hlt : n < L.length
    · obtain rfl : ad = some ⟨bp, offp, none⟩ := by rcases hadp with h | h; exact h; omega
      obtain rfl : adz = some ⟨bz, offz, none⟩ := by rcases hadz with h | h; exact h; omega
      obtain ⟨c0, ad2, b2, off2, cap2, c1, had2, hc2, hk2⟩ := HRP.out n hlt
      obtain ⟨d0, ad3, b3, off3, cap3, d1, had3, hc3, hk3⟩ := HRZ.out n hlt
      have hl3 := H3.out _ (List.getElem_mem hlt)
      generalize L[n].1 = kd at *
      generalize L[n].2 = av at *
      have HK2 : Hid (∀ k (hk : k < av.length), w8.cell? ⟨b2, off2 + k, none⟩ = some (.int .u32 (av[k] : Int))) := hk2
      have HK3 : Hid (∀ k (hk : k < av.length), w8.cell? ⟨b3, off3 + k, none⟩ = some (.int .u32 (fitN false av[k] : Int))) := hk3
      have C0 : Hid (_ = _) := c0
      have C1 : Hid (_ = _) := c1
      have D0 : Hid (_ = _) := d0
      have D1 : Hid (_ = _) := d1
      clear hk2 hk3 c0 c1 d0 d1
      have c0 := below_cell HBR.out C0.out
      have c1 := below_cell HBR.out C1.out
      have d0 := below_cell HBR.out D0.out
      have d1 := below_cell HBR.out D1.out
      have i1 : (n : Int) < (L.length : Int) := by omega
      go_wp2
      go_quiet (fail)
      have HBD : Hid (Below w8.heap.size w8 (wr.drewN nq)) := below_drewN HBR.out nq
      clear c0 c1 d0 d1 HBR hadp hadz
      generalize wr.drewN nq = wd at *
      go_wp2
      go_loopw [16] (fun k wk => ∃ m : Nat, m ≤ av.length ∧ k = .int .i64 m ∧ Below w8.heap.size w8 wk) (fun k _ => av.length - (intOf k).toNat)
      case atStart => exact ⟨0, Nat.zero_le _, rfl, HBD.out⟩
      case round =>
        obtain ⟨m, hm, rfl, hbk⟩ := hrel
        have HBX : Hid (Below w8.heap.size w8 wr) := hbk
        clear hbk HBD
        have c1 := below_cell HBX.out C1.out
        have d1 := below_cell HBX.out D1.out
        by_cases hml : m < av.length
        · obtain rfl : ad2 = some ⟨b2, off2, none⟩ := by rcases had2 with h | h; exact h; omega
          obtain rfl : ad3 = some ⟨b3, off3, none⟩ := by rcases had3 with h | h; exact h; omega
          have x := below_cell HBX.out (HK2.out m hml)
          have y := below_cell HBX.out (HK3.out m hml)
          generalize av[m] = a at *
          have j1 : (m : Int) < (av.length : Int) := by omega
          by_cases ha : 65535 < a
          · have hf : fitN false a = 23456 := by simp [fitN, ha]
            rw [hf] at y
            have ha' : (65535 : Int) < (a : Int) := by omega
            clear hf
            go_wp2
            go_roundw
            case rel => exact ⟨m + 1, by omega, by go_num, HBX.out⟩
            case measure => simp [intOf]; omega
          · have hf : fitN false a = a := by simp [fitN]; omega
            rw [hf] at y
            have ha' : ¬ ((65535 : Int) < (a : Int)) := by omega
            clear hf
            go_wp2
            go_roundw
            case rel => exact ⟨m + 1, by omega, by go_num, HBX.out⟩
            case measure => simp [intOf]; omega
        · have j1 : ¬ ((m : Int) < (av.length : Int)) := by omega
          go_wp2
          go_roundw
          case rel => exact ⟨n + 1, by omega, by go_num, HBX.out⟩
          case measure => simp [intOf]; omega
    · have i1 : ¬ ((n : Int) < (L.length : Int)) := by omega
      go_wp2
      go_ret
      exact ⟨rfl, HB8.out.trans (HBR.out.mono HB8.out.size)⟩
end Go.Proofs.YtbdfigfjoiefiaaDoor
