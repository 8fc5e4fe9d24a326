/-
  The reference's Encode.
-/
import Derived.Test.YtbdfigfjoiefiaaDoorK1
import Derived.Test.YtbdfigfjoiefiaaDoorG1
namespace Go.Proofs.YtbdfigfjoiefiaaDoor
open Go.RowKit
theorem app_bytes (a b : List UInt8) : (⟨a.toArray⟩ : ByteArray) ++ ⟨b.toArray⟩ = ⟨(a ++ b).toArray⟩ := by apply ByteArray.ext; simp
theorem rput_l (l : List UInt8) (v n : Nat) (w : World) (h0 : 1 ≤ n) (h1 : n ≤ 8) (hv : v < 256 ^ n) (hb : l.length ≤ 1000000) :
    Calls Tryd.prog 54 #[.string ⟨l.toArray⟩, .int .u64 (v : Int), .int .i64 (n : Int)] w fun e w' =>
      e = .returned (.tuple #[.string ⟨(l ++ laid v n).toArray⟩, .int .i64 0]) ∧ Below w.heap.size w w' := by
  have := rput_yes ⟨l.toArray⟩ v n w h0 h1 hv (by show l.length ≤ _; omega)
  rw [app_bytes] at this
  exact this
theorem rencode_bad (v : Value) (L : List Sg) (four : Bool) (w : World) (h : PathAt w v L) (hok : okPath L = false) :
    Calls Tryd.prog 30 #[v, .bool four] w fun e w' => e = .returned (.tuple #[.string ⟨#[]⟩, .int .i64 2]) ∧ Below w.heap.size w w' := by
  have H : Hid (PathAt _ _ _) := h
  obtain ⟨ad, b, off, cap, rfl, h2⟩ := h
  clear h2
  go_enter Tryd.func30, Tryd.ntmps30
  go_wp2_with fail
  refine (rcheck_any _ L w H.out).mono ?_
  rintro e w1 ⟨rfl, rfl⟩
  rw [show chkOf L = 2 by simp [chkOf, hok]]
  go_wp2
  go_ret2
  exact ⟨rfl, Below.refl _ _⟩
set_option maxRecDepth 100000 in
set_option maxHeartbeats 1600000 in
theorem rencode_any (v : Value) (L : List Sg) (four : Bool) (w : World) (h : PathAt w v L) (hok : okPath L = true) :
    Calls Tryd.prog 30 #[v, .bool four] w fun e w' => e = .returned (.tuple #[.string ⟨(encOf four L).toArray⟩, .int .i64 0]) ∧ Below w.heap.size w w' := by
  have H : Hid (PathAt _ _ _) := h
  obtain ⟨ad, b, off, cap, rfl, had, ⟨_, hl⟩, hr⟩ := h
  have HK : Hid (okPath L = true) := hok
  have h16 := (okPath_le hok).1
  have HR : Hid (RowS _ _ _ _) := hr
  clear hr hok
  go_enter Tryd.func30, Tryd.ntmps30
  go_wp2_with fail
  refine (rcheck_any _ L w H.out).mono ?_
  rintro e w1 ⟨rfl, hw⟩
  obtain rfl : w = w1 := hw.symm
  clear hw
  rw [show chkOf L = 0 by simp [chkOf, HK.out]]
  go_wp2
  go_loopw [6, 7] (fun t i wr => ∃ n : Nat, n ≤ L.length ∧ i = .int .i64 n ∧ t = .string ⟨(encOf four (L.take n)).toArray⟩ ∧ Below w.heap.size w wr) (fun _ i _ => L.length - (intOf i).toNat)
  case atStart => exact ⟨0, Nat.zero_le _, rfl, rfl, Below.refl _ _⟩
  case round =>
    obtain ⟨n, hn, rfl, rfl, hb⟩ := hrel
    have HB : Hid (Below _ _ _) := hb
    by_cases hlt : n < L.length
    · obtain rfl : ad = some ⟨b, off, none⟩ := by rcases had with h | h; exact h; omega
      obtain ⟨b0, va, b1, hva⟩ := HR.out n hlt
      have c0 := below_cell hb b0
      have c1 := below_cell hb b1
      have hs := (okSeg_iff _).mp (okPath_at HK.out n hlt)
      have HX : Hid (encOf four (L.take (n + 1)) = encOf four (L.take n) ++ segE four L[n]) := by unfold Hid; rw [take_snoc L n hlt, encOf_snoc]
      have HL : Hid ((encOf four (L.take n)).length ≤ 16352) := encOf_take_le four HK.out n
      clear hb had
      generalize L[n] = s at *
      generalize encOf four (L.take n) = E at *
      obtain ⟨kd, av⟩ := s
      obtain ⟨hs1, hs4, _, hs255, _⟩ := hs
      simp only at b0 c0 hs1 hs4 hs255 hva
      obtain ⟨k, rfl⟩ : ∃ k : Nat, kd = k := ⟨kd.toNat, by omega⟩
      obtain ⟨ad2, b2, off2, cap2, rfl, had2, _, hr2⟩ := id hva
      have HRU : Hid (RowU w b2 off2 av) := hr2
      have HA2 : Hid (ad2 = some ⟨b2, off2, none⟩ ∨ av.length = 0) := had2
      have B1 : Hid (w.cell? ⟨b, off + n * 2 + 1, none⟩ = some (.slice ad2 av.length cap2)) := b1
      clear hva hr2 had2 b0 b1
      have hw1 : IntKind.u64.wrap (k : Int) = k := by rw [IntKind.wrap_u64]; omega
      have hw2 : IntKind.u64.wrap (av.length : Int) = av.length := by rw [IntKind.wrap_u64]; omega
      go_wp2_with fail
      refine (rput_l E k 1 wr (by omega) (by omega) (by omega) (by have := HL.out; omega)).mono ?_
      rintro e w2 ⟨rfl, hb2⟩
      have c1' := below_cell hb2 c1
      have HB2 : Hid (Below w.heap.size w w2) := HB.out.trans (hb2.mono HB.out.size)
      clear c0 c1 hb2
      have hl1 := laid_length k 1
      go_wp2_with fail
      refine (rput_l (E ++ laid k 1) av.length 1 w2 (by omega) (by omega) (by omega) (by have := HL.out; simp; omega)).mono ?_
      rintro e w3 ⟨rfl, hb3⟩
      have HB3 : Hid (Below w.heap.size w w3) := HB2.out.trans (hb3.mono HB2.out.size)
      clear hb3 c1'
      go_wp2
      go_loopw [6, 8] (fun t i wr2 => ∃ j : Nat, j ≤ av.length ∧ i = .int .i64 j ∧ t = .string ⟨(E ++ laid k 1 ++ laid av.length 1 ++ asE four (av.take j)).toArray⟩ ∧ Below w.heap.size w wr2) (fun _ i _ => av.length - (intOf i).toNat)
      case atStart => exact ⟨0, Nat.zero_le _, rfl, by simp [asE], HB3.out⟩
      case round =>
        obtain ⟨j, hj, rfl, rfl, hb⟩ := hrel
        have HB4 : Hid (Below _ _ _) := hb
        have c1 := below_cell hb B1.out
        by_cases hlt2 : j < av.length
        · obtain rfl : ad2 = some ⟨b2, off2, none⟩ := by rcases HA2.out with h | h; exact h; omega
          have hc := ((HRU.out.below hb) j hlt2).1
          have hx := (HRU.out j hlt2).2
          have HE : Hid (asE four (av.take (j + 1)) = asE four (av.take j) ++ laid (fitN four av[j]) (szN four)) := by unfold Hid; rw [take_snoc av j hlt2, asE_snoc]
          have hle : (asE four (av.take j)).length ≤ 1020 := by
            rw [asE_length]
            have h1 : (av.take j).length ≤ 255 := by simp; omega
            have h2 : szN four ≤ 4 := by unfold szN; split <;> omega
            exact Nat.mul_le_mul h1 h2
          have HFL : Hid (fitN four av[j] < 256 ^ szN four) := fitN_lt four av[j] hx
          clear hb
          generalize av[j] = x at *
          have hwx : IntKind.u64.wrap (x : Int) = x := by rw [IntKind.wrap_u64]; omega
          have hle2 : (E ++ laid k 1 ++ laid av.length 1 ++ asE four (av.take j)).length ≤ 1000000 := by have := HL.out; simp [laid_length]; omega
          have HE2 : Hid (E ++ laid k 1 ++ laid av.length 1 ++ asE four (av.take (j + 1)) = (E ++ laid k 1 ++ laid av.length 1 ++ asE four (av.take j)) ++ laid (fitN four x) (szN four)) := by unfold Hid; rw [HE.out, ← List.append_assoc]
          clear HE hle
          generalize E ++ laid k 1 ++ laid av.length 1 ++ asE four (av.take j) = Z at *
          cases four with
          | true =>
            go_wp2_with fail
            refine (rput_l Z x 4 _ (by omega) (by omega) (by omega) hle2).mono ?_
            rintro e w5 ⟨rfl, hb5⟩
            have HB5 : Hid (Below w.heap.size w w5) := HB4.out.trans (hb5.mono HB4.out.size)
            clear hb5 hc c1
            go_wp2
            go_roundw
            case rel => exact ⟨j + 1, by omega, by go_num, by rw [HE2.out]; simp [fitN, szN], HB5.out⟩
            case measure => simp [intOf]; omega
          | false =>
            by_cases hbig : 65535 < x
            · go_wp2_with fail
              refine (rput_l Z 23456 2 _ (by omega) (by omega) (by omega) hle2).mono ?_
              rintro e w5 ⟨rfl, hb5⟩
              have HB5 : Hid (Below w.heap.size w w5) := HB4.out.trans (hb5.mono HB4.out.size)
              clear hb5 hc c1
              go_wp2
              go_roundw
              case rel => exact ⟨j + 1, by omega, by go_num, by rw [HE2.out]; simp [fitN, szN, hbig], HB5.out⟩
              case measure => simp [intOf]; omega
            · go_wp2_with fail
              refine (rput_l Z x 2 _ (by omega) (by omega) (by omega) hle2).mono ?_
              rintro e w5 ⟨rfl, hb5⟩
              have HB5 : Hid (Below w.heap.size w w5) := HB4.out.trans (hb5.mono HB4.out.size)
              clear hb5 hc c1
              go_wp2
              go_roundw
              case rel => exact ⟨j + 1, by omega, by go_num, by rw [HE2.out]; simp [fitN, szN, hbig], HB5.out⟩
              case measure => simp [intOf]; omega
        · obtain rfl : j = av.length := by omega
          rw [List.take_length]
          have HE5 : Hid (E ++ laid k 1 ++ laid av.length 1 ++ asE four av = encOf four (L.take (n + 1))) := by
            unfold Hid
            rw [HX.out]
            simp [segE, List.append_assoc]
          rw [HE5.out]
          clear hb
          go_wp2
          go_roundw
          case rel => exact ⟨n + 1, by omega, by go_num, rfl, HB4.out⟩
          case measure => simp [intOf]; omega
    · obtain rfl : n = L.length := by omega
      rw [List.take_length]
      clear hb
      go_wp2
      go_ret2
      exact ⟨rfl, HB.out⟩
end Go.Proofs.YtbdfigfjoiefiaaDoor
