/-
  MsgBack.
-/
import Derived.Test.YtkaghjohkhlimaaDoorMN
namespace Go.Proofs.YtkaghjohkhlimaaDoor
open Go.RowKit
theorem nt_two (c s : Nat) (d : List UInt8) : ntL c s d = UInt8.ofNat c :: UInt8.ofNat s :: d := by unfold ntL; rw [laid1, laid1]; rfl
theorem rd_nt (c s : Nat) (d : List UInt8) (hc : c < 256) (hs : s < 256) (hz : c ≠ 0) (hd : d.length ≤ 4075) : rdA (ntL c s d) = .tuple #[.agg (ntC c s d), .int .i64 0] := by
  have e1 : (UInt8.ofNat c).toNat = c := by rw [UInt8.toNat_ofNat']; omega
  have e2 : (UInt8.ofNat s).toNat = s := by rw [UInt8.toNat_ofNat']; omega
  rw [nt_two]
  unfold rdA
  rw [if_neg (by simp; omega)]
  show (if (UInt8.ofNat c).toNat = 0 then _ else _) = _
  rw [e1, e2, if_neg hz]
theorem rr_rf (f : Int) (h : isF f = true) : rrA (rfL f) = .tuple #[.int .i64 f, .int .i64 0] := by
  rcases isF_cases h with rfl | rfl | rfl | rfl | rfl
  all_goals kernel_rfl
theorem sz3 (n : Int) (h1 : 2 ≤ n) (h2 : n ≤ 4077) : vdV (szW 3 n) = .agg #[.int .i64 0, .int .u8 0, .int .u8 0] := by
  have : szW 3 n = 0 := by
    unfold szW
    rw [if_neg (by decide), if_neg]
    have : lN 3 = 2 := rfl
    have hf : fxK 3 = false := rfl
    rw [this, hf]
    simp
    omega
  rw [this]; rfl
theorem sz5 : vdV (szW 5 4) = .agg #[.int .i64 0, .int .u8 0, .int .u8 0] := by kernel_rfl
theorem rf_size (f : Int) : (⟨(rfL f).toArray⟩ : ByteArray).size = 4 := by rw [list_size, rf_four]; rfl
set_option maxHeartbeats 3200000 in
theorem back_fy (c s : Nat) (d : List UInt8) (f : Int) (hc : c < 256) (hs : s < 256) (hd : d.length ≤ 281474976710656) (h0 : c ≠ 0) (h1 : d.length ≤ 4075) (hf : isF f = true) (w : World) (hg : FamSizes w) :
    Calls Tryd.prog 6 #[.agg (ntC c s d), .int .i64 f] w fun e w' => e = .returned (.bool true) ∧ Below w.heap.size w w' := by
  have HB0 : Hid (Below w.heap.size w (w.alloc (.cells #[.int .u8 (c : Int), .int .u8 (s : Int), .string ⟨d.toArray⟩] 30))) := (Below.refl _ _).alloc (Nat.le_refl _) _
  have HN0 : Hid ((w.alloc (.cells #[.int .u8 (c : Int), .int .u8 (s : Int), .string ⟨d.toArray⟩] 30)).heap[w.heap.size]? = some (.cells #[.int .u8 (c : Int), .int .u8 (s : Int), .string ⟨d.toArray⟩] 30 (0, 0))) := hp_new rfl
  have HG : Hid (FamSizes w) := hg
  have KW : Hid (_ : Prop) := works_any _ (hg.below ((Below.refl _ _).alloc (Nat.le_refl _) (.cells #[.int .u8 (c : Int), .int .u8 (s : Int), .string ⟨d.toArray⟩] 30)))
  have K1 : Hid (∀ X, _) := fun X => note_any c s d hc hs hd X
  have K5 : Hid (∀ X, FamSizes X → _) := fun X h => refresh_any f X h
  rw [show ntA c s d = .tuple #[.string ⟨(ntL c s d).toArray⟩, .int .i64 0] by unfold ntA; rw [if_neg h0, if_neg (by omega)]] at K1
  have K2 : Hid (∀ X, _) := fun X => read_any (ntL c s d) X
  rw [rd_nt c s d hc hs h0 h1] at K2
  have K4 : Hid (∀ X, _) := fun X => msize_any 3 ((d.length + 2 : Nat) : Int) X
  rw [sz3 _ (by omega) (by omega)] at K4
  have hsz : (⟨(ntL c s d).toArray⟩ : ByteArray).size = d.length + 2 := by rw [list_size, nt_two]; rfl
  generalize d.length + 2 = n at *
  generalize (⟨(ntL c s d).toArray⟩ : ByteArray) = S at *
  clear h0 h1
  rw [show rfA f = .tuple #[.string ⟨(rfL f).toArray⟩, .int .i64 0] by unfold rfA; rw [hf]; rfl] at K5
  have K6 : Hid (∀ X, FamSizes X → _) := fun X h => rr_any (rfL f) X h
  rw [rr_rf f hf] at K6
  have K7 : Hid (∀ X, _) := fun X => msize_any 5 4 X
  rw [sz5] at K7
  have hs4 := rf_size f
  generalize (⟨(rfL f).toArray⟩ : ByteArray) = R at *
  clear hf
  unfold ntC at *
  generalize (⟨d.toArray⟩ : ByteArray) = D at *
  clear hg hc hs hd
  go_enter Tryd.func6, Tryd.ntmps6
  go_wp2_with fail
  refine Calls.mono KW.out ?_
  rintro e w1 ⟨rfl, hb1⟩
  have HB1 : Hid (Below w.heap.size w w1) := HB0.out.trans (hb1.mono HB0.out.size)
  have HN1 := blk hb1 HN0.out
  have n0 := cl_row (i := 0) HN1 rfl
  have n1 := cl_row (i := 1) HN1 rfl
  have n2 := cl_row (i := 2) HN1 rfl
  have HM1 : Hid (_ = _) := HN1
  clear hb1 KW HB0 HN0 HN1
  go_wp2_with fail
  refine Calls.mono (K1.out _) ?_
  rintro e w2 ⟨rfl, hb2⟩
  have HB2 : Hid (Below w.heap.size w w2) := HB1.out.trans (hb2.mono HB1.out.size)
  have HM2 : Hid (_ = _) := blk hb2 HM1.out
  clear n0 n1 n2 HM1 HB1 hb2
  go_wp2_with fail
  refine Calls.mono (K2.out _) ?_
  rintro e w3 ⟨rfl, hb3⟩
  have HB3 : Hid (Below w.heap.size w w3) := HB2.out.trans (hb3.mono HB2.out.size)
  have HM3 : Hid (_ = _) := blk hb3 HM2.out
  clear HM2 HB2 hb3 K2
  have HA3 : Hid (Below w.heap.size w (w3.alloc (.cells #[.int .u8 (c : Int), .int .u8 (s : Int), .string D] 30))) := HB3.out.alloc HB3.out.size _
  go_wp2_with fail
  refine Calls.mono (K1.out _) ?_
  rintro e w4 ⟨rfl, hb4⟩
  have HB4 : Hid (Below w.heap.size w w4) := HA3.out.trans (hb4.mono HA3.out.size)
  have HM4 := blk hb4 (hp_up (o := .cells #[.int .u8 (c : Int), .int .u8 (s : Int), .string D] 30) HM3.out)
  have HX4 := blk hb4 (hp_new (W := w3) (o := .cells #[.int .u8 (c : Int), .int .u8 (s : Int), .string D] 30) rfl)
  have n0 := cl_row (i := 0) HM4 rfl
  have n1 := cl_row (i := 1) HM4 rfl
  have n2 := cl_row (i := 2) HM4 rfl
  have x0 := cl_row (i := 0) HX4 rfl
  have x1 := cl_row (i := 1) HX4 rfl
  have x2 := cl_row (i := 2) HX4 rfl
  clear HM3 HB3 HA3 hb4 K1 HM4 HX4
  go_wp2_with fail
  refine Calls.mono (K4.out _) ?_
  rintro e w5 ⟨rfl, hb5⟩
  have HB5 : Hid (Below w.heap.size w w5) := HB4.out.trans (hb5.mono HB4.out.size)
  clear n0 n1 n2 x0 x1 x2 HB4 hb5 K4
  go_wp2_with fail
  refine Calls.mono (K5.out _ (HG.out.below HB5.out)) ?_
  rintro e w6 ⟨rfl, hb6⟩
  have HB6 : Hid (Below w.heap.size w w6) := HB5.out.trans (hb6.mono HB5.out.size)
  clear HB5 hb6 K5
  go_wp2_with fail
  refine Calls.mono (K6.out _ (HG.out.below HB6.out)) ?_
  rintro e w7 ⟨rfl, hb7⟩
  have HB7 : Hid (Below w.heap.size w w7) := HB6.out.trans (hb7.mono HB6.out.size)
  clear HB6 hb7 K6
  go_wp2_with fail
  refine Calls.mono (K7.out _) ?_
  rintro e w8 ⟨rfl, hb8⟩
  have HB8 : Hid (Below w.heap.size w w8) := HB7.out.trans (hb8.mono HB7.out.size)
  clear HB7 hb8 K7
  go_wp2
  go_ret
  exact ⟨rfl, HB8.out⟩
set_option maxHeartbeats 3200000 in
theorem back_fa (c s : Nat) (d : List UInt8) (f : Int) (hc : c < 256) (hs : s < 256) (hd : d.length ≤ 281474976710656) (h0 : c ≠ 0) (h1 : d.length ≤ 4075) (hf : f < 1) (w : World) (hg : FamSizes w) :
    Calls Tryd.prog 6 #[.agg (ntC c s d), .int .i64 f] w fun e w' => e = .returned (.bool true) ∧ Below w.heap.size w w' := by
  have HB0 : Hid (Below w.heap.size w (w.alloc (.cells #[.int .u8 (c : Int), .int .u8 (s : Int), .string ⟨d.toArray⟩] 30))) := (Below.refl _ _).alloc (Nat.le_refl _) _
  have HN0 : Hid ((w.alloc (.cells #[.int .u8 (c : Int), .int .u8 (s : Int), .string ⟨d.toArray⟩] 30)).heap[w.heap.size]? = some (.cells #[.int .u8 (c : Int), .int .u8 (s : Int), .string ⟨d.toArray⟩] 30 (0, 0))) := hp_new rfl
  have HG : Hid (FamSizes w) := hg
  have KW : Hid (_ : Prop) := works_any _ (hg.below ((Below.refl _ _).alloc (Nat.le_refl _) (.cells #[.int .u8 (c : Int), .int .u8 (s : Int), .string ⟨d.toArray⟩] 30)))
  have K1 : Hid (∀ X, _) := fun X => note_any c s d hc hs hd X
  have K5 : Hid (∀ X, FamSizes X → _) := fun X h => refresh_any f X h
  rw [show ntA c s d = .tuple #[.string ⟨(ntL c s d).toArray⟩, .int .i64 0] by unfold ntA; rw [if_neg h0, if_neg (by omega)]] at K1
  have K2 : Hid (∀ X, _) := fun X => read_any (ntL c s d) X
  rw [rd_nt c s d hc hs h0 h1] at K2
  have K4 : Hid (∀ X, _) := fun X => msize_any 3 ((d.length + 2 : Nat) : Int) X
  rw [sz3 _ (by omega) (by omega)] at K4
  have hsz : (⟨(ntL c s d).toArray⟩ : ByteArray).size = d.length + 2 := by rw [list_size, nt_two]; rfl
  generalize d.length + 2 = n at *
  generalize (⟨(ntL c s d).toArray⟩ : ByteArray) = S at *
  clear h0 h1
  have hff : isF f = false := by unfold isF; simp; omega
  rw [show rfA f = .tuple #[.string ⟨#[]⟩, .int .i64 2] by unfold rfA; rw [hff]; rfl] at K5
  clear hff
  unfold ntC at *
  generalize (⟨d.toArray⟩ : ByteArray) = D at *
  clear hg hc hs hd
  go_enter Tryd.func6, Tryd.ntmps6
  go_wp2_with fail
  refine Calls.mono KW.out ?_
  rintro e w1 ⟨rfl, hb1⟩
  have HB1 : Hid (Below w.heap.size w w1) := HB0.out.trans (hb1.mono HB0.out.size)
  have HN1 := blk hb1 HN0.out
  have n0 := cl_row (i := 0) HN1 rfl
  have n1 := cl_row (i := 1) HN1 rfl
  have n2 := cl_row (i := 2) HN1 rfl
  have HM1 : Hid (_ = _) := HN1
  clear hb1 KW HB0 HN0 HN1
  go_wp2_with fail
  refine Calls.mono (K1.out _) ?_
  rintro e w2 ⟨rfl, hb2⟩
  have HB2 : Hid (Below w.heap.size w w2) := HB1.out.trans (hb2.mono HB1.out.size)
  have HM2 : Hid (_ = _) := blk hb2 HM1.out
  clear n0 n1 n2 HM1 HB1 hb2
  go_wp2_with fail
  refine Calls.mono (K2.out _) ?_
  rintro e w3 ⟨rfl, hb3⟩
  have HB3 : Hid (Below w.heap.size w w3) := HB2.out.trans (hb3.mono HB2.out.size)
  have HM3 : Hid (_ = _) := blk hb3 HM2.out
  clear HM2 HB2 hb3 K2
  have HA3 : Hid (Below w.heap.size w (w3.alloc (.cells #[.int .u8 (c : Int), .int .u8 (s : Int), .string D] 30))) := HB3.out.alloc HB3.out.size _
  go_wp2_with fail
  refine Calls.mono (K1.out _) ?_
  rintro e w4 ⟨rfl, hb4⟩
  have HB4 : Hid (Below w.heap.size w w4) := HA3.out.trans (hb4.mono HA3.out.size)
  have HM4 := blk hb4 (hp_up (o := .cells #[.int .u8 (c : Int), .int .u8 (s : Int), .string D] 30) HM3.out)
  have HX4 := blk hb4 (hp_new (W := w3) (o := .cells #[.int .u8 (c : Int), .int .u8 (s : Int), .string D] 30) rfl)
  have n0 := cl_row (i := 0) HM4 rfl
  have n1 := cl_row (i := 1) HM4 rfl
  have n2 := cl_row (i := 2) HM4 rfl
  have x0 := cl_row (i := 0) HX4 rfl
  have x1 := cl_row (i := 1) HX4 rfl
  have x2 := cl_row (i := 2) HX4 rfl
  clear HM3 HB3 HA3 hb4 K1 HM4 HX4
  go_wp2_with fail
  refine Calls.mono (K4.out _) ?_
  rintro e w5 ⟨rfl, hb5⟩
  have HB5 : Hid (Below w.heap.size w w5) := HB4.out.trans (hb5.mono HB4.out.size)
  clear n0 n1 n2 x0 x1 x2 HB4 hb5 K4
  go_wp2_with fail
  refine Calls.mono (K5.out _ (HG.out.below HB5.out)) ?_
  rintro e w6 ⟨rfl, hb6⟩
  have HB6 : Hid (Below w.heap.size w w6) := HB5.out.trans (hb6.mono HB5.out.size)
  clear HB5 hb6 K5
  go_wp2
  go_ret
  exact ⟨rfl, HB6.out⟩
set_option maxHeartbeats 3200000 in
theorem back_fb (c s : Nat) (d : List UInt8) (f : Int) (hc : c < 256) (hs : s < 256) (hd : d.length ≤ 281474976710656) (h0 : c ≠ 0) (h1 : d.length ≤ 4075) (hf : 5 < f) (w : World) (hg : FamSizes w) :
    Calls Tryd.prog 6 #[.agg (ntC c s d), .int .i64 f] w fun e w' => e = .returned (.bool true) ∧ Below w.heap.size w w' := by
  have HB0 : Hid (Below w.heap.size w (w.alloc (.cells #[.int .u8 (c : Int), .int .u8 (s : Int), .string ⟨d.toArray⟩] 30))) := (Below.refl _ _).alloc (Nat.le_refl _) _
  have HN0 : Hid ((w.alloc (.cells #[.int .u8 (c : Int), .int .u8 (s : Int), .string ⟨d.toArray⟩] 30)).heap[w.heap.size]? = some (.cells #[.int .u8 (c : Int), .int .u8 (s : Int), .string ⟨d.toArray⟩] 30 (0, 0))) := hp_new rfl
  have HG : Hid (FamSizes w) := hg
  have KW : Hid (_ : Prop) := works_any _ (hg.below ((Below.refl _ _).alloc (Nat.le_refl _) (.cells #[.int .u8 (c : Int), .int .u8 (s : Int), .string ⟨d.toArray⟩] 30)))
  have K1 : Hid (∀ X, _) := fun X => note_any c s d hc hs hd X
  have K5 : Hid (∀ X, FamSizes X → _) := fun X h => refresh_any f X h
  rw [show ntA c s d = .tuple #[.string ⟨(ntL c s d).toArray⟩, .int .i64 0] by unfold ntA; rw [if_neg h0, if_neg (by omega)]] at K1
  have K2 : Hid (∀ X, _) := fun X => read_any (ntL c s d) X
  rw [rd_nt c s d hc hs h0 h1] at K2
  have K4 : Hid (∀ X, _) := fun X => msize_any 3 ((d.length + 2 : Nat) : Int) X
  rw [sz3 _ (by omega) (by omega)] at K4
  have hsz : (⟨(ntL c s d).toArray⟩ : ByteArray).size = d.length + 2 := by rw [list_size, nt_two]; rfl
  generalize d.length + 2 = n at *
  generalize (⟨(ntL c s d).toArray⟩ : ByteArray) = S at *
  clear h0 h1
  have hff : isF f = false := by unfold isF; simp; omega
  rw [show rfA f = .tuple #[.string ⟨#[]⟩, .int .i64 2] by unfold rfA; rw [hff]; rfl] at K5
  clear hff
  have gf : decide (f < 1) = false := by simp; omega
  unfold ntC at *
  generalize (⟨d.toArray⟩ : ByteArray) = D at *
  clear hg hc hs hd
  go_enter Tryd.func6, Tryd.ntmps6
  go_wp2_with fail
  refine Calls.mono KW.out ?_
  rintro e w1 ⟨rfl, hb1⟩
  have HB1 : Hid (Below w.heap.size w w1) := HB0.out.trans (hb1.mono HB0.out.size)
  have HN1 := blk hb1 HN0.out
  have n0 := cl_row (i := 0) HN1 rfl
  have n1 := cl_row (i := 1) HN1 rfl
  have n2 := cl_row (i := 2) HN1 rfl
  have HM1 : Hid (_ = _) := HN1
  clear hb1 KW HB0 HN0 HN1
  go_wp2_with fail
  refine Calls.mono (K1.out _) ?_
  rintro e w2 ⟨rfl, hb2⟩
  have HB2 : Hid (Below w.heap.size w w2) := HB1.out.trans (hb2.mono HB1.out.size)
  have HM2 : Hid (_ = _) := blk hb2 HM1.out
  clear n0 n1 n2 HM1 HB1 hb2
  go_wp2_with fail
  refine Calls.mono (K2.out _) ?_
  rintro e w3 ⟨rfl, hb3⟩
  have HB3 : Hid (Below w.heap.size w w3) := HB2.out.trans (hb3.mono HB2.out.size)
  have HM3 : Hid (_ = _) := blk hb3 HM2.out
  clear HM2 HB2 hb3 K2
  have HA3 : Hid (Below w.heap.size w (w3.alloc (.cells #[.int .u8 (c : Int), .int .u8 (s : Int), .string D] 30))) := HB3.out.alloc HB3.out.size _
  go_wp2_with fail
  refine Calls.mono (K1.out _) ?_
  rintro e w4 ⟨rfl, hb4⟩
  have HB4 : Hid (Below w.heap.size w w4) := HA3.out.trans (hb4.mono HA3.out.size)
  have HM4 := blk hb4 (hp_up (o := .cells #[.int .u8 (c : Int), .int .u8 (s : Int), .string D] 30) HM3.out)
  have HX4 := blk hb4 (hp_new (W := w3) (o := .cells #[.int .u8 (c : Int), .int .u8 (s : Int), .string D] 30) rfl)
  have n0 := cl_row (i := 0) HM4 rfl
  have n1 := cl_row (i := 1) HM4 rfl
  have n2 := cl_row (i := 2) HM4 rfl
  have x0 := cl_row (i := 0) HX4 rfl
  have x1 := cl_row (i := 1) HX4 rfl
  have x2 := cl_row (i := 2) HX4 rfl
  clear HM3 HB3 HA3 hb4 K1 HM4 HX4
  go_wp2_with fail
  refine Calls.mono (K4.out _) ?_
  rintro e w5 ⟨rfl, hb5⟩
  have HB5 : Hid (Below w.heap.size w w5) := HB4.out.trans (hb5.mono HB4.out.size)
  clear n0 n1 n2 x0 x1 x2 HB4 hb5 K4
  go_wp2_with fail
  refine Calls.mono (K5.out _ (HG.out.below HB5.out)) ?_
  rintro e w6 ⟨rfl, hb6⟩
  have HB6 : Hid (Below w.heap.size w w6) := HB5.out.trans (hb6.mono HB5.out.size)
  clear HB5 hb6 K5
  go_wp2
  go_ret
  exact ⟨rfl, HB6.out⟩
end Go.Proofs.YtkaghjohkhlimaaDoor
