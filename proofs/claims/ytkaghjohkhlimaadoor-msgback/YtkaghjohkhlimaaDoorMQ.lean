/-
  MsgBack.
-/
import Derived.Test.YtkaghjohkhlimaaDoorMP
namespace Go.Proofs.YtkaghjohkhlimaaDoor
open Go.RowKit
set_option maxHeartbeats 3200000 in
theorem back_zy (c s : Nat) (d : List UInt8) (f : Int) (hc : c < 256) (hs : s < 256) (hd : d.length ≤ 281474976710656) (h0 : c = 0) (hf : isF f = true) (w : World) (hg : FamSizes w) :
    Calls Tryd.prog 6 #[.agg (ntC c s d), .int .i64 f] w fun e w' => e = .returned (.bool true) ∧ Below w.heap.size w w' := by
  have HB0 : Hid (Below w.heap.size w (w.alloc (.cells #[.int .u8 (c : Int), .int .u8 (s : Int), .string ⟨d.toArray⟩] 30))) := (Below.refl _ _).alloc (Nat.le_refl _) _
  have HN0 : Hid ((w.alloc (.cells #[.int .u8 (c : Int), .int .u8 (s : Int), .string ⟨d.toArray⟩] 30)).heap[w.heap.size]? = some (.cells #[.int .u8 (c : Int), .int .u8 (s : Int), .string ⟨d.toArray⟩] 30 (0, 0))) := hp_new rfl
  have HG : Hid (FamSizes w) := hg
  have KW : Hid (_ : Prop) := works_any _ (hg.below ((Below.refl _ _).alloc (Nat.le_refl _) (.cells #[.int .u8 (c : Int), .int .u8 (s : Int), .string ⟨d.toArray⟩] 30)))
  have K1 : Hid (∀ X, _) := fun X => note_any c s d hc hs hd X
  have K5 : Hid (∀ X, FamSizes X → _) := fun X h => refresh_any f X h
  rw [show ntA c s d = .tuple #[.string ⟨#[]⟩, .int .i64 2] by unfold ntA; rw [if_pos h0]] at K1
  clear h0
  rw [show rfA f = .tuple #[.string ⟨(rfL f).toArray⟩, .int .i64 0] by unfold rfA; rw [hf]; rfl] at K5
  have K6 : Hid (∀ X, FamSizes X → _) := fun X h => rr_any (rfL f) X h
  rw [rr_rf f hf] at K6
  have K7 : Hid (∀ X, _) := fun X => msize_any 5 4 X
  rw [sz5] at K7
  have hs4 := rf_size f
  generalize (⟨(rfL f).toArray⟩ : ByteArray) = R at *
  clear hf
  unfold ntC at *
  generalize (⟨d.toArray⟩ : ByteArray) = D at *
  clear hg hc hs hd
  go_enter Tryd.func6, Tryd.ntmps6
  go_wp2_with fail
  refine Calls.mono KW.out ?_
  rintro e w1 ⟨rfl, hb1⟩
  have HB1 : Hid (Below w.heap.size w w1) := HB0.out.trans (hb1.mono HB0.out.size)
  have HN1 := blk hb1 HN0.out
  have n0 := cl_row (i := 0) HN1 rfl
  have n1 := cl_row (i := 1) HN1 rfl
  have n2 := cl_row (i := 2) HN1 rfl
  have HM1 : Hid (_ = _) := HN1
  clear hb1 KW HB0 HN0 HN1
  go_wp2_with fail
  refine Calls.mono (K1.out _) ?_
  rintro e w2 ⟨rfl, hb2⟩
  have HB2 : Hid (Below w.heap.size w w2) := HB1.out.trans (hb2.mono HB1.out.size)
  have HM2 : Hid (_ = _) := blk hb2 HM1.out
  clear n0 n1 n2 HM1 HB1 hb2
  clear HM2 K1
  go_wp2_with fail
  refine Calls.mono (K5.out _ (HG.out.below HB2.out)) ?_
  rintro e w6 ⟨rfl, hb6⟩
  have HB6 : Hid (Below w.heap.size w w6) := HB2.out.trans (hb6.mono HB2.out.size)
  clear HB2 hb6 K5
  go_wp2_with fail
  refine Calls.mono (K6.out _ (HG.out.below HB6.out)) ?_
  rintro e w7 ⟨rfl, hb7⟩
  have HB7 : Hid (Below w.heap.size w w7) := HB6.out.trans (hb7.mono HB6.out.size)
  clear HB6 hb7 K6
  go_wp2_with fail
  refine Calls.mono (K7.out _) ?_
  rintro e w8 ⟨rfl, hb8⟩
  have HB8 : Hid (Below w.heap.size w w8) := HB7.out.trans (hb8.mono HB7.out.size)
  clear HB7 hb8 K7
  go_wp2
  go_ret
  exact ⟨rfl, HB8.out⟩
set_option maxHeartbeats 3200000 in
theorem back_za (c s : Nat) (d : List UInt8) (f : Int) (hc : c < 256) (hs : s < 256) (hd : d.length ≤ 281474976710656) (h0 : c = 0) (hf : f < 1) (w : World) (hg : FamSizes w) :
    Calls Tryd.prog 6 #[.agg (ntC c s d), .int .i64 f] w fun e w' => e = .returned (.bool true) ∧ Below w.heap.size w w' := by
  have HB0 : Hid (Below w.heap.size w (w.alloc (.cells #[.int .u8 (c : Int), .int .u8 (s : Int), .string ⟨d.toArray⟩] 30))) := (Below.refl _ _).alloc (Nat.le_refl _) _
  have HN0 : Hid ((w.alloc (.cells #[.int .u8 (c : Int), .int .u8 (s : Int), .string ⟨d.toArray⟩] 30)).heap[w.heap.size]? = some (.cells #[.int .u8 (c : Int), .int .u8 (s : Int), .string ⟨d.toArray⟩] 30 (0, 0))) := hp_new rfl
  have HG : Hid (FamSizes w) := hg
  have KW : Hid (_ : Prop) := works_any _ (hg.below ((Below.refl _ _).alloc (Nat.le_refl _) (.cells #[.int .u8 (c : Int), .int .u8 (s : Int), .string ⟨d.toArray⟩] 30)))
  have K1 : Hid (∀ X, _) := fun X => note_any c s d hc hs hd X
  have K5 : Hid (∀ X, FamSizes X → _) := fun X h => refresh_any f X h
  rw [show ntA c s d = .tuple #[.string ⟨#[]⟩, .int .i64 2] by unfold ntA; rw [if_pos h0]] at K1
  clear h0
  have hff : isF f = false := by unfold isF; simp; omega
  rw [show rfA f = .tuple #[.string ⟨#[]⟩, .int .i64 2] by unfold rfA; rw [hff]; rfl] at K5
  clear hff
  unfold ntC at *
  generalize (⟨d.toArray⟩ : ByteArray) = D at *
  clear hg hc hs hd
  go_enter Tryd.func6, Tryd.ntmps6
  go_wp2_with fail
  refine Calls.mono KW.out ?_
  rintro e w1 ⟨rfl, hb1⟩
  have HB1 : Hid (Below w.heap.size w w1) := HB0.out.trans (hb1.mono HB0.out.size)
  have HN1 := blk hb1 HN0.out
  have n0 := cl_row (i := 0) HN1 rfl
  have n1 := cl_row (i := 1) HN1 rfl
  have n2 := cl_row (i := 2) HN1 rfl
  have HM1 : Hid (_ = _) := HN1
  clear hb1 KW HB0 HN0 HN1
  go_wp2_with fail
  refine Calls.mono (K1.out _) ?_
  rintro e w2 ⟨rfl, hb2⟩
  have HB2 : Hid (Below w.heap.size w w2) := HB1.out.trans (hb2.mono HB1.out.size)
  have HM2 : Hid (_ = _) := blk hb2 HM1.out
  clear n0 n1 n2 HM1 HB1 hb2
  clear HM2 K1
  go_wp2_with fail
  refine Calls.mono (K5.out _ (HG.out.below HB2.out)) ?_
  rintro e w6 ⟨rfl, hb6⟩
  have HB6 : Hid (Below w.heap.size w w6) := HB2.out.trans (hb6.mono HB2.out.size)
  clear HB2 hb6 K5
  go_wp2
  go_ret
  exact ⟨rfl, HB6.out⟩
set_option maxHeartbeats 3200000 in
theorem back_zb (c s : Nat) (d : List UInt8) (f : Int) (hc : c < 256) (hs : s < 256) (hd : d.length ≤ 281474976710656) (h0 : c = 0) (hf : 5 < f) (w : World) (hg : FamSizes w) :
    Calls Tryd.prog 6 #[.agg (ntC c s d), .int .i64 f] w fun e w' => e = .returned (.bool true) ∧ Below w.heap.size w w' := by
  have HB0 : Hid (Below w.heap.size w (w.alloc (.cells #[.int .u8 (c : Int), .int .u8 (s : Int), .string ⟨d.toArray⟩] 30))) := (Below.refl _ _).alloc (Nat.le_refl _) _
  have HN0 : Hid ((w.alloc (.cells #[.int .u8 (c : Int), .int .u8 (s : Int), .string ⟨d.toArray⟩] 30)).heap[w.heap.size]? = some (.cells #[.int .u8 (c : Int), .int .u8 (s : Int), .string ⟨d.toArray⟩] 30 (0, 0))) := hp_new rfl
  have HG : Hid (FamSizes w) := hg
  have KW : Hid (_ : Prop) := works_any _ (hg.below ((Below.refl _ _).alloc (Nat.le_refl _) (.cells #[.int .u8 (c : Int), .int .u8 (s : Int), .string ⟨d.toArray⟩] 30)))
  have K1 : Hid (∀ X, _) := fun X => note_any c s d hc hs hd X
  have K5 : Hid (∀ X, FamSizes X → _) := fun X h => refresh_any f X h
  rw [show ntA c s d = .tuple #[.string ⟨#[]⟩, .int .i64 2] by unfold ntA; rw [if_pos h0]] at K1
  clear h0
  have hff : isF f = false := by unfold isF; simp; omega
  rw [show rfA f = .tuple #[.string ⟨#[]⟩, .int .i64 2] by unfold rfA; rw [hff]; rfl] at K5
  clear hff
  have gf : decide (f < 1) = false := by simp; omega
  unfold ntC at *
  generalize (⟨d.toArray⟩ : ByteArray) = D at *
  clear hg hc hs hd
  go_enter Tryd.func6, Tryd.ntmps6
  go_wp2_with fail
  refine Calls.mono KW.out ?_
  rintro e w1 ⟨rfl, hb1⟩
  have HB1 : Hid (Below w.heap.size w w1) := HB0.out.trans (hb1.mono HB0.out.size)
  have HN1 := blk hb1 HN0.out
  have n0 := cl_row (i := 0) HN1 rfl
  have n1 := cl_row (i := 1) HN1 rfl
  have n2 := cl_row (i := 2) HN1 rfl
  have HM1 : Hid (_ = _) := HN1
  clear hb1 KW HB0 HN0 HN1
  go_wp2_with fail
  refine Calls.mono (K1.out _) ?_
  rintro e w2 ⟨rfl, hb2⟩
  have HB2 : Hid (Below w.heap.size w w2) := HB1.out.trans (hb2.mono HB1.out.size)
  have HM2 : Hid (_ = _) := blk hb2 HM1.out
  clear n0 n1 n2 HM1 HB1 hb2
  clear HM2 K1
  go_wp2_with fail
  refine Calls.mono (K5.out _ (HG.out.below HB2.out)) ?_
  rintro e w6 ⟨rfl, hb6⟩
  have HB6 : Hid (Below w.heap.size w w6) := HB2.out.trans (hb6.mono HB2.out.size)
  clear HB2 hb6 K5
  go_wp2
  go_ret
  exact ⟨rfl, HB6.out⟩
set_option maxHeartbeats 3200000 in
theorem back_ly (c s : Nat) (d : List UInt8) (f : Int) (hc : c < 256) (hs : s < 256) (hd : d.length ≤ 281474976710656) (h0 : c ≠ 0) (h1 : 4075 < d.length) (hf : isF f = true) (w : World) (hg : FamSizes w) :
    Calls Tryd.prog 6 #[.agg (ntC c s d), .int .i64 f] w fun e w' => e = .returned (.bool true) ∧ Below w.heap.size w w' := by
  have HB0 : Hid (Below w.heap.size w (w.alloc (.cells #[.int .u8 (c : Int), .int .u8 (s : Int), .string ⟨d.toArray⟩] 30))) := (Below.refl _ _).alloc (Nat.le_refl _) _
  have HN0 : Hid ((w.alloc (.cells #[.int .u8 (c : Int), .int .u8 (s : Int), .string ⟨d.toArray⟩] 30)).heap[w.heap.size]? = some (.cells #[.int .u8 (c : Int), .int .u8 (s : Int), .string ⟨d.toArray⟩] 30 (0, 0))) := hp_new rfl
  have HG : Hid (FamSizes w) := hg
  have KW : Hid (_ : Prop) := works_any _ (hg.below ((Below.refl _ _).alloc (Nat.le_refl _) (.cells #[.int .u8 (c : Int), .int .u8 (s : Int), .string ⟨d.toArray⟩] 30)))
  have K1 : Hid (∀ X, _) := fun X => note_any c s d hc hs hd X
  have K5 : Hid (∀ X, FamSizes X → _) := fun X h => refresh_any f X h
  rw [show ntA c s d = .tuple #[.string ⟨#[]⟩, .int .i64 3] by unfold ntA; rw [if_neg h0, if_pos h1]] at K1
  clear h0 h1
  rw [show rfA f = .tuple #[.string ⟨(rfL f).toArray⟩, .int .i64 0] by unfold rfA; rw [hf]; rfl] at K5
  have K6 : Hid (∀ X, FamSizes X → _) := fun X h => rr_any (rfL f) X h
  rw [rr_rf f hf] at K6
  have K7 : Hid (∀ X, _) := fun X => msize_any 5 4 X
  rw [sz5] at K7
  have hs4 := rf_size f
  generalize (⟨(rfL f).toArray⟩ : ByteArray) = R at *
  clear hf
  unfold ntC at *
  generalize (⟨d.toArray⟩ : ByteArray) = D at *
  clear hg hc hs hd
  go_enter Tryd.func6, Tryd.ntmps6
  go_wp2_with fail
  refine Calls.mono KW.out ?_
  rintro e w1 ⟨rfl, hb1⟩
  have HB1 : Hid (Below w.heap.size w w1) := HB0.out.trans (hb1.mono HB0.out.size)
  have HN1 := blk hb1 HN0.out
  have n0 := cl_row (i := 0) HN1 rfl
  have n1 := cl_row (i := 1) HN1 rfl
  have n2 := cl_row (i := 2) HN1 rfl
  have HM1 : Hid (_ = _) := HN1
  clear hb1 KW HB0 HN0 HN1
  go_wp2_with fail
  refine Calls.mono (K1.out _) ?_
  rintro e w2 ⟨rfl, hb2⟩
  have HB2 : Hid (Below w.heap.size w w2) := HB1.out.trans (hb2.mono HB1.out.size)
  have HM2 : Hid (_ = _) := blk hb2 HM1.out
  clear n0 n1 n2 HM1 HB1 hb2
  clear HM2 K1
  go_wp2_with fail
  refine Calls.mono (K5.out _ (HG.out.below HB2.out)) ?_
  rintro e w6 ⟨rfl, hb6⟩
  have HB6 : Hid (Below w.heap.size w w6) := HB2.out.trans (hb6.mono HB2.out.size)
  clear HB2 hb6 K5
  go_wp2_with fail
  refine Calls.mono (K6.out _ (HG.out.below HB6.out)) ?_
  rintro e w7 ⟨rfl, hb7⟩
  have HB7 : Hid (Below w.heap.size w w7) := HB6.out.trans (hb7.mono HB6.out.size)
  clear HB6 hb7 K6
  go_wp2_with fail
  refine Calls.mono (K7.out _) ?_
  rintro e w8 ⟨rfl, hb8⟩
  have HB8 : Hid (Below w.heap.size w w8) := HB7.out.trans (hb8.mono HB7.out.size)
  clear HB7 hb8 K7
  go_wp2
  go_ret
  exact ⟨rfl, HB8.out⟩
set_option maxHeartbeats 3200000 in
theorem back_la (c s : Nat) (d : List UInt8) (f : Int) (hc : c < 256) (hs : s < 256) (hd : d.length ≤ 281474976710656) (h0 : c ≠ 0) (h1 : 4075 < d.length) (hf : f < 1) (w : World) (hg : FamSizes w) :
    Calls Tryd.prog 6 #[.agg (ntC c s d), .int .i64 f] w fun e w' => e = .returned (.bool true) ∧ Below w.heap.size w w' := by
  have HB0 : Hid (Below w.heap.size w (w.alloc (.cells #[.int .u8 (c : Int), .int .u8 (s : Int), .string ⟨d.toArray⟩] 30))) := (Below.refl _ _).alloc (Nat.le_refl _) _
  have HN0 : Hid ((w.alloc (.cells #[.int .u8 (c : Int), .int .u8 (s : Int), .string ⟨d.toArray⟩] 30)).heap[w.heap.size]? = some (.cells #[.int .u8 (c : Int), .int .u8 (s : Int), .string ⟨d.toArray⟩] 30 (0, 0))) := hp_new rfl
  have HG : Hid (FamSizes w) := hg
  have KW : Hid (_ : Prop) := works_any _ (hg.below ((Below.refl _ _).alloc (Nat.le_refl _) (.cells #[.int .u8 (c : Int), .int .u8 (s : Int), .string ⟨d.toArray⟩] 30)))
  have K1 : Hid (∀ X, _) := fun X => note_any c s d hc hs hd X
  have K5 : Hid (∀ X, FamSizes X → _) := fun X h => refresh_any f X h
  rw [show ntA c s d = .tuple #[.string ⟨#[]⟩, .int .i64 3] by unfold ntA; rw [if_neg h0, if_pos h1]] at K1
  clear h0 h1
  have hff : isF f = false := by unfold isF; simp; omega
  rw [show rfA f = .tuple #[.string ⟨#[]⟩, .int .i64 2] by unfold rfA; rw [hff]; rfl] at K5
  clear hff
  unfold ntC at *
  generalize (⟨d.toArray⟩ : ByteArray) = D at *
  clear hg hc hs hd
  go_enter Tryd.func6, Tryd.ntmps6
  go_wp2_with fail
  refine Calls.mono KW.out ?_
  rintro e w1 ⟨rfl, hb1⟩
  have HB1 : Hid (Below w.heap.size w w1) := HB0.out.trans (hb1.mono HB0.out.size)
  have HN1 := blk hb1 HN0.out
  have n0 := cl_row (i := 0) HN1 rfl
  have n1 := cl_row (i := 1) HN1 rfl
  have n2 := cl_row (i := 2) HN1 rfl
  have HM1 : Hid (_ = _) := HN1
  clear hb1 KW HB0 HN0 HN1
  go_wp2_with fail
  refine Calls.mono (K1.out _) ?_
  rintro e w2 ⟨rfl, hb2⟩
  have HB2 : Hid (Below w.heap.size w w2) := HB1.out.trans (hb2.mono HB1.out.size)
  have HM2 : Hid (_ = _) := blk hb2 HM1.out
  clear n0 n1 n2 HM1 HB1 hb2
  clear HM2 K1
  go_wp2_with fail
  refine Calls.mono (K5.out _ (HG.out.below HB2.out)) ?_
  rintro e w6 ⟨rfl, hb6⟩
  have HB6 : Hid (Below w.heap.size w w6) := HB2.out.trans (hb6.mono HB2.out.size)
  clear HB2 hb6 K5
  go_wp2
  go_ret
  exact ⟨rfl, HB6.out⟩
set_option maxHeartbeats 3200000 in
theorem back_lb (c s : Nat) (d : List UInt8) (f : Int) (hc : c < 256) (hs : s < 256) (hd : d.length ≤ 281474976710656) (h0 : c ≠ 0) (h1 : 4075 < d.length) (hf : 5 < f) (w : World) (hg : FamSizes w) :
    Calls Tryd.prog 6 #[.agg (ntC c s d), .int .i64 f] w fun e w' => e = .returned (.bool true) ∧ Below w.heap.size w w' := by
  have HB0 : Hid (Below w.heap.size w (w.alloc (.cells #[.int .u8 (c : Int), .int .u8 (s : Int), .string ⟨d.toArray⟩] 30))) := (Below.refl _ _).alloc (Nat.le_refl _) _
  have HN0 : Hid ((w.alloc (.cells #[.int .u8 (c : Int), .int .u8 (s : Int), .string ⟨d.toArray⟩] 30)).heap[w.heap.size]? = some (.cells #[.int .u8 (c : Int), .int .u8 (s : Int), .string ⟨d.toArray⟩] 30 (0, 0))) := hp_new rfl
  have HG : Hid (FamSizes w) := hg
  have KW : Hid (_ : Prop) := works_any _ (hg.below ((Below.refl _ _).alloc (Nat.le_refl _) (.cells #[.int .u8 (c : Int), .int .u8 (s : Int), .string ⟨d.toArray⟩] 30)))
  have K1 : Hid (∀ X, _) := fun X => note_any c s d hc hs hd X
  have K5 : Hid (∀ X, FamSizes X → _) := fun X h => refresh_any f X h
  rw [show ntA c s d = .tuple #[.string ⟨#[]⟩, .int .i64 3] by unfold ntA; rw [if_neg h0, if_pos h1]] at K1
  clear h0 h1
  have hff : isF f = false := by unfold isF; simp; omega
  rw [show rfA f = .tuple #[.string ⟨#[]⟩, .int .i64 2] by unfold rfA; rw [hff]; rfl] at K5
  clear hff
  have gf : decide (f < 1) = false := by simp; omega
  unfold ntC at *
  generalize (⟨d.toArray⟩ : ByteArray) = D at *
  clear hg hc hs hd
  go_enter Tryd.func6, Tryd.ntmps6
  go_wp2_with fail
  refine Calls.mono KW.out ?_
  rintro e w1 ⟨rfl, hb1⟩
  have HB1 : Hid (Below w.heap.size w w1) := HB0.out.trans (hb1.mono HB0.out.size)
  have HN1 := blk hb1 HN0.out
  have n0 := cl_row (i := 0) HN1 rfl
  have n1 := cl_row (i := 1) HN1 rfl
  have n2 := cl_row (i := 2) HN1 rfl
  have HM1 : Hid (_ = _) := HN1
  clear hb1 KW HB0 HN0 HN1
  go_wp2_with fail
  refine Calls.mono (K1.out _) ?_
  rintro e w2 ⟨rfl, hb2⟩
  have HB2 : Hid (Below w.heap.size w w2) := HB1.out.trans (hb2.mono HB1.out.size)
  have HM2 : Hid (_ = _) := blk hb2 HM1.out
  clear n0 n1 n2 HM1 HB1 hb2
  clear HM2 K1
  go_wp2_with fail
  refine Calls.mono (K5.out _ (HG.out.below HB2.out)) ?_
  rintro e w6 ⟨rfl, hb6⟩
  have HB6 : Hid (Below w.heap.size w w6) := HB2.out.trans (hb6.mono HB2.out.size)
  clear HB2 hb6 K5
  go_wp2
  go_ret
  exact ⟨rfl, HB6.out⟩
theorem back_walk (c s : Nat) (d : List UInt8) (f : Int) (hc : c < 256) (hs : s < 256) (hd : d.length ≤ 281474976710656) (w : World) (hg : FamSizes w) :
    Calls Tryd.prog 6 #[.agg (ntC c s d), .int .i64 f] w fun e w' => e = .returned (.bool true) ∧ Below w.heap.size w w' := by
  by_cases h0 : c = 0
  · by_cases hf : f < 1
    · exact back_za c s d f hc hs hd h0 hf w hg
    · by_cases hf5 : 5 < f
      · exact back_zb c s d f hc hs hd h0 hf5 w hg
      · exact back_zy c s d f hc hs hd h0 (by unfold isF; simp; omega) w hg
  · by_cases h1 : 4075 < d.length
    · by_cases hf : f < 1
      · exact back_la c s d f hc hs hd h0 h1 hf w hg
      · by_cases hf5 : 5 < f
        · exact back_lb c s d f hc hs hd h0 h1 hf5 w hg
        · exact back_ly c s d f hc hs hd h0 h1 (by unfold isF; simp; omega) w hg
    · by_cases hf : f < 1
      · exact back_fa c s d f hc hs hd h0 (by omega) hf w hg
      · by_cases hf5 : 5 < f
        · exact back_fb c s d f hc hs hd h0 (by omega) hf5 w hg
        · exact back_fy c s d f hc hs hd h0 (by omega) (by unfold isF; simp; omega) w hg
end Go.Proofs.YtkaghjohkhlimaaDoor
