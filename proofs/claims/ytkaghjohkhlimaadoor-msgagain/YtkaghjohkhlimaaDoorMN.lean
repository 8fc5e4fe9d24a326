/-
  MsgNotes and MsgTold.
-/
import Derived.Test.YtkaghjohkhlimaaDoorMM
namespace Go.Proofs.YtkaghjohkhlimaaDoor
open Go.RowKit
theorem blk {w w' : World} {b : Nat} {x : Obj} (hb : Below w.heap.size w w') (h : w.heap[b]? = some x) : w'.heap[b]? = some x := (hb.block _ (lt_of_heap h)).trans h
theorem ntA_form (c s : Nat) (d : List UInt8) : ∃ (s1 : ByteArray) (e : Int), ntA c s d = .tuple #[.string s1, .int .i64 e] := by
  unfold ntA; split
  · exact ⟨_, _, rfl⟩
  · split <;> exact ⟨_, _, rfl⟩
theorem rdA_form (l : List UInt8) : ∃ (c s : Nat) (d : List UInt8) (e : Int), rdA l = .tuple #[.agg (ntC c s d), .int .i64 e] := by
  unfold rdA; split
  · exact ⟨_, _, _, _, rfl⟩
  · split
    · split <;> exact ⟨_, _, _, _, rfl⟩
    · exact ⟨_, _, _, _, rfl⟩
theorem tdC_form (a : Int) (c s : Nat) : ∃ (c' s' : Nat), tdC a c s = ntC c' s' [] := by
  unfold tdC; split <;> exact ⟨_, _, rfl⟩
theorem allB {w W : World} {B : Nat} (h : Below B w W) (hB : B ≤ W.heap.size) (o : Obj) : Below B w (W.alloc o) := h.alloc hB o
set_option maxHeartbeats 3200000 in
theorem notes_walk (c s : Nat) (d l : List UInt8) (a : Int) (vc vs : Nat) (hc : c < 256) (hs : s < 256) (hd : d.length ≤ 281474976710656) (w : World) (hg : FamSizes w) :
    Calls Tryd.prog 4 #[.agg (ntC c s d), .string ⟨l.toArray⟩, .agg #[.int .i64 a, .int .u8 vc, .int .u8 vs]] w fun e w' => e = .returned (.bool true) ∧ Below w.heap.size w w' := by
  have K1 : Hid (∀ X, _) := fun X => note_any c s d hc hs hd X
  have K2 : Hid (∀ X, _) := fun X => rnote_any c s d hc hs hd X
  have K3 : Hid (∀ X, _) := fun X => read_any l X
  have K4 : Hid (∀ X, _) := fun X => rread_any l X
  have K5 : Hid (∀ X, _) := fun X => told_any a vc vs X
  have K6 : Hid (∀ X, _) := fun X => rtold_any a vc vs X
  have HG : Hid (FamSizes w) := hg
  obtain ⟨s1, e1, h1⟩ := ntA_form c s d
  obtain ⟨c2, t2, d2, e2, h2⟩ := rdA_form l
  obtain ⟨c3, t3, h3⟩ := tdC_form a vc vs
  rw [h1] at K1 K2
  rw [h2] at K3 K4
  rw [h3] at K5 K6
  generalize decide (a = 3) = B at *
  unfold ntC at *
  generalize (⟨l.toArray⟩ : ByteArray) = S at *
  generalize (⟨d.toArray⟩ : ByteArray) = D at *
  generalize (⟨d2.toArray⟩ : ByteArray) = D2 at *
  generalize (c : Int) = ci at *
  generalize (s : Int) = si at *
  generalize (vc : Int) = vci at *
  generalize (vs : Int) = vsi at *
  generalize (c2 : Int) = c2i at *
  generalize (t2 : Int) = t2i at *
  generalize (c3 : Int) = c3i at *
  generalize (t3 : Int) = t3i at *
  clear hg h1 h2 h3 hc hs hd
  have HB0 : Hid (Below w.heap.size w ((w.alloc (.cells #[.int .u8 ci, .int .u8 si, .string D] 30)).alloc (.cells #[.int .i64 a, .int .u8 vci, .int .u8 vsi] 25))) := ((Below.refl _ _).alloc (Nat.le_refl _) _).alloc (by simp) _
  have HN0 : Hid (((w.alloc (.cells #[.int .u8 ci, .int .u8 si, .string D] 30)).alloc (.cells #[.int .i64 a, .int .u8 vci, .int .u8 vsi] 25)).heap[w.heap.size]? = some (.cells #[.int .u8 ci, .int .u8 si, .string D] 30 (0, 0))) := hp_up (hp_new rfl)
  have HV0 : Hid (((w.alloc (.cells #[.int .u8 ci, .int .u8 si, .string D] 30)).alloc (.cells #[.int .i64 a, .int .u8 vci, .int .u8 vsi] 25)).heap[w.heap.size + 1]? = some (.cells #[.int .i64 a, .int .u8 vci, .int .u8 vsi] 25 (0, 0))) := hp_new (by simp)
  go_enter Tryd.func4, Tryd.ntmps4
  go_wp2_with fail
  refine Calls.mono (K1.out _) ?_
  rintro e w1 ⟨rfl, hb1⟩
  have HB1 : Hid (Below w.heap.size w w1) := HB0.out.trans (hb1.mono HB0.out.size)
  have HN1 := blk hb1 HN0.out
  have HV1 : Hid (_ = _) := blk hb1 HV0.out
  have n0 := cl_row (i := 0) HN1 rfl
  have n1 := cl_row (i := 1) HN1 rfl
  have n2 := cl_row (i := 2) HN1 rfl
  clear hb1 K1 HB0 HN0 HV0 HN1
  go_wp2_with fail
  refine Calls.mono (K2.out _) ?_
  rintro e w2 ⟨rfl, hb2⟩
  have HB2 : Hid (Below w.heap.size w w2) := HB1.out.trans (hb2.mono HB1.out.size)
  have HV2 : Hid (_ = _) := blk hb2 HV1.out
  clear hb2 K2 HB1 HV1 n0 n1 n2
  go_wp2_with fail
  refine Calls.mono (K3.out _) ?_
  rintro e w3 ⟨rfl, hb3⟩
  have HB3 : Hid (Below w.heap.size w w3) := HB2.out.trans (hb3.mono HB2.out.size)
  have HV3 : Hid (_ = _) := blk hb3 HV2.out
  clear hb3 K3 HB2 HV2
  go_wp2_with fail
  refine Calls.mono (K4.out _) ?_
  rintro e w4 ⟨rfl, hb4⟩
  have HA3 : Hid (Below w.heap.size w (w3.alloc (.cells #[.int .u8 c2i, .int .u8 t2i, .string D2] 30))) := HB3.out.alloc HB3.out.size _
  have HB4 : Hid (Below w.heap.size w w4) := HA3.out.trans (hb4.mono HA3.out.size)
  have HV4 := blk hb4 (hp_up (o := .cells #[.int .u8 c2i, .int .u8 t2i, .string D2] 30) HV3.out)
  have HX4 : Hid (_ = _) := blk hb4 (hp_new (W := w3) (o := .cells #[.int .u8 c2i, .int .u8 t2i, .string D2] 30) rfl)
  have v0 := cl_row (i := 0) (hp_up (o := .cells #[.int .u8 c2i, .int .u8 t2i, .string D2] 30) HV4) rfl
  have v1 := cl_row (i := 1) (hp_up (o := .cells #[.int .u8 c2i, .int .u8 t2i, .string D2] 30) HV4) rfl
  have v2 := cl_row (i := 2) (hp_up (o := .cells #[.int .u8 c2i, .int .u8 t2i, .string D2] 30) HV4) rfl
  generalize w3.heap.size = x3 at *
  clear hb4 K4 HB3 HV3 HA3
  go_wp2_with fail
  refine Calls.mono (K5.out _) ?_
  rintro e w5 ⟨rfl, hb5⟩
  have HA4 : Hid (Below w.heap.size w (w4.alloc (.cells #[.int .u8 c2i, .int .u8 t2i, .string D2] 30))) := HB4.out.alloc HB4.out.size _
  have HB5 : Hid (Below w.heap.size w w5) := HA4.out.trans (hb5.mono HA4.out.size)
  have HV5 := blk hb5 (hp_up (o := .cells #[.int .u8 c2i, .int .u8 t2i, .string D2] 30) HV4)
  have HX5 : Hid (_ = _) := blk hb5 (hp_up (o := .cells #[.int .u8 c2i, .int .u8 t2i, .string D2] 30) HX4.out)
  have HY5 : Hid (_ = _) := blk hb5 (hp_new (W := w4) (o := .cells #[.int .u8 c2i, .int .u8 t2i, .string D2] 30) rfl)
  clear v0 v1 v2 HV4
  have v0 := cl_row (i := 0) (hp_up (o := .cells #[.int .u8 c3i, .int .u8 t3i, .string ⟨#[]⟩] 30) HV5) rfl
  have v1 := cl_row (i := 1) (hp_up (o := .cells #[.int .u8 c3i, .int .u8 t3i, .string ⟨#[]⟩] 30) HV5) rfl
  have v2 := cl_row (i := 2) (hp_up (o := .cells #[.int .u8 c3i, .int .u8 t3i, .string ⟨#[]⟩] 30) HV5) rfl
  generalize w4.heap.size = x4 at *
  clear hb5 K5 HB4 HA4 HX4 HV5
  go_wp2_with fail
  refine Calls.mono (K6.out _) ?_
  rintro e w6 ⟨rfl, hb6⟩
  have HA5 : Hid (Below w.heap.size w (w5.alloc (.cells #[.int .u8 c3i, .int .u8 t3i, .string ⟨#[]⟩] 30))) := HB5.out.alloc HB5.out.size _
  have HB6 : Hid (Below w.heap.size w w6) := HA5.out.trans (hb6.mono HA5.out.size)
  have HX6 : Hid (_ = _) := blk hb6 (hp_up (o := .cells #[.int .u8 c3i, .int .u8 t3i, .string ⟨#[]⟩] 30) HX5.out)
  have HY6 : Hid (_ = _) := blk hb6 (hp_up (o := .cells #[.int .u8 c3i, .int .u8 t3i, .string ⟨#[]⟩] 30) HY5.out)
  have HP6 : Hid (_ = _) := blk hb6 (hp_new (W := w5) (o := .cells #[.int .u8 c3i, .int .u8 t3i, .string ⟨#[]⟩] 30) rfl)
  clear v0 v1 v2
  generalize w5.heap.size = x5 at *
  clear hb6 K6 HB5 HA5 HX5 HY5
  have HX7 := hp_up (o := .cells #[.int .u8 c3i, .int .u8 t3i, .string ⟨#[]⟩] 30) HX6.out
  have HY7 := hp_up (o := .cells #[.int .u8 c3i, .int .u8 t3i, .string ⟨#[]⟩] 30) HY6.out
  have HP7 := hp_up (o := .cells #[.int .u8 c3i, .int .u8 t3i, .string ⟨#[]⟩] 30) HP6.out
  have a0 := cl_row (i := 0) HX7 rfl
  have a1 := cl_row (i := 1) HX7 rfl
  have a2 := cl_row (i := 2) HX7 rfl
  have b0 := cl_row (i := 0) HY7 rfl
  have b1 := cl_row (i := 1) HY7 rfl
  have b2 := cl_row (i := 2) HY7 rfl
  have p0 := cl_row (i := 0) HP7 rfl
  have p1 := cl_row (i := 1) HP7 rfl
  have p2 := cl_row (i := 2) HP7 rfl
  clear HX7 HY7 HP7 HX6 HY6 HP6
  have HA6 : Hid (Below w.heap.size w (w6.alloc (.cells #[.int .u8 c3i, .int .u8 t3i, .string ⟨#[]⟩] 30))) := HB6.out.alloc HB6.out.size _
  go_wp2_with fail
  refine Calls.mono (works_any _ (HG.out.below HA6.out)) ?_
  rintro e w7 ⟨rfl, hb7⟩
  have HB7 : Hid (Below w.heap.size w w7) := HA6.out.trans (hb7.mono HA6.out.size)
  clear hb7
  go_wp2
  go_ret
  exact ⟨rfl, HB7.out⟩
end Go.Proofs.YtkaghjohkhlimaaDoor
