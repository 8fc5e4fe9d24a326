/-
  MsgTold.
-/
import Derived.Test.YtkaghjohkhlimaaDoorMN
namespace Go.Proofs.YtkaghjohkhlimaaDoor
open Go.RowKit
set_option maxHeartbeats 3200000 in
theorem told_no (a : Int) (ha : a ≠ 3) (vc vs : Nat) (w : World) (hg : FamSizes w) :
    Calls Tryd.prog 8 #[.agg #[.int .i64 a, .int .u8 (vc : Int), .int .u8 (vs : Int)]] w fun e w' => e = .returned (.bool true) ∧ Below w.heap.size w w' := by
  have HB0 : Hid (Below w.heap.size w (w.alloc (.cells #[.int .i64 a, .int .u8 (vc : Int), .int .u8 (vs : Int)] 25))) := (Below.refl _ _).alloc (Nat.le_refl _) _
  have HV0 : Hid ((w.alloc (.cells #[.int .i64 a, .int .u8 (vc : Int), .int .u8 (vs : Int)] 25)).heap[w.heap.size]? = some (.cells #[.int .i64 a, .int .u8 (vc : Int), .int .u8 (vs : Int)] 25 (0, 0))) := hp_new rfl
  have KW : Hid (_ : Prop) := works_any _ (hg.below ((Below.refl _ _).alloc (Nat.le_refl _) (.cells #[.int .i64 a, .int .u8 (vc : Int), .int .u8 (vs : Int)] 25)))
  have K5 : Hid (∀ X, _) := fun X => told_any a vc vs X
  rw [show tdC a vc vs = #[.int .u8 0, .int .u8 0, .string ⟨#[]⟩] by unfold tdC; rw [if_neg ha]; rfl, show decide (a = 3) = false by simp [ha]] at K5
  have ga : (a == 3) = false := beq_eq_false_iff_ne.2 ha
  clear ha
  clear hg
  go_enter Tryd.func8, Tryd.ntmps8
  go_wp2_with fail
  refine Calls.mono KW.out ?_
  rintro e w1 ⟨rfl, hb1⟩
  have HB1 : Hid (Below w.heap.size w w1) := HB0.out.trans (hb1.mono HB0.out.size)
  have HV1 := blk hb1 HV0.out
  have v0 := cl_row (i := 0) HV1 rfl
  have v1 := cl_row (i := 1) HV1 rfl
  have v2 := cl_row (i := 2) HV1 rfl
  have HH1 : Hid (_ = _) := HV1
  clear hb1 KW HB0 HV0 HV1
  go_wp2_with fail
  refine Calls.mono (K5.out _) ?_
  rintro e w2 ⟨rfl, hb2⟩
  have HB2 : Hid (Below w.heap.size w w2) := HB1.out.trans (hb2.mono HB1.out.size)
  have HV2 := blk hb2 HH1.out
  clear v0 v1 v2 HH1 HB1 hb2 K5
  have HA2 : Hid (Below w.heap.size w (w2.alloc (.cells #[.int .u8 0, .int .u8 0, .string ⟨#[]⟩] 30))) := HB2.out.alloc HB2.out.size _
  have v0 := cl_row (i := 0) (hp_up (o := .cells #[.int .u8 0, .int .u8 0, .string ⟨#[]⟩] 30) HV2) rfl
  have v1 := cl_row (i := 1) (hp_up (o := .cells #[.int .u8 0, .int .u8 0, .string ⟨#[]⟩] 30) HV2) rfl
  have v2 := cl_row (i := 2) (hp_up (o := .cells #[.int .u8 0, .int .u8 0, .string ⟨#[]⟩] 30) HV2) rfl
  have HH2 : Hid (_ = _) := HV2
  clear HV2
  go_wp2
  go_ret
  exact ⟨rfl, HA2.out⟩
set_option maxHeartbeats 3200000 in
theorem told_0 (vs : Nat) (hs : vs < 256) (w : World) (hg : FamSizes w) :
    Calls Tryd.prog 8 #[.agg #[.int .i64 3, .int .u8 (0 : Int), .int .u8 (vs : Int)]] w fun e w' => e = .returned (.bool true) ∧ Below w.heap.size w w' := by
  have HB0 : Hid (Below w.heap.size w (w.alloc (.cells #[.int .i64 3, .int .u8 (0 : Int), .int .u8 (vs : Int)] 25))) := (Below.refl _ _).alloc (Nat.le_refl _) _
  have HV0 : Hid ((w.alloc (.cells #[.int .i64 3, .int .u8 (0 : Int), .int .u8 (vs : Int)] 25)).heap[w.heap.size]? = some (.cells #[.int .i64 3, .int .u8 (0 : Int), .int .u8 (vs : Int)] 25 (0, 0))) := hp_new rfl
  have KW : Hid (_ : Prop) := works_any _ (hg.below ((Below.refl _ _).alloc (Nat.le_refl _) (.cells #[.int .i64 3, .int .u8 (0 : Int), .int .u8 (vs : Int)] 25)))
  have K5 : Hid (∀ X, _) := fun X => told_any 3 0 vs X
  rw [show tdC 3 0 vs = #[.int .u8 0, .int .u8 (vs : Int), .string ⟨#[]⟩] from rfl, show decide ((3 : Int) = 3) = true from rfl] at K5
  have K1 : Hid (∀ X, _) := fun X => note_any 0 vs [] (by omega) hs (by simp) X
  rw [show ntA 0 vs [] = .tuple #[.string ⟨#[]⟩, .int .i64 2] from rfl, show ntC 0 vs [] = #[.int .u8 0, .int .u8 (vs : Int), .string ⟨#[]⟩] from rfl] at K1
  clear hs
  clear hg
  go_enter Tryd.func8, Tryd.ntmps8
  go_wp2_with fail
  refine Calls.mono KW.out ?_
  rintro e w1 ⟨rfl, hb1⟩
  have HB1 : Hid (Below w.heap.size w w1) := HB0.out.trans (hb1.mono HB0.out.size)
  have HV1 := blk hb1 HV0.out
  have v0 := cl_row (i := 0) HV1 rfl
  have v1 := cl_row (i := 1) HV1 rfl
  have v2 := cl_row (i := 2) HV1 rfl
  have HH1 : Hid (_ = _) := HV1
  clear hb1 KW HB0 HV0 HV1
  go_wp2_with fail
  refine Calls.mono (K5.out _) ?_
  rintro e w2 ⟨rfl, hb2⟩
  have HB2 : Hid (Below w.heap.size w w2) := HB1.out.trans (hb2.mono HB1.out.size)
  have HV2 := blk hb2 HH1.out
  clear v0 v1 v2 HH1 HB1 hb2 K5
  have HA2 : Hid (Below w.heap.size w (w2.alloc (.cells #[.int .u8 0, .int .u8 (vs : Int), .string ⟨#[]⟩] 30))) := HB2.out.alloc HB2.out.size _
  have v0 := cl_row (i := 0) (hp_up (o := .cells #[.int .u8 0, .int .u8 (vs : Int), .string ⟨#[]⟩] 30) HV2) rfl
  have v1 := cl_row (i := 1) (hp_up (o := .cells #[.int .u8 0, .int .u8 (vs : Int), .string ⟨#[]⟩] 30) HV2) rfl
  have v2 := cl_row (i := 2) (hp_up (o := .cells #[.int .u8 0, .int .u8 (vs : Int), .string ⟨#[]⟩] 30) HV2) rfl
  have HH2 : Hid (_ = _) := HV2
  clear HV2
  go_wp2_with fail
  refine Calls.mono (K1.out _) ?_
  rintro e w3 ⟨rfl, hb3⟩
  have HB3 : Hid (Below w.heap.size w w3) := HA2.out.trans (hb3.mono HA2.out.size)
  have HV3 := blk hb3 (hp_up (o := .cells #[.int .u8 0, .int .u8 (vs : Int), .string ⟨#[]⟩] 30) HH2.out)
  have HN3 := blk hb3 (hp_new (W := w2) (o := .cells #[.int .u8 0, .int .u8 (vs : Int), .string ⟨#[]⟩] 30) rfl)
  clear v0 v1 v2 HH2 hb3 HA2 HB2
  have v0 := cl_row (i := 0) HV3 rfl
  have v1 := cl_row (i := 1) HV3 rfl
  have v2 := cl_row (i := 2) HV3 rfl
  have n0 := cl_row (i := 0) HN3 rfl
  have n1 := cl_row (i := 1) HN3 rfl
  have n2 := cl_row (i := 2) HN3 rfl
  clear HV3 HN3 K1
  go_wp2
  go_ret
  exact ⟨rfl, HB3.out⟩
set_option maxHeartbeats 3200000 in
theorem told_1 (vc vs : Nat) (hc : vc < 256) (hz : vc ≠ 0) (hs : vs < 256) (w : World) (hg : FamSizes w) :
    Calls Tryd.prog 8 #[.agg #[.int .i64 3, .int .u8 (vc : Int), .int .u8 (vs : Int)]] w fun e w' => e = .returned (.bool true) ∧ Below w.heap.size w w' := by
  have HB0 : Hid (Below w.heap.size w (w.alloc (.cells #[.int .i64 3, .int .u8 (vc : Int), .int .u8 (vs : Int)] 25))) := (Below.refl _ _).alloc (Nat.le_refl _) _
  have HV0 : Hid ((w.alloc (.cells #[.int .i64 3, .int .u8 (vc : Int), .int .u8 (vs : Int)] 25)).heap[w.heap.size]? = some (.cells #[.int .i64 3, .int .u8 (vc : Int), .int .u8 (vs : Int)] 25 (0, 0))) := hp_new rfl
  have KW : Hid (_ : Prop) := works_any _ (hg.below ((Below.refl _ _).alloc (Nat.le_refl _) (.cells #[.int .i64 3, .int .u8 (vc : Int), .int .u8 (vs : Int)] 25)))
  have K5 : Hid (∀ X, _) := fun X => told_any 3 vc vs X
  rw [show tdC 3 vc vs = #[.int .u8 (vc : Int), .int .u8 (vs : Int), .string ⟨#[]⟩] from rfl, show decide ((3 : Int) = 3) = true from rfl] at K5
  have K1 : Hid (∀ X, _) := fun X => note_any vc vs [] hc hs (by simp) X
  rw [show ntA vc vs [] = .tuple #[.string ⟨(ntL vc vs []).toArray⟩, .int .i64 0] by unfold ntA; rw [if_neg hz]; rfl, show ntC vc vs [] = #[.int .u8 (vc : Int), .int .u8 (vs : Int), .string ⟨#[]⟩] from rfl] at K1
  have hsz : (⟨(ntL vc vs []).toArray⟩ : ByteArray).size = 2 := by rw [list_size]; simp [ntL, laid_length]
  have g1 : ((vc : Int) == 0) = false := beq_eq_false_iff_ne.2 (by omega)
  have g2 : (0 : Int) < (vc : Int) := by omega
  generalize (⟨(ntL vc vs []).toArray⟩ : ByteArray) = S at *
  clear hs hc hz
  clear hg
  go_enter Tryd.func8, Tryd.ntmps8
  go_wp2_with fail
  refine Calls.mono KW.out ?_
  rintro e w1 ⟨rfl, hb1⟩
  have HB1 : Hid (Below w.heap.size w w1) := HB0.out.trans (hb1.mono HB0.out.size)
  have HV1 := blk hb1 HV0.out
  have v0 := cl_row (i := 0) HV1 rfl
  have v1 := cl_row (i := 1) HV1 rfl
  have v2 := cl_row (i := 2) HV1 rfl
  have HH1 : Hid (_ = _) := HV1
  clear hb1 KW HB0 HV0 HV1
  go_wp2_with fail
  refine Calls.mono (K5.out _) ?_
  rintro e w2 ⟨rfl, hb2⟩
  have HB2 : Hid (Below w.heap.size w w2) := HB1.out.trans (hb2.mono HB1.out.size)
  have HV2 := blk hb2 HH1.out
  clear v0 v1 v2 HH1 HB1 hb2 K5
  have HA2 : Hid (Below w.heap.size w (w2.alloc (.cells #[.int .u8 (vc : Int), .int .u8 (vs : Int), .string ⟨#[]⟩] 30))) := HB2.out.alloc HB2.out.size _
  have v0 := cl_row (i := 0) (hp_up (o := .cells #[.int .u8 (vc : Int), .int .u8 (vs : Int), .string ⟨#[]⟩] 30) HV2) rfl
  have v1 := cl_row (i := 1) (hp_up (o := .cells #[.int .u8 (vc : Int), .int .u8 (vs : Int), .string ⟨#[]⟩] 30) HV2) rfl
  have v2 := cl_row (i := 2) (hp_up (o := .cells #[.int .u8 (vc : Int), .int .u8 (vs : Int), .string ⟨#[]⟩] 30) HV2) rfl
  have HH2 : Hid (_ = _) := HV2
  clear HV2
  go_wp2_with fail
  refine Calls.mono (K1.out _) ?_
  rintro e w3 ⟨rfl, hb3⟩
  have HB3 : Hid (Below w.heap.size w w3) := HA2.out.trans (hb3.mono HA2.out.size)
  have HV3 := blk hb3 (hp_up (o := .cells #[.int .u8 (vc : Int), .int .u8 (vs : Int), .string ⟨#[]⟩] 30) HH2.out)
  have HN3 := blk hb3 (hp_new (W := w2) (o := .cells #[.int .u8 (vc : Int), .int .u8 (vs : Int), .string ⟨#[]⟩] 30) rfl)
  clear v0 v1 v2 HH2 hb3 HA2 HB2
  have v0 := cl_row (i := 0) HV3 rfl
  have v1 := cl_row (i := 1) HV3 rfl
  have v2 := cl_row (i := 2) HV3 rfl
  have n0 := cl_row (i := 0) HN3 rfl
  have n1 := cl_row (i := 1) HN3 rfl
  have n2 := cl_row (i := 2) HN3 rfl
  clear HV3 HN3 K1
  go_wp2
  go_ret
  exact ⟨rfl, HB3.out⟩
theorem told_walk (a : Int) (vc vs : Nat) (hc : vc < 256) (hs : vs < 256) (w : World) (hg : FamSizes w) :
    Calls Tryd.prog 8 #[.agg #[.int .i64 a, .int .u8 (vc : Int), .int .u8 (vs : Int)]] w fun e w' => e = .returned (.bool true) ∧ Below w.heap.size w w' := by
  by_cases ha : a = 3
  · subst ha
    by_cases hz : vc = 0
    · subst hz; exact told_0 vs hs w hg
    · exact told_1 vc vs hc hz hs w hg
  · exact told_no a ha vc vs w hg
end Go.Proofs.YtkaghjohkhlimaaDoor
