/-
  MsgSizes and MsgRefreshes.
-/
import Derived.Test.YtkaghjohkhlimaaDoorMK
import Derived.Test.YtkaghjohkhlimaaDoorML
namespace Go.Proofs.YtkaghjohkhlimaaDoor
open Go.RowKit
theorem vdC_3 (s : Int) : ∃ a b c : Int, vdC s = #[.int .i64 a, .int .u8 b, .int .u8 c] := by
  unfold vdC
  split
  · exact ⟨_, _, _, rfl⟩
  · exact ⟨_, _, _, rfl⟩
set_option maxHeartbeats 1600000 in
theorem sizes_walk (k b : Int) (w : World) (hg : FamSizes w) : Calls Tryd.prog 3 #[.int .i64 k, .int .i64 b] w fun e w' => e = .returned (.bool true) ∧ Below w.heap.size w w' := by
  have K1 : Hid (_ : Prop) := least_any k w
  have K2 : Hid (∀ X, _) := fun X => rleast_any k X
  have K3 : Hid (∀ X, _) := fun X => msize_any k b X
  have K4 : Hid (∀ X, _) := fun X => rsize_any k b X
  have HG : Hid (FamSizes w) := hg
  obtain ⟨a, b1, c, hv⟩ := vdC_3 (szW k b)
  unfold vdV at K3 K4
  rw [hv] at K3 K4
  generalize lN k = L at *
  generalize isK k = I at *
  clear hg hv
  go_enter Tryd.func3, Tryd.ntmps3
  go_wp2_with fail
  refine Calls.mono K1.out ?_
  rintro e w1 ⟨rfl, hb1⟩
  have HB1 : Hid (Below w.heap.size w w1) := hb1
  clear hb1 K1
  go_wp2_with fail
  refine Calls.mono (K2.out w1) ?_
  rintro e w2 ⟨rfl, hw2⟩
  obtain rfl := hw2
  go_wp2_with fail
  refine Calls.mono (K3.out _) ?_
  rintro e w3 ⟨rfl, hb3⟩
  have HB3 : Hid (Below w.heap.size w w3) := HB1.out.trans (hb3.mono HB1.out.size)
  clear hb3 K3
  go_wp2_with fail
  refine Calls.mono (K4.out _) ?_
  rintro e w4 ⟨rfl, hb4⟩
  have HB4 : Hid (Below w.heap.size w w4) := HB3.out.trans (hb4.mono HB3.out.size)
  clear hb4 K4
  go_wp2_with fail
  refine Calls.mono (works_any _ (HG.out.below HB4.out)) ?_
  rintro e w5 ⟨rfl, hb5⟩
  have HB5 : Hid (Below w.heap.size w w5) := HB4.out.trans (hb5.mono HB4.out.size)
  clear hb5
  go_wp2
  go_ret
  exact ⟨rfl, HB5.out⟩
theorem rfA_form (f : Int) : ∃ (s : ByteArray) (e : Int), rfA f = .tuple #[.string s, .int .i64 e] := by
  unfold rfA; split <;> exact ⟨_, _, rfl⟩
theorem rrA_form (l : List UInt8) : ∃ (f e : Int), rrA l = .tuple #[.int .i64 f, .int .i64 e] := by
  unfold rrA; split
  · split <;> exact ⟨_, _, rfl⟩
  · exact ⟨_, _, rfl⟩
set_option maxHeartbeats 1600000 in
theorem refreshes_walk (f : Int) (l : List UInt8) (w : World) (hg : FamSizes w) : Calls Tryd.prog 5 #[.int .i64 f, .string ⟨l.toArray⟩] w fun e w' => e = .returned (.bool true) ∧ Below w.heap.size w w' := by
  have K1 : Hid (_ : Prop) := refresh_any f w hg
  have K2 : Hid (∀ X, _) := fun X => rrefresh_any f X
  have K3 : Hid (∀ X, FamSizes X → _) := fun X h => rr_any l X h
  have K4 : Hid (∀ X, _) := fun X => rrr_any l X
  have HG : Hid (FamSizes w) := hg
  obtain ⟨s1, e1, h1⟩ := rfA_form f
  obtain ⟨f2, e2, h2⟩ := rrA_form l
  rw [h1] at K1 K2
  rw [h2] at K3 K4
  generalize (⟨l.toArray⟩ : ByteArray) = S at *
  clear hg h1 h2
  go_enter Tryd.func5, Tryd.ntmps5
  go_wp2_with fail
  refine Calls.mono K1.out ?_
  rintro e w1 ⟨rfl, hb1⟩
  have HB1 : Hid (Below w.heap.size w w1) := hb1
  clear hb1 K1
  go_wp2_with fail
  refine Calls.mono (K2.out w1) ?_
  rintro e w2 ⟨rfl, hb2⟩
  have HB2 : Hid (Below w.heap.size w w2) := HB1.out.trans (hb2.mono HB1.out.size)
  clear hb2 K2
  go_wp2_with fail
  refine Calls.mono (K3.out _ (HG.out.below HB2.out)) ?_
  rintro e w3 ⟨rfl, hb3⟩
  have HB3 : Hid (Below w.heap.size w w3) := HB2.out.trans (hb3.mono HB2.out.size)
  clear hb3 K3
  go_wp2_with fail
  refine Calls.mono (K4.out _) ?_
  rintro e w4 ⟨rfl, hb4⟩
  have HB4 : Hid (Below w.heap.size w w4) := HB3.out.trans (hb4.mono HB3.out.size)
  clear hb4 K4
  go_wp2_with fail
  refine Calls.mono (works_any _ (HG.out.below HB4.out)) ?_
  rintro e w5 ⟨rfl, hb5⟩
  have HB5 : Hid (Below w.heap.size w w5) := HB4.out.trans (hb5.mono HB4.out.size)
  clear hb5
  go_wp2
  go_ret
  exact ⟨rfl, HB5.out⟩
end Go.Proofs.YtkaghjohkhlimaaDoor
