/-
  works.
-/
import Derived.Test.YtkaghjohkhlimabDoorMD
import Derived.Test.YtkaghjohkhlimabDoorMJ
namespace Go.Proofs.YtkaghjohkhlimabDoor
open Go.RowKit
theorem fd2 (W : World) : (Instr.field 26 (.agg #[.int .i64 3, .int .u8 1, .int .u8 2]) 2).run Tryd.prog W = .ok (.int .u8 2) W := by kernel_rfl
set_option maxHeartbeats 1600000 in
theorem works_any (w : World) (hg : FamSizes w) : Calls Tryd.prog 10 #[] w fun e w' => e = .returned (.bool true) ∧ Below w.heap.size w w' := by
  have K1 : Hid (_ : Prop) := note_any 6 2 [120] (by omega) (by omega) (by decide) w
  rw [show ntA 6 2 [120] = .tuple #[.string ⟨#[6, 2, 120]⟩, .int .i64 0] from rfl] at K1
  have K2 : Hid (∀ X, _) := fun X => read_any [6, 2, 120] X
  rw [show rdA [6, 2, 120] = .tuple #[.agg #[.int .u8 6, .int .u8 2, .string ⟨#[120]⟩], .int .i64 0] from rfl] at K2
  have K3 : Hid (∀ X, FamSizes X → _) := fun X h => rr_any [0, 2, 0, 1] X h
  rw [show rrA [0, 2, 0, 1] = .tuple #[.int .i64 2, .int .i64 0] from by kernel_rfl] at K3
  have K4 : Hid (∀ X, _) := fun X => msize_any 4 1 X
  rw [show vdV (szW 4 1) = .agg #[.int .i64 3, .int .u8 1, .int .u8 2] from rfl] at K4
  have HG : Hid (FamSizes w) := hg
  clear hg
  unfold ntC at K1
  go_enter Tryd.func10, Tryd.ntmps10
  go_wp2_with fail
  refine Calls.mono K1.out ?_
  rintro e w1 ⟨rfl, hb1⟩
  have HB1 : Hid (Below w.heap.size w w1) := hb1
  clear hb1 K1
  go_wp2_with fail
  refine Calls.mono (K2.out w1) ?_
  rintro e w2 ⟨rfl, hb2⟩
  have HB2 : Hid (Below w.heap.size w w2) := HB1.out.trans (hb2.mono HB1.out.size)
  clear hb2 K2
  have HG2 : Hid (FamSizes w2) := HG.out.below HB2.out
  go_wp2_with fail
  refine Calls.mono (K3.out _ (HG2.out.below ((Below.refl _ _).alloc (Nat.le_refl _) _))) ?_
  rintro e w3 ⟨rfl, hb3⟩
  have hs2 : (w2.alloc (.cells #[.int .u8 6, .int .u8 2, .string ⟨#[120]⟩] 32)).heap.size = w2.heap.size + 1 := by simp
  have hr3 : w3.heap[w2.heap.size]? = some (.cells #[.int .u8 6, .int .u8 2, .string ⟨#[120]⟩] 32 (0, 0)) := (hb3.block _ (by rw [hs2]; omega)).trans (hp_new rfl)
  have c0 := cl_row (i := 0) hr3 rfl
  have c1 := cl_row (i := 1) hr3 rfl
  have c2 := cl_row (i := 2) hr3 rfl
  have HB3 : Hid (Below w.heap.size w w3) := (HB2.out.alloc HB2.out.size _).trans (hb3.mono (by rw [hs2]; have := HB2.out.size; omega))
  clear hb3 K3 hs2 hr3 HG2
  go_wp2_with fail
  refine Calls.mono (K4.out _) ?_
  rintro e w4 ⟨rfl, hb4⟩
  have HB4 : Hid (Below w.heap.size w w4) := HB3.out.trans (hb4.mono HB3.out.size)
  clear hb4 K4
  have hfd := fd2
  go_wp2
  go_ret
  exact ⟨rfl, HB4.out⟩
end Go.Proofs.YtkaghjohkhlimabDoor
