/-
  The closing words of every statement: works answers true in any world.
-/
import Derived.Test.YtbkpadjnnlcknaaA7
import Derived.Test.YtbkpadjnnlcknaaA4
namespace Go.Proofs.Ytbkpadjnnlcknaa
open Go.RowKit
set_option maxRecDepth 100000 in
set_option maxHeartbeats 400000 in
theorem works_any (w : World) : Calls Try.prog 16 #[] w fun e w' => e = .returned (.bool true) ∧ Below w.heap.size w w' := by
  have e1 : (⟨#[97]⟩ : ByteArray) ++ ⟨(laid 258 2).toArray⟩ = ⟨#[97, 1, 2]⟩ := by decide +kernel
  have e2 : (⟨#[97, 1, 2]⟩ : ByteArray).extract 0 1 = ⟨#[97]⟩ := by decide +kernel
  have e3 : (⟨#[97, 1, 2]⟩ : ByteArray).extract 1 (⟨#[97, 1, 2]⟩ : ByteArray).size = ⟨#[1, 2]⟩ := by decide +kernel
  have e4 : worth ((⟨#[1, 2]⟩ : ByteArray).data.toList.take 2) = 258 := by decide +kernel
  have e5 : (⟨#[1, 2]⟩ : ByteArray).extract 2 (⟨#[1, 2]⟩ : ByteArray).size = ⟨#[]⟩ := by decide +kernel
  have E1 : Hid (_ = _) := e1
  have E2 : Hid (_ = _) := e2
  have E3 : Hid (_ = _) := e3
  have E4 : Hid (_ = _) := e4
  have E5 : Hid (_ = _) := e5
  clear e1 e2 e3 e4 e5
  go_enter Try.func16, Try.ntmps16
  go_wp2_with fail
  refine (put_yes ⟨#[97]⟩ 258 2 w (by decide) (by decide) (by decide) (by decide)).mono ?_
  rintro e w1 ⟨rfl, hb1⟩
  rw [E1.out]
  go_wp2_with fail
  refine (new_any _ w1).mono ?_
  rintro e w2 ⟨rfl, hr2, hb2, hs2⟩
  go_wp2_with fail
  refine (take_yes _ _ 1 w2 hr2 (by decide)).mono ?_
  rintro e w3 ⟨rfl, rfl⟩
  rw [E2.out, E3.out]
  have hr3 := hr2.set ⟨#[1, 2]⟩
  have hb3 : Below w.heap.size w (w2.setCell ⟨w1.heap.size, 1, none⟩ (.string ⟨#[1, 2]⟩)) := (hb1.trans (hb2.mono hb1.size)).setCell hb1.size _
  generalize w2.setCell ⟨w1.heap.size, 1, none⟩ (.string ⟨#[1, 2]⟩) = w3 at *
  clear hr2 hs2
  go_wp2_with fail
  refine (num_yes _ _ 2 w3 hr3 (by decide) (by decide) (by decide)).mono ?_
  rintro e w4 ⟨rfl, hr4, hb4⟩
  rw [E4.out]
  rw [E5.out] at hr4
  go_wp2_with fail
  refine (left_any _ _ w4 hr4).mono ?_
  rintro e w5 ⟨rfl, rfl⟩
  go_wp2
  go_ret
  exact ⟨rfl, hb3.trans (hb4.below hb1.size hb3.size)⟩
end Go.Proofs.Ytbkpadjnnlcknaa
