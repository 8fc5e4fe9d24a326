/-
  WireKnown answers true, in any world, and leaves what was there.
-/
import Derived.Test.YtbkpadjnnlcknaaE1
import Derived.Test.YtbkpadjnnlcknaaH6
namespace Go.Proofs.Ytbkpadjnnlcknaa
open Go.RowKit
theorem u1 : unOut ⟨#[54, 49, 55, 97]⟩ = .tuple #[.string ⟨#[97, 122]⟩, .int .i64 0] := by kernel_rfl
theorem u2 : unOut ⟨#[54]⟩ = .tuple #[.string ⟨#[]⟩, .int .i64 4] := by kernel_rfl
theorem u3 : unOut ⟨#[54, 65]⟩ = .tuple #[.string ⟨#[]⟩, .int .i64 4] := by kernel_rfl
theorem x1 : (⟨#[]⟩ : ByteArray) ++ ⟨(laid 18446744073709551615 8).toArray⟩ = ⟨#[255, 255, 255, 255, 255, 255, 255, 255]⟩ := by decide +kernel
theorem x2 : (⟨#[1, 2, 3]⟩ : ByteArray).extract 0 1 = ⟨#[1]⟩ := by decide +kernel
theorem x3 : (⟨#[1, 2, 3]⟩ : ByteArray).extract 1 (⟨#[1, 2, 3]⟩ : ByteArray).size = ⟨#[2, 3]⟩ := by decide +kernel
theorem x4 : worth ((⟨#[2, 3]⟩ : ByteArray).data.toList.take 2) = 515 := by decide +kernel
theorem x5 : (⟨#[2, 3]⟩ : ByteArray).extract 2 (⟨#[2, 3]⟩ : ByteArray).size = ⟨#[]⟩ := by decide +kernel
theorem x6 : (⟨#[]⟩ : ByteArray).extract 0 0 = ⟨#[]⟩ := by decide +kernel
theorem x7 : (⟨#[]⟩ : ByteArray).extract 0 (⟨#[]⟩ : ByteArray).size = ⟨#[]⟩ := by decide +kernel
theorem x8 : hexL [97, 122] = [54, 49, 55, 97] := by decide +kernel
set_option maxRecDepth 100000 in
set_option maxHeartbeats 1600000 in
theorem known_walk (w : World) : Calls Try.prog 8 #[] w fun e w' => e = .returned (.bool true) ∧ Below w.heap.size w w' := by
  go_enter Try.func8, Try.ntmps8
  go_wp2_with fail
  refine (new_any _ w).mono ?_
  rintro e w1 ⟨rfl, hr1, hb1, _⟩
  have hp : w.heap.size ≤ w.heap.size := Nat.le_refl _
  generalize hP : w.heap.size = p at hr1 hp ⊢
  have hpw : w.heap.size ≤ p := by omega
  clear hP hp
  go_wp2_with fail
  refine (take_no p _ (-1) w1 hr1 (by decide)).mono ?_
  rintro e w1 ⟨rfl, rfl⟩
  go_wp2_with fail
  refine (num_bad p 9 _ (by decide)).mono ?_
  rintro e w1 ⟨rfl, rfl⟩
  go_wp2_with fail
  refine (num_bad p 0 _ (by decide)).mono ?_
  rintro e w1 ⟨rfl, rfl⟩
  go_wp2_with fail
  refine (num_no p _ 4 w1 hr1 (by decide) (by decide) (by decide)).mono ?_
  rintro e w2 ⟨rfl, hr2, hbe⟩
  have hb2 : Below w.heap.size w w2 := hb1.trans (hbe.below hpw hb1.size)
  clear hbe hb1 hr1
  go_wp2_with fail
  refine (rest_any p _ w2 hr2).mono ?_
  rintro e w3 ⟨rfl, rfl⟩
  have hr3 := hr2.set ByteArray.empty
  have hb3 := hb2.setCell (p := ⟨p, 1, none⟩) hpw (.string ByteArray.empty)
  generalize w2.setCell ⟨p, 1, none⟩ (.string ByteArray.empty) = w3 at *
  clear hr2 hb2
  go_wp2_with fail
  refine (rest_any p _ w3 hr3).mono ?_
  rintro e w4 ⟨rfl, rfl⟩
  have hb4 := hb3.setCell (p := ⟨p, 1, none⟩) hpw (.string ByteArray.empty)
  generalize w3.setCell ⟨p, 1, none⟩ (.string ByteArray.empty) = w4 at *
  clear hr3 hb3
  go_wp2_with fail
  refine (new_any _ w4).mono ?_
  rintro e w5 ⟨rfl, hr5, hb5, _⟩
  have hqw := hb4.size
  have hb6 := hb4.trans (hb5.mono hqw)
  generalize w4.heap.size = q at *
  clear hb5 hb4
  go_wp2_with fail
  refine (take_yes q _ 1 w5 hr5 (by decide)).mono ?_
  rintro e w6 ⟨rfl, rfl⟩
  rw [x2, x3]
  have hr6 := hr5.set ⟨#[2, 3]⟩
  have hb7 := hb6.setCell (p := ⟨q, 1, none⟩) hqw (.string ⟨#[2, 3]⟩)
  generalize w5.setCell ⟨q, 1, none⟩ (.string ⟨#[2, 3]⟩) = w6 at *
  clear hr5 hb6
  go_wp2_with fail
  refine (num_yes q _ 2 w6 hr6 (by decide) (by decide) (by decide)).mono ?_
  rintro e w7 ⟨rfl, hr7, hbe⟩
  rw [x4]
  rw [x5] at hr7
  have hb8 : Below w.heap.size w w7 := hb7.trans (hbe.below hqw hb7.size)
  clear hbe hr6 hb7
  go_wp2_with fail
  refine (take_yes q _ 0 w7 hr7 (by decide)).mono ?_
  rintro e w8 ⟨rfl, rfl⟩
  rw [x6, x7]
  have hr8 := hr7.set ⟨#[]⟩
  have hb9 := hb8.setCell (p := ⟨q, 1, none⟩) hqw (.string ⟨#[]⟩)
  generalize w7.setCell ⟨q, 1, none⟩ (.string ⟨#[]⟩) = w8 at *
  clear hr7 hb8
  go_wp2_with fail
  refine (take_no q _ 1 w8 hr8 (by decide)).mono ?_
  rintro e w9 ⟨rfl, rfl⟩
  go_wp2_with fail
  refine (left_any q _ _ hr8).mono ?_
  rintro e w10 ⟨rfl, rfl⟩
  clear hr8
  go_wp2_with fail
  refine (put_long ⟨#[]⟩ 258 1 _ (by decide) (by decide) (by decide)).mono ?_
  rintro e w11 ⟨rfl, c1⟩
  have hc1 := hb9.trans (c1.mono hb9.size)
  clear c1 hb9
  go_wp2_with fail
  refine (put_arg ⟨#[]⟩ 0 0 _ (by decide)).mono ?_
  rintro e w12 ⟨rfl, c1⟩
  have hc2 := hc1.trans (c1.mono hc1.size)
  clear c1 hc1
  go_wp2_with fail
  refine (put_yes ⟨#[]⟩ 18446744073709551615 8 _ (by decide) (by decide) (by decide) (by decide)).mono ?_
  rintro e w13 ⟨rfl, c1⟩
  rw [x1]
  have hc3 := hc2.trans (c1.mono hc2.size)
  clear c1 hc2
  go_wp2_with fail
  refine (put_arg ⟨#[]⟩ 0 9 _ (by decide)).mono ?_
  rintro e w14 ⟨rfl, c1⟩
  have hc4 := hc3.trans (c1.mono hc3.size)
  clear c1 hc3
  go_wp2_with fail
  refine (unhex_any ⟨#[54, 49, 55, 97]⟩ _ (by decide)).mono ?_
  rintro e w15 ⟨rfl, c1⟩
  rw [u1]
  have hc5 := hc4.trans (c1.mono hc4.size)
  clear c1 hc4
  go_wp2_with fail
  refine (unhex_any ⟨#[54]⟩ _ (by decide)).mono ?_
  rintro e w16 ⟨rfl, c1⟩
  rw [u2]
  have hc6 := hc5.trans (c1.mono hc5.size)
  clear c1 hc5
  go_wp2_with fail
  refine (unhex_any ⟨#[54, 65]⟩ _ (by decide)).mono ?_
  rintro e w17 ⟨rfl, c1⟩
  rw [u3]
  have hc7 := hc6.trans (c1.mono hc6.size)
  clear c1 hc6
  go_wp2_with fail
  refine (take_nil 0 _).mono ?_
  rintro e w18 ⟨rfl, rfl⟩
  have hc8 : Below w.heap.size w (w17.alloc (.cells #[.bool false, .string ⟨#[]⟩] 55)) := hc7.alloc hc7.size _
  have y0 : (w17.alloc (.cells #[.bool false, .string ⟨#[]⟩] 55)).cell? ⟨w17.heap.size, 0, none⟩ = some (.bool false) := by simp
  have y1 : (w17.alloc (.cells #[.bool false, .string ⟨#[]⟩] 55)).cell? ⟨w17.heap.size, 1, none⟩ = some (.string ⟨#[]⟩) := by simp
  have y2 : w17.heap.size < (w17.alloc (.cells #[.bool false, .string ⟨#[]⟩] 55)).heap.size := by simp
  have Y0 : Hid (_ = _) := y0
  have Y1 : Hid (_ = _) := y1
  clear y0 y1
  go_wp2_with fail
  generalize w17.alloc (.cells #[.bool false, .string ⟨#[]⟩] 55) = w18 at *
  generalize w17.heap.size = r at *
  clear hc7
  refine (num_un r 1 w18 y2 Y0.out (by decide) (by decide)).mono ?_
  rintro e w19 ⟨rfl, c1⟩
  have hc9 := hc8.trans (c1.mono hc8.size)
  have Y2 : Hid (w19.cell? ⟨r, 1, none⟩ = some (.string ⟨#[]⟩)) := (c1.cell (p := ⟨r, 1, none⟩) y2).trans Y1.out
  have y3 := Nat.lt_of_lt_of_le y2 c1.size
  clear c1 Y0 Y1 y2 hc8
  go_wp2_with fail
  refine (works_any _).mono ?_
  rintro e w20 ⟨rfl, c1⟩
  have hc10 := hc9.trans (c1.mono hc9.size)
  have Y3 : Hid (w20.cell? ⟨r, 1, none⟩ = some (.string ⟨#[]⟩)) := (c1.cell (p := ⟨r, 1, none⟩) y3).trans Y2.out
  have y4 := Nat.lt_of_lt_of_le y3 c1.size
  clear c1 Y2 y3 hc9
  go_wp2_with fail
  refine (hex_any ⟨#[97, 122]⟩ _ (by decide)).mono ?_
  rintro e w21 ⟨rfl, c1⟩
  rw [show hexL (⟨#[97, 122]⟩ : ByteArray).data.toList = [54, 49, 55, 97] from x8]
  have hc11 := hc10.trans (c1.mono hc10.size)
  have Y4 : Hid (w21.cell? ⟨r, 1, none⟩ = some (.string ⟨#[]⟩)) := (c1.cell (p := ⟨r, 1, none⟩) y4).trans Y3.out
  clear c1 Y3 y4 hc10
  go_wp2_with fail
  refine (left_nil _).mono ?_
  rintro e w22 ⟨rfl, rfl⟩
  go_wp2_with fail
  refine (rest_nil _).mono ?_
  rintro e w22 ⟨rfl, rfl⟩
  go_wp2_with fail
  refine (left_un r _ _ Y4.out).mono ?_
  rintro e w22 ⟨rfl, rfl⟩
  go_wp2
  go_ret
  exact ⟨rfl, hc11⟩
end Go.Proofs.Ytbkpadjnnlcknaa
