/-
  Contracts of readNumber at numbers below 100 that are written in just their form; of FormatUint below 100.
-/
import Derived.Test.YtjchobcmbkiilaaGreatDoorShelf
import Derived.Test.YtjchobcmbkiilaaGreatDoorpB8
import Derived.Test.YtjchobcmbkiilaaGreatDoorpB10
namespace Go.Proofs.YtjchobcmbkiilaaGreatDoor.Pr
open Go.RowKit

theorem fu57_small (u : Nat) (h : u < 100) (w : World) :
    Calls Tryz.prog 103 #[.int .u64 u, .int .i64 10] w fun e w' => e = .returned (.string ⟨(Lib.decDigits u).toArray⟩) ∧ w' = w := by
  go_enter Tryz.func103, Tryz.ntmps103
  go_wp2_with (go_at_call 114; refine (Tryz.internal_strconv_small u h _).mono ?_; rintro e w' ⟨rfl, rfl⟩)
  go_ret
  exact ⟨rfl, rfl⟩
theorem fu_small (u : Nat) (h : u < 100) (w : World) :
    Calls Tryz.prog 87 #[.int .u64 u, .int .i64 10] w fun e w' => e = .returned (.string ⟨(Lib.decDigits u).toArray⟩) ∧ w' = w := by
  go_enter Tryz.func87, Tryz.ntmps87
  go_wp2_with (go_at_call 103; refine (fu57_small u h _).mono ?_; rintro e w' ⟨rfl, rfl⟩)
  go_ret
  exact ⟨rfl, rfl⟩
theorem below_freeze {B : Nat} {a w : World} (h : Below B a w) (p : Addr) (n : Nat) (hp : B ≤ p.block) : Below B a (w.freeze p n) := by
  unfold World.freeze
  split
  · exact h
  · exact h.trans ⟨rfl, rfl, rfl, by simp, fun k hk => by simp only [Array.getElem?_modify]; rw [if_neg (by omega)]⟩
theorem below_bytesWorld (w : World) (s : ByteArray) : Below w.heap.size w (Lib.bytesWorld w 5 s) := by
  unfold Lib.bytesWorld
  exact below_freeze ((Below.refl _ _).drew.alloc (Nat.le_refl _) _) _ _ (Nat.le_refl _)
theorem below_drewN' {B : Nat} {a w : World} (h : Below B a w) (n : Nat) : Below B a (w.drewN n) := ⟨h.os, h.tape, h.output, h.size, h.block⟩
theorem rn64_ok (s : ByteArray) (u : Nat) (hs : s.size ≤ 1000000) (hp : Lib.parseUintB 64 s.data.toList = .ok u) (hu : u < 100) (hd : Lib.decDigits u = s.toList) (w : World) :
    Calls Tryz.prog 111 #[.string s, .int .i64 10, .int .i64 64] w fun e w' => e = .returned (.tuple #[.int .u64 u, .bool true]) ∧ Below w.heap.size w w' := by
  have HP : Hid (Lib.parseUintB 64 s.data.toList = .ok u) := hp
  clear hp
  go_enter Tryz.func111, Tryz.ntmps111
  go_wp2_with fail
  refine (Tryz.strconv_ParseUint_10_at64_ok s (by omega) u HP.out _).mono ?_
  rintro e w1 ⟨rfl, hw⟩
  have hb : Below w.heap.size w w1 := by
    rcases hw with rfl | rfl
    · exact Below.refl _ _
    · exact below_bytesWorld w s
  clear hw
  go_wp2_with (go_at_call 87; refine (fu_small u hu _).mono ?_; rintro e w' ⟨rfl, rfl⟩)
  go_ret2
  exact ⟨rfl, hb⟩
theorem rn8_ok (s : ByteArray) (u : Nat) (hs : s.size ≤ 1000000) (hp : Lib.parseUintB 8 s.data.toList = .ok u) (hu : u < 100) (hd : Lib.decDigits u = s.toList) (w : World) :
    Calls Tryz.prog 111 #[.string s, .int .i64 10, .int .i64 8] w fun e w' => e = .returned (.tuple #[.int .u64 u, .bool true]) ∧ Below w.heap.size w w' := by
  have HP : Hid (Lib.parseUintB 8 s.data.toList = .ok u) := hp
  clear hp
  go_enter Tryz.func111, Tryz.ntmps111
  go_wp2_with fail
  refine (Tryz.strconv_ParseUint_10_at8_ok s (by omega) u HP.out _).mono ?_
  rintro e w1 ⟨rfl, hw⟩
  have hb : Below w.heap.size w w1 := by
    rcases hw with rfl | rfl
    · exact Below.refl _ _
    · exact below_bytesWorld w s
  clear hw
  go_wp2_with (go_at_call 87; refine (fu_small u hu _).mono ?_; rintro e w' ⟨rfl, rfl⟩)
  go_ret2
  exact ⟨rfl, hb⟩
end Go.Proofs.YtjchobcmbkiilaaGreatDoor.Pr
