/-
  The order of numbers and of large communities; put; Text's half.
-/
import Derived.Test.YteldgfmcfkmpdabDoorS1
import Derived.Test.YteldgfmcfkmpdabDoorW3
import Derived.BigCall
namespace Go.Proofs.YteldgfmcfkmpdabDoor
open Go.RowKit
/-- What a comparison tells. -/
def cmpI (x y : Int) : Int := if x < y then -1 else if y < x then 1 else 0
theorem cmpI_lt {x y : Int} (h : x < y) : cmpI x y = -1 := by simp [cmpI, h]
theorem cmpI_gt {x y : Int} (h : y < x) : cmpI x y = 1 := by simp [cmpI, h]; omega
theorem cmpI_eq {x y : Int} (h : x = y) : cmpI x y = 0 := by simp [cmpI, h]
theorem nanU (x : Int) (w : World) : Calls Tryd.prog 32 #[.int .u32 x] w fun e w' => e = .returned (.bool false) ∧ w' = w := by
  go_enter Tryd.func32, Tryd.ntmps32
  go_wp2
  go_ret
  exact ⟨rfl, rfl⟩
theorem cmpU (x y : Int) (w : World) : Calls Tryd.prog 17 #[.int .u32 x, .int .u32 y] w fun e w' => e = .returned (.int .i64 (cmpI x y)) ∧ w' = w := by
  by_cases h1 : x < y
  · rw [cmpI_lt h1]
    go_enter Tryd.func17, Tryd.ntmps17
    go_wp2_with (go_at_call 32; refine (nanU _ _).mono ?_; rintro e w' ⟨rfl, rfl⟩)
    go_ret
    exact ⟨rfl, rfl⟩
  · by_cases h2 : y < x
    · rw [cmpI_gt h2]
      go_enter Tryd.func17, Tryd.ntmps17
      go_wp2_with (go_at_call 32; refine (nanU _ _).mono ?_; rintro e w' ⟨rfl, rfl⟩)
      go_ret
      exact ⟨rfl, rfl⟩
    · rw [cmpI_eq (show x = y by omega)]
      go_enter Tryd.func17, Tryd.ntmps17
      go_wp2_with (go_at_call 32; refine (nanU _ _).mono ?_; rintro e w' ⟨rfl, rfl⟩)
      go_ret
      exact ⟨rfl, rfl⟩
/-- Put, where it refuses nothing. -/
theorem put_any (b : ByteArray) (v n : Nat) (w : World) (h0 : 1 ≤ n) (h1 : n ≤ 8) (hv : v < 256 ^ n) (hb : b.size ≤ 281474976710656) :
    Calls Tryd.prog 19 #[.string b, .int .u64 (v : Int), .int .i64 (n : Int)] w fun e w' =>
      e = .returned (.string (b ++ ⟨(laid v n).toArray⟩)) ∧ Below w.heap.size w w' := by
  go_enter Tryd.func19, Tryd.ntmps19
  go_wp2_with fail
  refine (put_yes b v n w h0 h1 hv hb).mono ?_
  rintro e w' ⟨rfl, hbel⟩
  go_wp2
  go_ret
  exact ⟨rfl, hbel⟩
theorem layU (b : ByteArray) (v : Nat) (w : World) (hv : v < 4294967296) (hb : b.size ≤ 281474976710656) :
    Calls Tryd.prog 18 #[.string b, .int .u32 (v : Int)] w fun e w' => e = .returned (.string (b ++ ⟨(laid v 4).toArray⟩)) ∧ Below w.heap.size w w' := by
  go_enter Tryd.func18, Tryd.ntmps18
  go_wp2_with fail
  refine (put_any b v 4 w (by omega) (by omega) (by simpa using hv) hb).mono ?_
  rintro e w' ⟨rfl, hbel⟩
  go_wp2
  go_ret
  exact ⟨rfl, hbel⟩
end Go.Proofs.YteldgfmcfkmpdabDoor
