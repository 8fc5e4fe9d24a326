/-
  The order of numbers and of large communities; put; Text's half.
-/
import Derived.Test.YtpahnebhcfpplabGreatDoorY1
import Derived.Test.YtpahnebhcfpplabGreatDoorW3
import Derived.BigCall
namespace Go.Proofs.YtpahnebhcfpplabGreatDoor
open Go.RowKit
/-- What a comparison tells. -/
def cmpI (x y : Int) : Int := if x < y then -1 else if y < x then 1 else 0
theorem cmpI_lt {x y : Int} (h : x < y) : cmpI x y = -1 := by simp [cmpI, h]
theorem cmpI_gt {x y : Int} (h : y < x) : cmpI x y = 1 := by simp [cmpI, h]; omega
theorem cmpI_eq {x y : Int} (h : x = y) : cmpI x y = 0 := by simp [cmpI, h]
theorem nanU (x : Int) (w : World) : Calls Tryz.prog 83 #[.int .u32 x] w fun e w' => e = .returned (.bool false) ∧ w' = w := by
  go_enter Tryz.func83, Tryz.ntmps83
  go_wp2
  go_ret
  exact ⟨rfl, rfl⟩
theorem nanX (x : Int) (w : World) : Calls Tryz.prog 84 #[.int .u64 x] w fun e w' => e = .returned (.bool false) ∧ w' = w := by
  go_enter Tryz.func84, Tryz.ntmps84
  go_wp2
  go_ret
  exact ⟨rfl, rfl⟩
theorem cmpU (x y : Int) (w : World) : Calls Tryz.prog 44 #[.int .u32 x, .int .u32 y] w fun e w' => e = .returned (.int .i64 (cmpI x y)) ∧ w' = w := by
  by_cases h1 : x < y
  · rw [cmpI_lt h1]
    go_enter Tryz.func44, Tryz.ntmps44
    go_wp2_with (go_at_call 83; refine (nanU _ _).mono ?_; rintro e w' ⟨rfl, rfl⟩)
    go_ret
    exact ⟨rfl, rfl⟩
  · by_cases h2 : y < x
    · rw [cmpI_gt h2]
      go_enter Tryz.func44, Tryz.ntmps44
      go_wp2_with (go_at_call 83; refine (nanU _ _).mono ?_; rintro e w' ⟨rfl, rfl⟩)
      go_ret
      exact ⟨rfl, rfl⟩
    · rw [cmpI_eq (show x = y by omega)]
      go_enter Tryz.func44, Tryz.ntmps44
      go_wp2_with (go_at_call 83; refine (nanU _ _).mono ?_; rintro e w' ⟨rfl, rfl⟩)
      go_ret
      exact ⟨rfl, rfl⟩
theorem cmpX (x y : Int) (w : World) : Calls Tryz.prog 46 #[.int .u64 x, .int .u64 y] w fun e w' => e = .returned (.int .i64 (cmpI x y)) ∧ w' = w := by
  by_cases h1 : x < y
  · rw [cmpI_lt h1]
    go_enter Tryz.func46, Tryz.ntmps46
    go_wp2_with (go_at_call 84; refine (nanX _ _).mono ?_; rintro e w' ⟨rfl, rfl⟩)
    go_ret
    exact ⟨rfl, rfl⟩
  · by_cases h2 : y < x
    · rw [cmpI_gt h2]
      go_enter Tryz.func46, Tryz.ntmps46
      go_wp2_with (go_at_call 84; refine (nanX _ _).mono ?_; rintro e w' ⟨rfl, rfl⟩)
      go_ret
      exact ⟨rfl, rfl⟩
    · rw [cmpI_eq (show x = y by omega)]
      go_enter Tryz.func46, Tryz.ntmps46
      go_wp2_with (go_at_call 84; refine (nanX _ _).mono ?_; rintro e w' ⟨rfl, rfl⟩)
      go_ret
      exact ⟨rfl, rfl⟩
/-- Put, where it refuses nothing. -/
theorem put_any (b : ByteArray) (v n : Nat) (w : World) (h0 : 1 ≤ n) (h1 : n ≤ 8) (hv : v < 256 ^ n) (hb : b.size ≤ 281474976710656) :
    Calls Tryz.prog 98 #[.string b, .int .u64 (v : Int), .int .i64 (n : Int)] w fun e w' =>
      e = .returned (.string (b ++ ⟨(laid v n).toArray⟩)) ∧ Below w.heap.size w w' := by
  go_enter Tryz.func98, Tryz.ntmps98
  go_wp2_with fail
  refine (put_yes b v n w h0 h1 hv hb).mono ?_
  rintro e w' ⟨rfl, hbel⟩
  go_wp2
  go_ret
  exact ⟨rfl, hbel⟩
theorem layU (b : ByteArray) (v : Nat) (w : World) (hv : v < 4294967296) (hb : b.size ≤ 281474976710656) :
    Calls Tryz.prog 97 #[.string b, .int .u32 (v : Int)] w fun e w' => e = .returned (.string (b ++ ⟨(laid v 4).toArray⟩)) ∧ Below w.heap.size w w' := by
  go_enter Tryz.func97, Tryz.ntmps97
  go_wp2_with fail
  refine (put_any b v 4 w (by omega) (by omega) (by simpa using hv) hb).mono ?_
  rintro e w' ⟨rfl, hbel⟩
  go_wp2
  go_ret
  exact ⟨rfl, hbel⟩
theorem layX (b : ByteArray) (v : Nat) (w : World) (hv : v < 18446744073709551616) (hb : b.size ≤ 281474976710656) :
    Calls Tryz.prog 105 #[.string b, .int .u64 (v : Int)] w fun e w' => e = .returned (.string (b ++ ⟨(laid v 8).toArray⟩)) ∧ Below w.heap.size w w' := by
  go_enter Tryz.func105, Tryz.ntmps105
  go_wp2_with fail
  refine (put_any b v 8 w (by omega) (by omega) (by simpa using hv) hb).mono ?_
  rintro e w' ⟨rfl, hbel⟩
  go_wp2
  go_ret
  exact ⟨rfl, hbel⟩
end Go.Proofs.YtpahnebhcfpplabGreatDoor
