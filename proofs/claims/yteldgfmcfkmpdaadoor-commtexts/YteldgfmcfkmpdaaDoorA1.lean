/-
  The order of numbers and of large communities; put; Text's half.
-/
import Derived.Test.YteldgfmcfkmpdaaDoorS1
import Derived.Test.YteldgfmcfkmpdaaDoorW3
import Derived.BigCall
namespace Go.Proofs.YteldgfmcfkmpdaaDoor
open Go.RowKit
/-- What a comparison tells. -/
def cmpI (x y : Int) : Int := if x < y then -1 else if y < x then 1 else 0
theorem cmpI_lt {x y : Int} (h : x < y) : cmpI x y = -1 := by simp [cmpI, h]
theorem cmpI_gt {x y : Int} (h : y < x) : cmpI x y = 1 := by simp [cmpI, h]; omega
theorem cmpI_eq {x y : Int} (h : x = y) : cmpI x y = 0 := by simp [cmpI, h]
theorem nanU (x : Int) (w : World) : Calls Tryd.prog 69 #[.int .u32 x] w fun e w' => e = .returned (.bool false) ∧ w' = w := by
  go_enter Tryd.func69, Tryd.ntmps69
  go_wp2
  go_ret
  exact ⟨rfl, rfl⟩
theorem nanX (x : Int) (w : World) : Calls Tryd.prog 72 #[.int .u64 x] w fun e w' => e = .returned (.bool false) ∧ w' = w := by
  go_enter Tryd.func72, Tryd.ntmps72
  go_wp2
  go_ret
  exact ⟨rfl, rfl⟩
theorem cmpU (x y : Int) (w : World) : Calls Tryd.prog 40 #[.int .u32 x, .int .u32 y] w fun e w' => e = .returned (.int .i64 (cmpI x y)) ∧ w' = w := by
  by_cases h1 : x < y
  · rw [cmpI_lt h1]
    go_enter Tryd.func40, Tryd.ntmps40
    go_wp2_with (go_at_call 69; refine (nanU _ _).mono ?_; rintro e w' ⟨rfl, rfl⟩)
    go_ret
    exact ⟨rfl, rfl⟩
  · by_cases h2 : y < x
    · rw [cmpI_gt h2]
      go_enter Tryd.func40, Tryd.ntmps40
      go_wp2_with (go_at_call 69; refine (nanU _ _).mono ?_; rintro e w' ⟨rfl, rfl⟩)
      go_ret
      exact ⟨rfl, rfl⟩
    · rw [cmpI_eq (show x = y by omega)]
      go_enter Tryd.func40, Tryd.ntmps40
      go_wp2_with (go_at_call 69; refine (nanU _ _).mono ?_; rintro e w' ⟨rfl, rfl⟩)
      go_ret
      exact ⟨rfl, rfl⟩
theorem cmpX (x y : Int) (w : World) : Calls Tryd.prog 46 #[.int .u64 x, .int .u64 y] w fun e w' => e = .returned (.int .i64 (cmpI x y)) ∧ w' = w := by
  by_cases h1 : x < y
  · rw [cmpI_lt h1]
    go_enter Tryd.func46, Tryd.ntmps46
    go_wp2_with (go_at_call 72; refine (nanX _ _).mono ?_; rintro e w' ⟨rfl, rfl⟩)
    go_ret
    exact ⟨rfl, rfl⟩
  · by_cases h2 : y < x
    · rw [cmpI_gt h2]
      go_enter Tryd.func46, Tryd.ntmps46
      go_wp2_with (go_at_call 72; refine (nanX _ _).mono ?_; rintro e w' ⟨rfl, rfl⟩)
      go_ret
      exact ⟨rfl, rfl⟩
    · rw [cmpI_eq (show x = y by omega)]
      go_enter Tryd.func46, Tryd.ntmps46
      go_wp2_with (go_at_call 72; refine (nanX _ _).mono ?_; rintro e w' ⟨rfl, rfl⟩)
      go_ret
      exact ⟨rfl, rfl⟩
/-- Put, where it refuses nothing. -/
theorem put_any (b : ByteArray) (v n : Nat) (w : World) (h0 : 1 ≤ n) (h1 : n ≤ 8) (hv : v < 256 ^ n) (hb : b.size ≤ 281474976710656) :
    Calls Tryd.prog 42 #[.string b, .int .u64 (v : Int), .int .i64 (n : Int)] w fun e w' =>
      e = .returned (.string (b ++ ⟨(laid v n).toArray⟩)) ∧ Below w.heap.size w w' := by
  go_enter Tryd.func42, Tryd.ntmps42
  go_wp2_with fail
  refine (put_yes b v n w h0 h1 hv hb).mono ?_
  rintro e w' ⟨rfl, hbel⟩
  go_wp2
  go_ret
  exact ⟨rfl, hbel⟩
theorem layU (b : ByteArray) (v : Nat) (w : World) (hv : v < 4294967296) (hb : b.size ≤ 281474976710656) :
    Calls Tryd.prog 41 #[.string b, .int .u32 (v : Int)] w fun e w' => e = .returned (.string (b ++ ⟨(laid v 4).toArray⟩)) ∧ Below w.heap.size w w' := by
  go_enter Tryd.func41, Tryd.ntmps41
  go_wp2_with fail
  refine (put_any b v 4 w (by omega) (by omega) (by simpa using hv) hb).mono ?_
  rintro e w' ⟨rfl, hbel⟩
  go_wp2
  go_ret
  exact ⟨rfl, hbel⟩
theorem layX (b : ByteArray) (v : Nat) (w : World) (hv : v < 18446744073709551616) (hb : b.size ≤ 281474976710656) :
    Calls Tryd.prog 47 #[.string b, .int .u64 (v : Int)] w fun e w' => e = .returned (.string (b ++ ⟨(laid v 8).toArray⟩)) ∧ Below w.heap.size w w' := by
  go_enter Tryd.func47, Tryd.ntmps47
  go_wp2_with fail
  refine (put_any b v 8 w (by omega) (by omega) (by simpa using hv) hb).mono ?_
  rintro e w' ⟨rfl, hbel⟩
  go_wp2
  go_ret
  exact ⟨rfl, hbel⟩
end Go.Proofs.YteldgfmcfkmpdaaDoor
