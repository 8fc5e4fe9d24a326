/-
  The contracts of Put and of the reference's Put, for every number and size.
-/
import Derived.Test.YtpahnebhcfpplabGreatDoorW3
namespace Go.Proofs.YtpahnebhcfpplabGreatDoor
open Go.RowKit
theorem put_arg (b : ByteArray) (v : Int) (n : Int) (w : World) (h : n < 1 ∨ 8 < n) :
    Calls Tryz.prog 31 #[.string b, .int .u64 v, .int .i64 n] w fun e w' =>
      e = .returned (.tuple #[.string ⟨#[]⟩, .int .i64 2]) ∧ Below w.heap.size w w' := by
  go_enter Tryz.func31, Tryz.ntmps31
  go_wp2_with (go_at_call 77; refine (isSize_no _ h _).mono ?_; rintro e w' ⟨rfl, rfl⟩)
  go_ret2
  exact ⟨rfl, ((Below.refl _ _).alloc (by simp) _).alloc (by simp) _⟩
theorem shr_some (v n : Nat) (hv : 256 ^ n ≤ v) : ¬ ((v : Int) / 2 ^ (8 * n) = 0) := by
  rw [show (2 : Int) ^ (8 * n) = ((256 ^ n : Nat) : Int) from by rw [show 256 = 2 ^ 8 from rfl, ← Nat.pow_mul]; simp, ← Int.natCast_ediv]
  have : 0 < v / 256 ^ n := Nat.div_pos hv (Nat.pow_pos (by omega))
  omega
theorem put_long (b : ByteArray) (v n : Nat) (w : World) (h0 : 1 ≤ n) (h1 : n ≤ 8) (hv : 256 ^ n ≤ v) :
    Calls Tryz.prog 31 #[.string b, .int .u64 (v : Int), .int .i64 (n : Int)] w fun e w' =>
      e = .returned (.tuple #[.string ⟨#[]⟩, .int .i64 3]) ∧ Below w.heap.size w w' := by
  have hq := shr_some v n hv
  clear hv
  go_enter Tryz.func31, Tryz.ntmps31
  go_wp2_with (go_at_call 77; refine (isSize_yes _ (by omega) (by omega) _).mono ?_; rintro e w' ⟨rfl, rfl⟩)
  go_ret2
  exact ⟨rfl, ((Below.refl _ _).alloc (by simp) _).alloc (by simp) _⟩
end Go.Proofs.YtpahnebhcfpplabGreatDoor
