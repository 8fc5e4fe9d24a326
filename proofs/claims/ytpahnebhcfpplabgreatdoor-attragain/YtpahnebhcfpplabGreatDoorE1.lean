/-
  The values of attributes, as package attr lays them: one contract a function field.
-/
import Derived.Test.YtpahnebhcfpplabGreatDoorG1
import Derived.Test.YtpahnebhcfpplabGreatDoorA5
namespace Go.Proofs.YtpahnebhcfpplabGreatDoor
open Go.RowKit
theorem put47 (v n : Nat) (w : World) (h0 : 1 ≤ n) (h1 : n ≤ 8) (hv : v < 256 ^ n) :
    Calls Tryz.prog 20 #[.int .u64 (v : Int), .int .i64 (n : Int)] w fun e w' => e = .returned (.string ⟨(laid v n).toArray⟩) ∧ Below w.heap.size w w' := by
  go_enter Tryz.func20, Tryz.ntmps20
  go_wp2_with fail
  refine (put_yes ⟨#[]⟩ v n w h0 h1 hv (by decide)).mono ?_
  rintro e w' ⟨rfl, hbel⟩
  rw [empty_append]
  go_wp2
  go_ret
  exact ⟨rfl, hbel⟩
theorem layOrigin (p o : Nat) (w : World) (h : w.cell? ⟨p, 0, none⟩ = some (.int .i64 (o : Int))) (ho : o < 256) :
    Calls Tryz.prog 49 #[.pointer (some ⟨p, 0, none⟩)] w fun e w' => e = .returned (.tuple #[.string ⟨(laid o 1).toArray⟩, .bool true]) ∧ Below w.heap.size w w' := by
  have hw : (o : Int) % 18446744073709551616 = o := by omega
  go_enter Tryz.func49, Tryz.ntmps49
  go_wp2_with fail
  refine (put47 o 1 w (by omega) (by omega) (by omega)).mono ?_
  rintro e w1 ⟨rfl, hb⟩
  go_wp2
  go_ret2
  exact ⟨rfl, hb⟩
theorem layNext_yes (p : Nat) (nx : ByteArray) (w : World) (h : w.cell? ⟨p, 2, none⟩ = some (.string nx)) (hz : nx.size = 4) :
    Calls Tryz.prog 52 #[.pointer (some ⟨p, 0, none⟩)] w fun e w' => e = .returned (.tuple #[.string nx, .bool true]) ∧ Below w.heap.size w w' := by
  have hq : ((nx.size : Int) == 4) = true := by rw [hz]; rfl
  clear hz
  go_enter Tryz.func52, Tryz.ntmps52
  go_wp2
  go_quiet (fail)
  go_wp2
  go_ret2
  exact ⟨rfl, below_drewN' (Below.refl _ _) _⟩
theorem layNext_no (p : Nat) (nx : ByteArray) (w : World) (h : w.cell? ⟨p, 2, none⟩ = some (.string nx)) (hz : ¬ nx.size = 4) :
    Calls Tryz.prog 52 #[.pointer (some ⟨p, 0, none⟩)] w fun e w' => e = .returned (.tuple #[.string nx, .bool false]) ∧ Below w.heap.size w w' := by
  have hq : ((nx.size : Int) == 4) = false := by simp; omega
  clear hz
  go_enter Tryz.func52, Tryz.ntmps52
  go_wp2
  go_quiet (fail)
  go_wp2
  go_ret2
  exact ⟨rfl, below_drewN' (Below.refl _ _) _⟩
theorem layAtomic (p : Nat) (a : Bool) (w : World) (h : w.cell? ⟨p, 7, none⟩ = some (.bool a)) :
    Calls Tryz.prog 57 #[.pointer (some ⟨p, 0, none⟩)] w fun e w' => e = .returned (.tuple #[.string ⟨#[]⟩, .bool a]) ∧ Below w.heap.size w w' := by
  go_enter Tryz.func57, Tryz.ntmps57
  go_wp2
  go_quiet (fail)
  go_wp2
  go_ret2
  exact ⟨rfl, below_drewN' (Below.refl _ _) _⟩
end Go.Proofs.YtpahnebhcfpplabGreatDoor
