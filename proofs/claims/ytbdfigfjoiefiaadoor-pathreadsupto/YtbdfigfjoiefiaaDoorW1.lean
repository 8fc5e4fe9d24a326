/-
  Contracts of the small functions of package wire.
-/
import Derived.Test.YtbdfigfjoiefiaaDoorProg
import Derived.WalkKit
import Derived.WalkSpells
import Derived.WalkLawsBesides
import Derived.Laws.IdiomStrings
import Derived.Below
import Derived.LoopN
namespace Go.Proofs.YtbdfigfjoiefiaaDoor
open Go.RowKit
theorem isSize_yes (n : Int) (h0 : 1 ≤ n) (h1 : n ≤ 8) (w : World) : Calls Tryd.prog 70 #[.int .i64 n] w fun e w' => e = .returned (.bool true) ∧ w' = w := by
  go_enter Tryd.func70, Tryd.ntmps70
  go_wp2
  go_ret
  exact ⟨rfl, rfl⟩
theorem isSize_no (n : Int) (h : n < 1 ∨ 8 < n) (w : World) : Calls Tryd.prog 70 #[.int .i64 n] w fun e w' => e = .returned (.bool false) ∧ w' = w := by
  rcases h with h | h
  · go_enter Tryd.func70, Tryd.ntmps70
    go_wp2
    go_ret
    exact ⟨rfl, rfl⟩
  · have h0 : 1 ≤ n := by omega
    have h1 : decide (n ≤ 8) = false := by simp; omega
    go_enter Tryd.func70, Tryd.ntmps70
    go_wp2
    go_ret
    exact ⟨rfl, rfl⟩
theorem put1_any (a b : Nat) (v : Int) (n i : Int) (w : World) (ha : w.cell? ⟨a, 0, none⟩ = some (.int .u64 v)) (hb : w.cell? ⟨b, 0, none⟩ = some (.int .i64 n)) (h0 : 0 ≤ i) (h1 : i < n) (h2 : n ≤ 8) :
    Calls Tryd.prog 71 #[.int .i64 i, .pointer (some ⟨a, 0, none⟩), .pointer (some ⟨b, 0, none⟩)] w fun e w' => e = .returned (.int .u8 (v / 2 ^ (8 * (n - 1 - i)).toNat % 256)) ∧ w' = w := by
  go_enter Tryd.func71, Tryd.ntmps71
  go_wp2
  go_ret
  exact ⟨rfl, rfl⟩
end Go.Proofs.YtbdfigfjoiefiaaDoor
