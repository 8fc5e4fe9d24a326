/-
  Contracts of the small functions of package prim and of the reference: sizes, bits, masks, orders; each for every argument of its kind.
-/
import Derived.Test.YthaebbmekonacaaGreatDoorProg
import Derived.WalkKit
import Derived.WalkSpells
import Derived.WalkLawsBesides
namespace Go.Proofs.YthaebbmekonacaaGreatDoor.Pr
open Go.RowKit

/-- The size of a family's addresses. -/
def szOf (n : Int) : Int := if n = 1 ∨ n = 3 ∨ n = 4 then 4 else if n = 2 ∨ n = 5 then 16 else 0

/-- The sizes in the table of families. -/
structure FamSizes (w : World) : Prop where
  c0 : w.cell? ⟨1, 1, none⟩ = some (.int .i64 0)
  c1 : w.cell? ⟨1, 4, none⟩ = some (.int .i64 4)
  c2 : w.cell? ⟨1, 7, none⟩ = some (.int .i64 16)
  c3 : w.cell? ⟨1, 10, none⟩ = some (.int .i64 4)
  c4 : w.cell? ⟨1, 13, none⟩ = some (.int .i64 4)
  c5 : w.cell? ⟨1, 16, none⟩ = some (.int .i64 16)

set_option maxHeartbeats 400000 in
theorem size_any (n : Int) (w : World) (hg : FamSizes w) :
    Calls Tryz.prog 117 #[.int .i64 n] w fun e w' => e = .returned (.int .i64 (szOf n)) ∧ w' = w := by
  by_cases h1 : n < 0
  · have hz : szOf n = 0 := by unfold szOf; rw [if_neg (by omega), if_neg (by omega)]
    rw [hz]
    clear hz
    go_enter Tryz.func117, Tryz.ntmps117
    go_wp2
    go_ret
    exact ⟨rfl, rfl⟩
  · by_cases h2 : 6 ≤ n
    · have hz : szOf n = 0 := by unfold szOf; rw [if_neg (by omega), if_neg (by omega)]
      rw [hz]
      clear hz
      go_enter Tryz.func117, Tryz.ntmps117
      go_wp2
      go_ret
      exact ⟨rfl, rfl⟩
    · obtain ⟨c0, c1, c2, c3, c4, c5⟩ := hg
      have h : n = 0 ∨ n = 1 ∨ n = 2 ∨ n = 3 ∨ n = 4 ∨ n = 5 := by omega
      clear h1 h2
      rcases h with rfl | rfl | rfl | rfl | rfl | rfl
      all_goals
        go_enter Tryz.func117, Tryz.ntmps117
        go_wp2
        go_ret
        exact ⟨rfl, rfl⟩

set_option maxHeartbeats 400000 in
theorem refsize_any (n : Int) (w : World) :
    Calls Tryz.prog 112 #[.int .i64 n] w fun e w' => e = .returned (.int .i64 (szOf n)) ∧ w' = w := by
  have hz : szOf n = if n = 1 ∨ n = 3 ∨ n = 4 then 4 else if n = 2 ∨ n = 5 then 16 else 0 := rfl
  by_cases h : n = 1 ∨ n = 2 ∨ n = 3 ∨ n = 4 ∨ n = 5
  · clear hz
    rcases h with rfl | rfl | rfl | rfl | rfl
    all_goals
      go_enter Tryz.func112, Tryz.ntmps112
      go_wp2
      go_ret
      exact ⟨rfl, rfl⟩
  · rw [if_neg (by omega), if_neg (by omega)] at hz
    rw [hz]
    clear hz
    have g1 : (n == 1) = false := beq_eq_false_iff_ne.2 (by omega)
    have g2 : (n == 2) = false := beq_eq_false_iff_ne.2 (by omega)
    have g3 : (n == 3) = false := beq_eq_false_iff_ne.2 (by omega)
    have g4 : (n == 4) = false := beq_eq_false_iff_ne.2 (by omega)
    have g5 : (n == 5) = false := beq_eq_false_iff_ne.2 (by omega)
    clear h
    go_enter Tryz.func112, Tryz.ntmps112
    go_wp2
    go_ret
    exact ⟨rfl, rfl⟩
end Go.Proofs.YthaebbmekonacaaGreatDoor.Pr
