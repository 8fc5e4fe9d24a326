/-
  The contracts of the reference's Apart, May and Check.
-/
import Derived.Test.YtkgedoedojkdkaaDoorM3
import Derived.LoopN
namespace Go.Proofs.YtkgedoedojkdkaaDoor
open Go.RowKit
theorem apart_any (f : Int) (w : World) (h : 1 ≤ f) (h5 : f ≤ 5) : Calls Tryd.prog 45 #[.int .i64 f] w fun e w' => e = .returned (.bool (decide (4 ≤ f))) ∧ w' = w := by
  have hf : f = 1 ∨ f = 2 ∨ f = 3 ∨ f = 4 ∨ f = 5 := by omega
  clear h h5
  rcases hf with rfl | rfl | rfl | rfl | rfl
  all_goals
    go_enter Tryd.func45, Tryd.ntmps45
    go_wp2
    go_ret
    exact ⟨rfl, rfl⟩
/-- May it be, by the reference's words. -/
theorem chk_iff (f r : Int) (s : ByteArray) (l : Int) : chk f r s l = 0 ↔ szOf f ≠ 0 ∧ (s.size : Int) = szOf f ∧ 0 ≤ l ∧ l ≤ 8 * szOf f ∧ (r = 0 ∨ 4 ≤ f) ∧ ∀ i : Nat, l ≤ (i : Int) → (i : Int) < 8 * szOf f → bitI s i = 0 := by
  constructor
  · intro h
    obtain ⟨h1, h2, h3, h4, h5, h6⟩ := chk_zero h
    exact ⟨h1, h2, h3, h4, h5, fun i hi _ => by rw [bitI_nat, bits_of_msk _ _ h6 i hi]; rfl⟩
  · rintro ⟨h1, h2, h3, h4, h5, h6⟩
    unfold chk
    rw [if_pos ⟨h1, h2, h3, h4, h5, msk_of_bits _ _ fun i hi hl => by
      have := h6 i hi (by have e : s.data.toList.length = s.size := by simp
                          rw [e] at hl; omega)
      rw [bitI_nat] at this; omega⟩]
end Go.Proofs.YtkgedoedojkdkaaDoor
