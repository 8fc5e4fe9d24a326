/-
  Prefixes as texts: the reference's Text.
-/
import Derived.Test.YtkgedoedojkdkabDoorTt
import Derived.Test.YtkgedoedojkdkabDoorR3
set_option linter.unusedVariables false
set_option linter.unusedSimpArgs false
set_option maxRecDepth 100000
namespace Go.Proofs.YtkgedoedojkdkabDoor
open Go.RowKit
theorem fw_len (f : Nat) : (fwL.getD f []).length ≤ 4 := by
  by_cases h : f < 6
  · rcases (show f = 0 ∨ f = 1 ∨ f = 2 ∨ f = 3 ∨ f = 4 ∨ f = 5 by omega) with rfl | rfl | rfl | rfl | rfl | rfl <;> decide
  · rw [List.getD_eq_getElem?_getD, List.getElem?_eq_none (by simp [fwL]; omega)]; decide
set_option maxHeartbeats 2000000 in
theorem text_none (f : Int) (r : Nat) (s : ByteArray) (l : Int) (w : World) (he : Tabs w) (hc : chk f r s l ≠ 0) :
    Calls Tryd.prog 5 #[.agg #[.int .i64 f, .int .u64 (r : Int), .string s, .int .i64 l]] w fun e w' => e = .returned (.tuple #[.string ⟨#[]⟩, .int .i64 2]) ∧ Below w.heap.size w w' := by
  have HB : Hid (Below w.heap.size w (w.alloc (.cells #[.int .i64 f, .int .u64 (r : Int), .string s, .int .i64 l] 25))) := (Below.refl _ _).alloc (Nat.le_refl _) _
  have HM : Hid (∀ W, Tabs W → _) := fun W (h : Tabs W) => check_any f r s l W h.sizes h.rds
  rw [chk_two hc] at HM
  have HE : Hid _ := he.below HB.out
  clear hc he
  go_enter Tryd.func5, Tryd.ntmps5
  go_wp2_with fail
  refine (HM.out _ HE.out).mono ?_
  rintro e w1 ⟨rfl, hb1⟩
  go_wp2
  go_ret2
  exact ⟨rfl, HB.out.trans (hb1.mono HB.out.size)⟩
/-- What both Texts answer. -/
def txA (f : Int) (r : Nat) (s : ByteArray) (l : Int) : ByteArray := if chk f r s l = 0 then ⟨(pfT f r s l.toNat).toArray⟩ else ⟨#[]⟩
theorem chk_fam {f r : Int} {s : ByteArray} {l : Int} (h : chk f r s l = 0) : ∃ n m : Nat, f = n ∧ l = m ∧ 1 ≤ n ∧ n ≤ 5 ∧ m ≤ 128 ∧ ((n = 1 ∨ n = 3 ∨ n = 4) ∧ s.size = 4 ∨ (n = 2 ∨ n = 5) ∧ s.size = 16) := by
  have hz := chk_zero h
  have hp := szOf_pos f hz.1
  refine ⟨f.toNat, l.toNat, by omega, by omega, by omega, by omega, by omega, by omega⟩
theorem text_any (f : Int) (r : Nat) (hr : r < 18446744073709551616) (s : ByteArray) (l : Int) (w : World) (he : EnvT w) :
    Calls Tryd.prog 5 #[.agg #[.int .i64 f, .int .u64 (r : Int), .string s, .int .i64 l]] w fun e w' => e = .returned (.tuple #[.string (txA f r s l), .int .i64 (chk f r s l)]) ∧ Below w.heap.size w w' := by
  by_cases hc : chk f r s l = 0
  · obtain ⟨n, m, rfl, rfl, h1, h2, h3, h4⟩ := chk_fam hc
    rw [show txA n r s m = ⟨(pfT n r s m).toArray⟩ by unfold txA; rw [if_pos hc, Int.toNat_natCast], hc]
    rcases (show n = 1 ∨ n = 2 ∨ n = 3 ∨ n = 4 ∨ n = 5 by omega) with rfl | rfl | rfl | rfl | rfl
    · exact text_f1 r hr s m w he (by omega) h3 hc
    · exact text_f2 r hr s m w he (by omega) h3 hc
    · exact text_f3 r hr s m w he (by omega) h3 hc
    · exact text_f4 r hr s m w he (by omega) h3 hc
    · exact text_f5 r hr s m w he (by omega) h3 hc
  · rw [show txA f r s l = ⟨#[]⟩ by unfold txA; rw [if_neg hc], chk_two hc]
    exact text_none f r s l w he.t hc
end Go.Proofs.YtkgedoedojkdkabDoor
