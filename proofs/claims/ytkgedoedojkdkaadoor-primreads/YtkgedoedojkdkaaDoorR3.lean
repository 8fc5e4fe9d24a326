/-
  The contracts of the reference's Check and Covers, for every two prefixes.
-/
import Derived.Test.YtkgedoedojkdkaaDoorR2
import Derived.Deep.QuietTactic
import Derived.BigQuiet
namespace Go.Proofs.YtkgedoedojkdkaaDoor
open Go.RowKit
theorem rcheck_any (f r : Int) (s : ByteArray) (l : Int) (w : World) (hs : s.size ≤ maxLen) :
    Calls Tryd.prog 10 #[.agg #[.int .i64 f, .int .u64 r, .string s, .int .i64 l]] w fun e w' => e = .returned (.int .i64 (chk f r s l)) ∧ Below w.heap.size w w' := by
  have C := fun w => may_any f r s l w hs
  by_cases h : chk f r s l = 0
  · simp only [h, decide_true] at C
    have HC : Hid (_ : Prop) := C
    have H : Hid (chk f r s l = 0) := h
    clear C h
    go_enter Tryd.func10, Tryd.ntmps10
    go_wp2_with fail
    refine (HC.out _).mono ?_
    rintro e w1 ⟨rfl, hb1⟩
    go_wp2
    go_ret
    exact ⟨ret_int H.out.symm, ((Below.refl _ _).alloc (Nat.le_refl _) _).trans (hb1.mono (by simp))⟩
  · have h2 := chk_two h
    simp only [h, decide_false] at C
    have HC : Hid (_ : Prop) := C
    have H : Hid (chk f r s l = 2) := h2
    clear C h h2
    go_enter Tryd.func10, Tryd.ntmps10
    go_wp2_with fail
    refine (HC.out _).mono ?_
    rintro e w1 ⟨rfl, hb1⟩
    go_wp2
    go_ret
    exact ⟨ret_int H.out.symm, ((Below.refl _ _).alloc (Nat.le_refl _) _).trans (hb1.mono (by simp))⟩
/-- Covering, by the reference's words. -/
theorem cov_iff (fa ra : Int) (sa : ByteArray) (la : Int) (fb rb : Int) (sb : ByteArray) (lb : Int) :
    covB fa ra sa la fb rb sb lb = true ↔ chk fa ra sa la = 0 ∧ chk fb rb sb lb = 0 ∧ fa = fb ∧ ra = rb ∧ la ≤ lb ∧ ∀ i : Nat, (i : Int) < la → bitI sa i = bitI sb i := by
  constructor
  · intro h
    obtain ⟨h1, h2, h3, rfl, rfl, h6⟩ := cov_parts h
    refine ⟨?_, h1, rfl, rfl, h3, fun i hi => ?_⟩
    · have := cut_chk h1 h2 h3
      rw [h6] at this
      exact this
    · rw [bitI_nat, bitI_nat, bits_of_eq _ _ _ h6 i hi]
  · rintro ⟨h1, h2, rfl, rfl, h5, h6⟩
    have a := chk_zero h1
    have b := chk_zero h2
    unfold covB
    refine decide_eq_true ⟨h2, a.2.2.1, h5, rfl, rfl, msk_eq_of_bits _ _ _ ?_ a.2.2.2.2.2 fun i hi => ?_⟩
    · have e1 : sa.data.toList.length = sa.size := by simp
      have e2 : sb.data.toList.length = sb.size := by simp
      rw [e1, e2]; omega
    · have := h6 i hi
      rw [bitI_nat, bitI_nat] at this
      omega
theorem below_drewN {B : Nat} {a w : World} (h : Below B a w) (n : Nat) : Below B a (w.drewN n) := ⟨h.os, h.tape, h.output, h.size, h.block⟩
theorem PfxAt.drewN {w : World} {b : Nat} {f r : Int} {s : ByteArray} {l : Int} (h : PfxAt w b f r s l) (n : Nat) : PfxAt (w.drewN n) b f r s l := ⟨h.c0, h.c1, h.c2, h.c3, h.f0, h.f1, h.f2, h.f3⟩
end Go.Proofs.YtkgedoedojkdkaaDoor
