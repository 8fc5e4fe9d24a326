/-
  Two calls of 'of' and two new variables in one statement, in whatever order.
-/
import Derived.Test.YtkgedoedojkdkaaDoorO3
namespace Go.Proofs.YtkgedoedojkdkaaDoor
open Go.RowKit
set_option linter.unusedSimpArgs false
/-- What must have been done ahead of operation i. -/
def cond2 (i : Nat) (l0 l1 l2 l3 l4 l5 l6 l7 : Bool) : Bool := match i with
  | 0 => !l0
  | 1 => l0 && !l1
  | 2 => !l2
  | 3 => l2 && !l3
  | 4 => !l4
  | 5 => !l5
  | 6 => l1 && l4 && !l6
  | 7 => l3 && l5 && !l7
  | _ => false
/-- What holds of what has been done. -/
def Inv2 (S : World → Prop) (base : Nat) (X Y : Array Value) (a0 : Act) (l0 l1 l2 l3 l4 l5 l6 l7 : Bool) (a : Act) (w : World) : Prop :=
  FrA a0 a ∧ Held S w ∧ (l0 = true → a.tmps.getD 15 undef = .agg X) ∧ (l1 = true → Good (a.tmps.getD 16 undef)) ∧ (l2 = true → a.tmps.getD 17 undef = .agg Y) ∧ (l3 = true → Good (a.tmps.getD 18 undef)) ∧
    (l4 = true → ∃ b, VarAt w base (a.tmps.getD 7 undef) (a.tmps.getD 16 undef) l6 b) ∧ (l5 = true → ∃ b, VarAt w base (a.tmps.getD 8 undef) (a.tmps.getD 18 undef) l7 b) ∧
    (l4 = true → l5 = true → a.tmps.getD 7 undef ≠ a.tmps.getD 8 undef) ∧ (l6 = true → l1 = true ∧ l4 = true) ∧ (l7 = true → l3 = true ∧ l5 = true)
section
variable {S : World → Prop} {base : Nat} {X Y : Array Value} {a0 a : Act} {w w' : World} {l0 l1 l2 l3 l4 l5 l6 l7 : Bool}
theorem Inv2.size (h : Inv2 S base X Y a0 l0 l1 l2 l3 l4 l5 l6 l7 a w) : a.tmps.size = a0.tmps.size := h.1.z
theorem inv_load0 (h : Inv2 S base X Y a0 l0 l1 l2 l3 l4 l5 l6 l7 a w) (hz : 18 < a0.tmps.size) : Inv2 S base X Y a0 true l1 l2 l3 l4 l5 l6 l7 (a.put (some 15) (.agg X)) w := by
  have hs := h.size
  obtain ⟨hF, hS, i0, i1, i2, i3, i4, i5, i45, i6, i7⟩ := h
  refine ⟨hF.put 15 _ (by omega), hS, fun _ => ?_, ?_, ?_, ?_, ?_, ?_, ?_, i6, i7⟩
  · rw [getD_put, if_pos ⟨rfl, by omega⟩]
  all_goals simp only [getD_put, show ¬ ((16 : Nat) = 15 ∧ 15 < a.tmps.size) from by omega, show ¬ ((17 : Nat) = 15 ∧ 15 < a.tmps.size) from by omega, show ¬ ((18 : Nat) = 15 ∧ 15 < a.tmps.size) from by omega, show ¬ ((7 : Nat) = 15 ∧ 15 < a.tmps.size) from by omega, show ¬ ((8 : Nat) = 15 ∧ 15 < a.tmps.size) from by omega, if_false]
  · exact i1
  · exact i2
  · exact i3
  · exact i4
  · exact i5
  · exact i45
theorem inv_load2 (h : Inv2 S base X Y a0 l0 l1 l2 l3 l4 l5 l6 l7 a w) (hz : 18 < a0.tmps.size) : Inv2 S base X Y a0 l0 l1 true l3 l4 l5 l6 l7 (a.put (some 17) (.agg Y)) w := by
  have hs := h.size
  obtain ⟨hF, hS, i0, i1, i2, i3, i4, i5, i45, i6, i7⟩ := h
  refine ⟨hF.put 17 _ (by omega), hS, ?_, ?_, fun _ => ?_, ?_, ?_, ?_, ?_, i6, i7⟩
  case refine_3 => rw [getD_put, if_pos ⟨rfl, by omega⟩]
  all_goals simp only [getD_put, show ¬ ((16 : Nat) = 17 ∧ 17 < a.tmps.size) from by omega, show ¬ ((15 : Nat) = 17 ∧ 17 < a.tmps.size) from by omega, show ¬ ((18 : Nat) = 17 ∧ 17 < a.tmps.size) from by omega, show ¬ ((7 : Nat) = 17 ∧ 17 < a.tmps.size) from by omega, show ¬ ((8 : Nat) = 17 ∧ 17 < a.tmps.size) from by omega, if_false]
  · exact i0
  · exact i1
  · exact i3
  · exact i4
  · exact i5
  · exact i45
theorem inv_call1 (h : Inv2 S base X Y a0 l0 l1 l2 l3 l4 l5 l6 l7 a w) (hz : 18 < a0.tmps.size) (hl : l1 = false) (hb : Below w.heap.size w w') (hS' : Held S w') {v : Value} (hv : Good v) : Inv2 S base X Y a0 l0 true l2 l3 l4 l5 l6 l7 (a.put (some 16) v) w' := by
  have hs := h.size
  obtain ⟨hF, hS, i0, i1, i2, i3, i4, i5, i45, i6, i7⟩ := h
  have h6 : l6 = false := by cases l6 with | false => rfl | true => exact absurd (i6 rfl).1 (by rw [hl]; simp)
  subst h6
  refine ⟨hF.put 16 _ (by omega), hS', ?_, fun _ => ?_, ?_, ?_, ?_, ?_, ?_, (fun e => by cases e), i7⟩
  case refine_2 => rw [getD_put, if_pos ⟨rfl, by omega⟩]; exact hv
  all_goals simp only [getD_put, show ¬ ((15 : Nat) = 16 ∧ 16 < a.tmps.size) from by omega, show ¬ ((17 : Nat) = 16 ∧ 16 < a.tmps.size) from by omega, show ¬ ((18 : Nat) = 16 ∧ 16 < a.tmps.size) from by omega, show ¬ ((7 : Nat) = 16 ∧ 16 < a.tmps.size) from by omega, show ¬ ((8 : Nat) = 16 ∧ 16 < a.tmps.size) from by omega, if_false]
  · exact i0
  · exact i2
  · exact i3
  · intro e
    obtain ⟨b, hv⟩ := i4 e
    have := hv.kept hb
    exact ⟨b, this.p, this.lo, this.hi, this.room, fun e => by cases e⟩
  · intro e
    obtain ⟨b, hv⟩ := i5 e
    exact ⟨b, hv.kept hb⟩
  · exact i45
theorem inv_call3 (h : Inv2 S base X Y a0 l0 l1 l2 l3 l4 l5 l6 l7 a w) (hz : 18 < a0.tmps.size) (hl : l3 = false) (hb : Below w.heap.size w w') (hS' : Held S w') {v : Value} (hv : Good v) : Inv2 S base X Y a0 l0 l1 l2 true l4 l5 l6 l7 (a.put (some 18) v) w' := by
  have hs := h.size
  obtain ⟨hF, hS, i0, i1, i2, i3, i4, i5, i45, i6, i7⟩ := h
  have h7 : l7 = false := by cases l7 with | false => rfl | true => exact absurd (i7 rfl).1 (by rw [hl]; simp)
  subst h7
  refine ⟨hF.put 18 _ (by omega), hS', ?_, ?_, ?_, fun _ => ?_, ?_, ?_, ?_, i6, (fun e => by cases e)⟩
  case refine_4 => rw [getD_put, if_pos ⟨rfl, by omega⟩]; exact hv
  all_goals simp only [getD_put, show ¬ ((15 : Nat) = 18 ∧ 18 < a.tmps.size) from by omega, show ¬ ((17 : Nat) = 18 ∧ 18 < a.tmps.size) from by omega, show ¬ ((16 : Nat) = 18 ∧ 18 < a.tmps.size) from by omega, show ¬ ((7 : Nat) = 18 ∧ 18 < a.tmps.size) from by omega, show ¬ ((8 : Nat) = 18 ∧ 18 < a.tmps.size) from by omega, if_false]
  · exact i0
  · exact i1
  · exact i2
  · intro e
    obtain ⟨b, hv⟩ := i4 e
    exact ⟨b, hv.kept hb⟩
  · intro e
    obtain ⟨b, hv⟩ := i5 e
    have := hv.kept hb
    exact ⟨b, this.p, this.lo, this.hi, this.room, fun e => by cases e⟩
  · exact i45
theorem inv_alloc4 (h : Inv2 S base X Y a0 l0 l1 l2 l3 l4 l5 l6 l7 a w) (hz : 18 < a0.tmps.size) (hl : l4 = false) (hbase : base ≤ w.heap.size) (hS' : Held S (w.alloc (.cells #[.int .i64 0, .int .u64 0, .string ⟨#[]⟩, .int .i64 0] 24))) :
    Inv2 S base X Y a0 l0 l1 l2 l3 true l5 l6 l7 (a.put (some 7) (.pointer (some ⟨w.heap.size, 0, none⟩))) (w.alloc (.cells #[.int .i64 0, .int .u64 0, .string ⟨#[]⟩, .int .i64 0] 24)) := by
  have hs := h.size
  have hb : Below w.heap.size w (w.alloc (.cells #[.int .i64 0, .int .u64 0, .string ⟨#[]⟩, .int .i64 0] 24)) := (Below.refl _ _).alloc (Nat.le_refl _) _
  obtain ⟨hF, hS, i0, i1, i2, i3, i4, i5, i45, i6, i7⟩ := h
  have h6 : l6 = false := by cases l6 with | false => rfl | true => exact absurd (i6 rfl).2 (by rw [hl]; simp)
  subst h6
  refine ⟨hF.put 7 _ (by omega), hS', ?_, ?_, ?_, ?_, fun _ => ⟨w.heap.size, ?_⟩, ?_, ?_, (fun e => by cases e), i7⟩
  all_goals simp only [getD_put, show ¬ ((15 : Nat) = 7 ∧ 7 < a.tmps.size) from by omega, show ¬ ((17 : Nat) = 7 ∧ 7 < a.tmps.size) from by omega, show ¬ ((16 : Nat) = 7 ∧ 7 < a.tmps.size) from by omega, show ¬ ((18 : Nat) = 7 ∧ 7 < a.tmps.size) from by omega, show ¬ ((8 : Nat) = 7 ∧ 7 < a.tmps.size) from by omega, show ((7 : Nat) = 7 ∧ 7 < a.tmps.size) from ⟨rfl, by omega⟩, if_false, if_true, and_self]
  · exact i0
  · exact i1
  · exact i2
  · exact i3
  · exact ⟨rfl, hbase, by simp, fun _ => PfxAt.of_alloc w _ 0 0 ⟨#[]⟩ 0 rfl, fun e => by cases e⟩
  · intro e
    obtain ⟨b, hv⟩ := i5 e
    exact ⟨b, hv.kept hb⟩
  · intro _ e
    obtain ⟨b, hv⟩ := i5 e
    rw [hv.p]
    intro x
    have := hv.hi
    injection x with x
    injection x with x
    injection x with x
    omega
theorem inv_alloc5 (h : Inv2 S base X Y a0 l0 l1 l2 l3 l4 l5 l6 l7 a w) (hz : 18 < a0.tmps.size) (hl : l5 = false) (hbase : base ≤ w.heap.size) (hS' : Held S (w.alloc (.cells #[.int .i64 0, .int .u64 0, .string ⟨#[]⟩, .int .i64 0] 24))) :
    Inv2 S base X Y a0 l0 l1 l2 l3 l4 true l6 l7 (a.put (some 8) (.pointer (some ⟨w.heap.size, 0, none⟩))) (w.alloc (.cells #[.int .i64 0, .int .u64 0, .string ⟨#[]⟩, .int .i64 0] 24)) := by
  have hs := h.size
  have hb : Below w.heap.size w (w.alloc (.cells #[.int .i64 0, .int .u64 0, .string ⟨#[]⟩, .int .i64 0] 24)) := (Below.refl _ _).alloc (Nat.le_refl _) _
  obtain ⟨hF, hS, i0, i1, i2, i3, i4, i5, i45, i6, i7⟩ := h
  have h7 : l7 = false := by cases l7 with | false => rfl | true => exact absurd (i7 rfl).2 (by rw [hl]; simp)
  subst h7
  refine ⟨hF.put 8 _ (by omega), hS', ?_, ?_, ?_, ?_, ?_, fun _ => ⟨w.heap.size, ?_⟩, ?_, i6, (fun e => by cases e)⟩
  all_goals simp only [getD_put, show ¬ ((15 : Nat) = 8 ∧ 8 < a.tmps.size) from by omega, show ¬ ((17 : Nat) = 8 ∧ 8 < a.tmps.size) from by omega, show ¬ ((16 : Nat) = 8 ∧ 8 < a.tmps.size) from by omega, show ¬ ((18 : Nat) = 8 ∧ 8 < a.tmps.size) from by omega, show ¬ ((7 : Nat) = 8 ∧ 8 < a.tmps.size) from by omega, show ((8 : Nat) = 8 ∧ 8 < a.tmps.size) from ⟨rfl, by omega⟩, if_false, if_true, and_self]
  · exact i0
  · exact i1
  · exact i2
  · exact i3
  · intro e
    obtain ⟨b, hv⟩ := i4 e
    exact ⟨b, hv.kept hb⟩
  · exact ⟨rfl, hbase, by simp, fun _ => PfxAt.of_alloc w _ 0 0 ⟨#[]⟩ 0 rfl, fun e => by cases e⟩
  · intro e _
    obtain ⟨b, hv⟩ := i4 e
    rw [hv.p]
    intro x
    have := hv.hi
    injection x with x
    injection x with x
    injection x with x
    omega
end
end Go.Proofs.YtkgedoedojkdkaaDoor
