/-
  Sizes of messages: Least, Size, and the reference's.
-/
import Derived.Test.YtkaghjohkhlimabDoorMA
namespace Go.Proofs.YtkaghjohkhlimabDoor
open Go.RowKit
def isK (k : Int) : Bool := decide (1 ≤ k) && decide (k ≤ 5)
def lN (k : Int) : Int := if k = 1 then 10 else if k = 2 then 4 else if k = 3 then 2 else if k = 5 then 4 else 0
def fxK (k : Int) : Bool := decide (k = 4) || decide (k = 5)
def vdC (s : Int) : Array Value := if s = 0 then #[.int .i64 0, .int .u8 0, .int .u8 0] else #[.int .i64 3, .int .u8 1, .int .u8 s]
/-- What is wrong with a size: nothing (0), its length (2), its kind (3). -/
def szW (k b : Int) : Int := if isK k = false then 3 else if b < lN k ∨ 4077 < b ∨ (fxK k = true ∧ b ≠ lN k) then 2 else 0
theorem isK_cases {k : Int} (h : isK k = true) : k = 1 ∨ k = 2 ∨ k = 3 ∨ k = 4 ∨ k = 5 := by
  unfold isK at h; simp at h; omega
theorem size46 : (Tryd.prog.info? 40).map (·.size) = some 6 := by kernel_rfl
theorem size25 : (Tryd.prog.info? 26).map (·.size) = some 3 := by kernel_rfl
theorem size30 : (Tryd.prog.info? 32).map (·.size) = some 3 := by kernel_rfl
theorem leasts_any (w : World) : Calls Tryd.prog 11 #[] w fun e w' => e = .returned (.agg #[.int .i64 0, .int .i64 10, .int .i64 4, .int .i64 2, .int .i64 0, .int .i64 4]) ∧ Below w.heap.size w w' := by
  go_enter Tryd.func11, Tryd.ntmps11
  go_wp2
  refine bodyPost_ret (v := .agg #[.int .i64 0, .int .i64 10, .int .i64 4, .int .i64 2, .int .i64 0, .int .i64 4]) (results_cell_row (P := Tryd.prog) rfl _ _ w.heap.size 40 _ (0, 0) _ rfl (hp_new rfl) Tryd.underlying40 rfl size46) rfl ⟨rfl, (Below.refl _ _).alloc (Nat.le_refl _) _⟩
theorem isFixed_any (k : Int) (w : World) : Calls Tryd.prog 13 #[.int .i64 k] w fun e w' => e = .returned (.bool (fxK k)) ∧ w' = w := by
  by_cases h4 : k = 4
  · subst h4
    go_enter Tryd.func13, Tryd.ntmps13
    go_wp2
    go_ret
    exact ⟨rfl, rfl⟩
  · have g4 : (k == 4) = false := beq_eq_false_iff_ne.2 h4
    by_cases h5 : k = 5
    · subst h5
      clear h4 g4
      go_enter Tryd.func13, Tryd.ntmps13
      go_wp2
      go_ret
      exact ⟨rfl, rfl⟩
    · have g5 : (k == 5) = false := beq_eq_false_iff_ne.2 h5
      have e : fxK k = false := by unfold fxK; simp [h4, h5]
      rw [e]
      clear h4 h5 e
      go_enter Tryd.func13, Tryd.ntmps13
      go_wp2
      go_ret
      exact ⟨rfl, rfl⟩
theorem ix1 (w : World) : (Instr.index 40 (.agg #[.int .i64 0, .int .i64 10, .int .i64 4, .int .i64 2, .int .i64 0, .int .i64 4]) (.int .i64 1)).run Tryd.prog w = .ok (.int .i64 10) w := by kernel_rfl
theorem ix2 (w : World) : (Instr.index 40 (.agg #[.int .i64 0, .int .i64 10, .int .i64 4, .int .i64 2, .int .i64 0, .int .i64 4]) (.int .i64 2)).run Tryd.prog w = .ok (.int .i64 4) w := by kernel_rfl
theorem ix3 (w : World) : (Instr.index 40 (.agg #[.int .i64 0, .int .i64 10, .int .i64 4, .int .i64 2, .int .i64 0, .int .i64 4]) (.int .i64 3)).run Tryd.prog w = .ok (.int .i64 2) w := by kernel_rfl
theorem ix4 (w : World) : (Instr.index 40 (.agg #[.int .i64 0, .int .i64 10, .int .i64 4, .int .i64 2, .int .i64 0, .int .i64 4]) (.int .i64 4)).run Tryd.prog w = .ok (.int .i64 0) w := by kernel_rfl
theorem ix5 (w : World) : (Instr.index 40 (.agg #[.int .i64 0, .int .i64 10, .int .i64 4, .int .i64 2, .int .i64 0, .int .i64 4]) (.int .i64 5)).run Tryd.prog w = .ok (.int .i64 4) w := by kernel_rfl
theorem least_any (k : Int) (w : World) : Calls Tryd.prog 4 #[.int .i64 k] w fun e w' => e = .returned (.tuple #[.int .i64 (lN k), .bool (isK k)]) ∧ Below w.heap.size w w' := by
  cases h : isK k with
  | true =>
    have HK : Hid (_ : Prop) := leasts_any w
    have i1 := ix1
    have i2 := ix2
    have i3 := ix3
    have i4 := ix4
    have i5 := ix5
    rcases isK_cases h with rfl | rfl | rfl | rfl | rfl
    all_goals
      clear h
      go_enter Tryd.func4, Tryd.ntmps4
      go_wp2_with fail
      refine Calls.mono HK.out ?_
      rintro e w1 ⟨rfl, hb1⟩
      go_wp2
      go_ret2
      exact ⟨rfl, hb1⟩
  | false =>
    have h0 : lN k = 0 := by unfold isK at h; simp at h; unfold lN; rw [if_neg (by omega), if_neg (by omega), if_neg (by omega), if_neg (by omega)]
    rw [h0]
    clear h0
    by_cases h1 : k < 1
    · clear h
      go_enter Tryd.func4, Tryd.ntmps4
      go_wp2
      go_ret2
      exact ⟨rfl, Below.refl _ _⟩
    · have h2 : 5 < k := by unfold isK at h; simp at h; omega
      clear h
      go_enter Tryd.func4, Tryd.ntmps4
      go_wp2
      go_ret2
      exact ⟨rfl, Below.refl _ _⟩
/-- A verdict that is being made, in the block behind the answer's. -/
structure VAt (w wr : World) (s : Int) : Prop where
  row : wr.heap[w.heap.size + 1]? = some (.cells (vdC s) 26 (0, 0))
  res : wr.heap[w.heap.size]? = some (.cells (vdC 0) 26 (0, 0))
  bel : Below w.heap.size w wr
theorem VAt.next {w wr w' : World} {s : Int} (h : VAt w wr s) (hb : Below wr.heap.size wr w') : VAt w w' s :=
  ⟨(hb.block _ (lt_of_heap h.row)).trans h.row, (hb.block _ (lt_of_heap h.res)).trans h.res, h.bel.trans (hb.mono h.bel.size)⟩
theorem one25 (s : Int) : (vdC s).all (·.oneCell') = true := by unfold vdC; split <;> simp [Value.oneCell']
theorem wrong_no (sub : Int) (p : Nat) (w : World) :
    Calls Tryd.prog 12 #[.bool false, .int .u8 sub, .pointer (some ⟨p, 0, none⟩)] w fun e w' => e = .returned (.tuple #[]) ∧ w' = w := by
  go_enter Tryd.func12, Tryd.ntmps12
  go_wp2
  go_end0
  exact ⟨rfl, rfl⟩
theorem wrong_late (sub s : Int) (w wr : World) (hs : s ≠ 0) (h : VAt w wr s) (b : Bool) :
    Calls Tryd.prog 12 #[.bool b, .int .u8 sub, .pointer (some ⟨w.heap.size + 1, 0, none⟩)] wr fun e w' => e = .returned (.tuple #[]) ∧ w' = wr := by
  cases b with
  | false => exact wrong_no _ _ _
  | true =>
    have c0 : wr.cell? ⟨w.heap.size + 1, 0, none⟩ = some (.int .i64 3) := cl_row (i := 0) h.row (by unfold vdC; rw [if_neg hs]; rfl)
    clear h hs
    go_enter Tryd.func12, Tryd.ntmps12
    go_wp2
    go_end0
    exact ⟨rfl, rfl⟩
theorem wrong_yes (sub : Int) (w wr : World) (hs : sub ≠ 0) (h : VAt w wr 0) :
    Calls Tryd.prog 12 #[.bool true, .int .u8 sub, .pointer (some ⟨w.heap.size + 1, 0, none⟩)] wr fun e w' => e = .returned (.tuple #[]) ∧ VAt w w' sub := by
  have c0 : wr.cell? ⟨w.heap.size + 1, 0, none⟩ = some (.int .i64 0) := cl_row (i := 0) h.row rfl
  have HH : Hid (VAt w wr 0) := h
  have HS : Hid (vdC sub = #[.int .i64 3, .int .u8 1, .int .u8 sub]) := by unfold Hid vdC; rw [if_neg hs]
  clear h hs
  go_enter Tryd.func12, Tryd.ntmps12
  go_wp2_with (refine wpList_store_row rfl 26 _ _ rfl (w.heap.size + 1) #[.int .i64 3, .int .u8 1, .int .u8 sub] rfl rfl 26 _ HH.out.row size25 rfl (by simp [Value.oneCell']) ?_)
  go_end0
  refine ⟨rfl, ?_, ?_, below_setRow HH.out.bel (by omega) _⟩
  · rw [HS.out]; exact row_same _ _ _ _ HH.out.row
  · exact (row_other _ _ _ _ (by omega)).trans HH.out.res
end Go.Proofs.YtkaghjohkhlimabDoor
