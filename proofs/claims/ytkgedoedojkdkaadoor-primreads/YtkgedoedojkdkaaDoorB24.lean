/-
  The writing of the one prefix on which every statement's closing words lean: Text of it.
-/
import Derived.Test.YtkgedoedojkdkaaDoorB20
import Derived.Test.YtkgedoedojkdkaaDoorB16
import Derived.LoopN
namespace Go.Proofs.YtkgedoedojkdkaaDoor
open Go.RowKit
theorem mk4 (w : World) : (Instr.makeSlice 66 (.int .i64 4) (.int .i64 4)).run Tryd.prog w = .ok (.slice (some ⟨w.heap.size, 0, none⟩) 4 4) (w.alloc (.cells #[.string ⟨#[]⟩, .string ⟨#[]⟩, .string ⟨#[]⟩, .string ⟨#[]⟩] 9)) := by kernel_rfl
theorem join_w (w : World) (bk : Nat) (c0 : w.cell? ⟨bk, 0, none⟩ = some (.string ⟨#[49, 48]⟩)) (c1 : w.cell? ⟨bk, 1, none⟩ = some (.string ⟨#[49]⟩)) (c2 : w.cell? ⟨bk, 2, none⟩ = some (.string ⟨#[48]⟩)) (c3 : w.cell? ⟨bk, 3, none⟩ = some (.string ⟨#[48]⟩)) :
    Calls Tryd.prog 63 #[.slice (some ⟨bk, 0, none⟩) 4 4, .string ⟨#[46]⟩] w fun e w' => e = .returned (.string ⟨#[49, 48, 46, 49, 46, 48, 46, 48]⟩) ∧ Below w.heap.size w w' := by
  have h := Tryd.strings_Join bk 0 4 [⟨#[49, 48]⟩, ⟨#[49]⟩, ⟨#[48]⟩, ⟨#[48]⟩] ⟨#[46]⟩ w (by
    intro j x hj
    match j, hj with
    | 0, hj => simp at hj; subst hj; exact c0
    | 1, hj => simp at hj; subst hj; exact c1
    | 2, hj => simp at hj; subst hj; exact c2
    | 3, hj => simp at hj; subst hj; exact c3) (lt_of_cell c0) (by decide) (by decide) (by decide +kernel)
  have e1 : Lib.join ([(⟨#[49, 48]⟩ : ByteArray), ⟨#[49]⟩, ⟨#[48]⟩, ⟨#[48]⟩].map (·.data.toList)) (⟨#[46]⟩ : ByteArray).data.toList = [49, 48, 46, 49, 46, 48, 46, 48] := by decide +kernel
  rw [e1] at h
  exact h
set_option maxRecDepth 100000 in
set_option maxHeartbeats 1600000 in
theorem write_w (w : World) :
    Calls Tryd.prog 52 #[.agg #[.string ⟨#[46]⟩, .int .i64 4, .int .i64 1, .int .i64 10], .string ⟨#[10, 1, 0, 0]⟩] w fun e w' => e = .returned (.string ⟨#[49, 48, 46, 49, 46, 48, 46, 48]⟩) ∧ Below w.heap.size w w' := by
  have hmk := mk4
  have d10 : Lib.decDigits 10 = [49, 48] := by decide +kernel
  have d1 : Lib.decDigits 1 = [49] := by decide +kernel
  have d0 : Lib.decDigits 0 = [48] := by decide +kernel
  go_enter Tryd.func52, Tryd.ntmps52
  go_wp2_with fail
  clear hmk
  refine wp_loop_rounds 5 ?_
  rw [rounds_succ]
  go_wp2_with fail
  refine wp_loop_rounds 2 ?_
  rw [rounds_succ]
  go_wp2_with fail
  rw [rounds_succ]
  go_wp2_with (go_at_call 42; refine (fu_small 10 (by decide) _).mono ?_; rintro e w' ⟨rfl, rfl⟩)
  rw [rounds_succ]
  go_wp2_with fail
  refine wp_loop_rounds 2 ?_
  rw [rounds_succ]
  go_wp2_with fail
  rw [rounds_succ]
  go_wp2_with (go_at_call 42; refine (fu_small 1 (by decide) _).mono ?_; rintro e w' ⟨rfl, rfl⟩)
  rw [rounds_succ]
  go_wp2_with fail
  refine wp_loop_rounds 2 ?_
  rw [rounds_succ]
  go_wp2_with fail
  rw [rounds_succ]
  go_wp2_with (go_at_call 42; refine (fu_small 0 (by decide) _).mono ?_; rintro e w' ⟨rfl, rfl⟩)
  rw [rounds_succ]
  go_wp2_with fail
  refine wp_loop_rounds 2 ?_
  rw [rounds_succ]
  go_wp2_with fail
  rw [rounds_succ]
  go_wp2_with (go_at_call 42; refine (fu_small 0 (by decide) _).mono ?_; rintro e w' ⟨rfl, rfl⟩)
  rw [rounds_succ]
  go_wp2_with fail
  refine (join_w _ (w.heap.size + 1) ?_ ?_ ?_ ?_).mono ?_
  · rw [World.cell?_alloc_at _ _ _ _ (by simp)]; rfl
  · rw [World.cell?_alloc_at _ _ _ _ (by simp)]; rfl
  · rw [World.cell?_alloc_at _ _ _ _ (by simp)]; rfl
  · rw [World.cell?_alloc_at _ _ _ _ (by simp)]; rfl
  rintro e w1 ⟨rfl, hb1⟩
  go_wp2
  go_ret
  exact ⟨rfl, (((Below.refl _ _).alloc (Nat.le_refl _) _).alloc (by simp) _).trans (hb1.mono (by simp; omega))⟩
theorem info73' : (Tryd.prog.info? 73).map (·.size) = some stCells.size := by kernel_rfl
theorem sx0' (w : World) : (Instr.index 73 (.agg stCells) (.int .i64 0)).run Tryd.prog w = .ok (.agg #[.string ⟨#[46]⟩, .int .i64 4, .int .i64 1, .int .i64 10]) w := by kernel_rfl
set_option maxRecDepth 100000 in
set_option maxHeartbeats 800000 in
theorem addrText_w (w : World) (h : Tabs w) :
    Calls Tryd.prog 28 #[.string ⟨#[10, 1, 0, 0]⟩] w fun e w' => e = .returned (.tuple #[.string ⟨#[49, 48, 46, 49, 46, 48, 46, 48]⟩, .int .i64 0]) ∧ Below w.heap.size w w' := by
  obtain ⟨_, ⟨t, fr, h0⟩, _⟩ := h
  have H0 : Hid (w.heap[1]? = some (.cells stCells t fr)) := h0
  clear h0
  go_enter Tryd.func28, Tryd.ntmps28
  go_wp2_with (refine wpList_load_row rfl 73 _ rfl 1 rfl t _ fr _ H0.out Tryd.underlying73 rfl info73' ?_)
  have hsx := sx0'
  refine wp_loop_rounds 1 ?_
  rw [rounds_succ]
  go_wp2_with (go_at_call 52; refine (write_w _).mono ?_; rintro e w1 ⟨rfl, hb1⟩)
  go_ret2
  exact ⟨rfl, ((Below.refl _ _).alloc (Nat.le_refl _) _).trans (Below.mono (by assumption) (by simp))⟩
theorem tup_eq {a b : ByteArray} {v : Value} (h : a = b) : Ending.returned (.tuple #[.string a, v]) = .returned (.tuple #[.string b, v]) := by rw [h]
set_option maxRecDepth 100000 in
set_option maxHeartbeats 800000 in
theorem text_w (w : World) (h : Tabs w) :
    Calls Tryd.prog 22 #[.agg #[.int .i64 4, .int .u64 7, .string ⟨#[10, 1, 0, 0]⟩, .int .i64 16]] w fun e w' =>
      e = .returned (.tuple #[.string ⟨#[118, 112, 110, 52, 32, 55, 32, 49, 48, 46, 49, 46, 48, 46, 48, 47, 49, 54]⟩, .int .i64 0]) ∧ Below w.heap.size w w' := by
  have hB : Below w.heap.size w (w.alloc (.cells #[.int .i64 4, .int .u64 7, .string ⟨#[10, 1, 0, 0]⟩, .int .i64 16] 24)) := (Below.refl _ _).alloc (Nat.le_refl _) _
  have h1 := h.below hB
  have hc : chk 4 7 ⟨#[10, 1, 0, 0]⟩ 16 = 0 := by decide +kernel
  have HC : Hid (chk 4 7 ⟨#[10, 1, 0, 0]⟩ 16 = 0) := hc
  have d7 : Lib.decDigits 7 = [55] := by decide +kernel
  have d16 : Lib.decDigits 16 = [49, 54] := by decide +kernel
  clear hc
  go_enter Tryd.func22, Tryd.ntmps22
  go_wp2_with fail
  refine (check_any 4 7 ⟨#[10, 1, 0, 0]⟩ 16 _ h1.sizes h1.rds).mono ?_
  rintro e w1 ⟨rfl, hb1⟩
  rw [HC.out]
  have h2 := h1.below hb1
  obtain ⟨p0, p1, p2, p3, _, _, _, _⟩ := (PfxAt.of_alloc w _ 4 7 ⟨#[10, 1, 0, 0]⟩ 16 rfl).kept hb1 (by simp)
  obtain ⟨t, fr, h0⟩ := h2.fam
  have c12 := cell_of_row w1 0 12 _ t fr h0
  have c13 := cell_of_row w1 0 13 _ t fr h0
  have c14 := cell_of_row w1 0 14 _ t fr h0
  simp [famCells] at c12 c13 c14
  have l0 := lt_of_heap h0
  have hs1 : w.heap.size + 1 ≤ w1.heap.size := by have := hb1.size; simpa using this
  have hs0 : w.heap.size < w1.heap.size := by omega
  clear h0
  go_wp2_with (first | (go_at_call 42; refine (fu_small 7 (by decide) _).mono ?_; rintro e w' ⟨rfl, rfl⟩))
  refine (addrText_w _ (h2.below ((Below.refl _ _).alloc (Nat.le_refl _) _))).mono ?_
  rintro e w3 ⟨rfl, hb3⟩
  have hb4 : Below w1.heap.size w1 w3 := ((Below.refl _ _).alloc (Nat.le_refl _) _).trans (hb3.mono (by simp))
  have q3 := (hb4.cell (p := ⟨w.heap.size, 3, none⟩) hs0).trans p3
  clear p0 p1 p2 p3 c12 c13 c14 h1 h2
  go_wp2_with (go_at_call 43; refine (Tryd.strconv_Itoa_small 16 (by decide) _).mono ?_; rintro e w' ⟨rfl, rfl⟩)
  go_ret2
  refine ⟨?_, (hB.trans (hb1.mono (by simp))).trans (hb4.mono (by omega))⟩
  exact tup_eq (by decide +kernel)
end Go.Proofs.YtkgedoedojkdkaaDoor
