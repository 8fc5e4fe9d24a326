/-
  The reading of the one text on which every statement's closing words lean: Parse of it.
-/
import Derived.Test.YtjchobcmbkiilaaGreatDoorpB22
namespace Go.Proofs.YtjchobcmbkiilaaGreatDoor.Pr
open Go.RowKit
theorem info73 : (Tryz.prog.info? 162).map (·.size) = some stCells.size := by kernel_rfl
theorem sx0 (w : World) : (Instr.index 162 (.agg stCells) (.int .i64 0)).run Tryz.prog w = .ok (.agg #[.string ⟨#[46]⟩, .int .i64 4, .int .i64 1, .int .i64 10]) w := by kernel_rfl
theorem sx1 (w : World) : (Instr.index 162 (.agg stCells) (.int .i64 1)).run Tryz.prog w = .ok (.agg #[.string ⟨#[58]⟩, .int .i64 8, .int .i64 2, .int .i64 16]) w := by kernel_rfl
set_option maxRecDepth 100000 in
set_option maxHeartbeats 800000 in
theorem addr_w (w : World) (h : Tabs w) :
    Calls Tryz.prog 112 #[.string ⟨#[49, 48, 46, 49, 46, 48, 46, 48]⟩] w fun e w' => e = .returned (.tuple #[.string ⟨#[10, 1, 0, 0]⟩, .int .i64 0]) ∧ Below w.heap.size w w' := by
  have h' := h
  obtain ⟨_, ⟨t, fr, h0⟩, _⟩ := h
  have H0 : Hid (w.heap[2]? = some (.cells stCells t fr)) := h0
  clear h0
  go_enter Tryz.func112, Tryz.ntmps112
  go_wp2_with (refine wpList_load_row rfl 162 _ rfl 2 rfl t _ fr _ H0.out Tryz.underlying162 rfl info73 ?_)
  have hsx := sx0
  refine wp_loop_rounds 1 ?_
  rw [rounds_succ]
  go_wp2_with (go_at_call 130; refine (read_w _ (h'.below ((Below.refl _ _).alloc (Nat.le_refl _) _))).mono ?_; rintro e w1 ⟨rfl, hb1⟩)
  go_ret2
  exact ⟨rfl, ((Below.refl _ _).alloc (Nat.le_refl _) _).trans (Below.mono (by assumption) (by simp))⟩
/-- Cut at a text that is there. -/
theorem cut_c (s sep : ByteArray) (a b : List UInt8) (w : World) (h : Tabs w) (hs : s.size < 4294967281) (hc : Lib.cut s.data.toList sep.data.toList = (a, b, true)) :
    Calls Tryz.prog 58 #[.string s, .string sep] w fun e w' => e = .returned (.tuple #[.string ⟨a.toArray⟩, .string ⟨b.toArray⟩, .bool true]) ∧ Below w.heap.size w w' := by
  obtain ⟨_, _, ⟨m, hm⟩⟩ := h
  have c := Tryz.strings_Cut s sep m w hs hm
  rw [hc] at c
  refine c.mono ?_
  rintro e w' ⟨rfl, n, rfl⟩
  exact ⟨rfl, below_drewN' (Below.refl _ _) n⟩
set_option maxRecDepth 100000 in
set_option maxHeartbeats 800000 in
theorem prefix_w (w : World) (h : Tabs w) :
    Calls Tryz.prog 100 #[.string ⟨#[118, 112, 110, 52, 32, 55, 32, 49, 48, 46, 49, 46, 48, 46, 48, 47, 49, 54]⟩] w fun e w' =>
      e = .returned (.tuple #[.agg #[.int .i64 4, .int .u64 7, .string ⟨#[10, 1, 0, 0]⟩, .int .i64 16], .bool true]) ∧ Below w.heap.size w w' := by
  go_enter Tryz.func100, Tryz.ntmps100
  go_wp2_with fail
  refine (cut_c _ _ [118, 112, 110, 52] [55, 32, 49, 48, 46, 49, 46, 48, 46, 48, 47, 49, 54] _ ?_ (by decide) (by decide +kernel)).mono ?_
  · exact h.below ((Below.refl _ _).alloc (Nat.le_refl _) _)
  rintro e w1 ⟨rfl, hb1⟩
  have hB1 : Below w.heap.size w w1 := ((Below.refl _ _).alloc (Nat.le_refl _) _).trans (hb1.mono (by simp))
  have h1 := h.below hB1
  have z1 := (PfxAt.of_alloc w _ 0 0 ⟨#[]⟩ 0 rfl).kept hb1 (by simp)
  have hs1 : w.heap.size < w1.heap.size := by have := hb1.size; simp at this; omega
  have fm : famOf [118, 112, 110, 52] = 4 := by decide +kernel
  go_wp2_with fail
  refine (named_any _ _ h1).mono ?_
  rintro e w2 ⟨rfl, hb2⟩
  rw [show famOf (⟨#[118, 112, 110, 52]⟩ : ByteArray).toList = 4 from by rw [ByteArray.toList_eq]; exact fm]
  have h2 := h1.below hb2
  have z2 := z1.kept hb2 hs1
  have hs2 := Nat.lt_of_lt_of_le hs1 hb2.size
  have c14 := h2.rds.c4
  have hB2 := hB1.trans (hb2.mono hB1.size)
  clear z1 h1 hb1 hb2 hs1 fm hB1
  go_wp2_with fail
  refine (cut_c _ _ [55] [49, 48, 46, 49, 46, 48, 46, 48, 47, 49, 54] _ h2 (by decide) (by decide +kernel)).mono ?_
  rintro e w3 ⟨rfl, hb3⟩
  have h3 := h2.below hb3
  have z3 := z2.kept hb3 hs2
  have hs3 := Nat.lt_of_lt_of_le hs2 hb3.size
  have hB3 := hB2.trans (hb3.mono hB2.size)
  clear z2 h2 hb3 hs2 c14 hB2
  go_wp2_with fail
  refine (rn64_ok _ 7 (by decide) (by decide +kernel) (by decide) (by decide +kernel) _).mono ?_
  rintro e w4 ⟨rfl, hb4⟩
  have h4 := h3.below hb4
  have z4 := z3.kept hb4 hs3
  have hs4 := Nat.lt_of_lt_of_le hs3 hb4.size
  have hB4 := hB3.trans (hb4.mono hB3.size)
  clear z3 h3 hb4 hs3 hB3
  go_wp2_with fail
  refine (cut_c _ _ [49, 48, 46, 49, 46, 48, 46, 48] [49, 54] _ h4 (by decide) (by decide +kernel)).mono ?_
  rintro e w5 ⟨rfl, hb5⟩
  have h5 := h4.below hb5
  have z5 := z4.kept hb5 hs4
  have hs5 := Nat.lt_of_lt_of_le hs4 hb5.size
  have hB5 := hB4.trans (hb5.mono hB4.size)
  clear z4 h4 hb5 hs4 hB4
  go_wp2_with fail
  refine (addr_w _ h5).mono ?_
  rintro e w6 ⟨rfl, hb6⟩
  have z6 := z5.kept hb6 hs5
  have hs6 := Nat.lt_of_lt_of_le hs5 hb6.size
  have hB6 := hB5.trans (hb6.mono hB5.size)
  clear z5 h5 hb6 hs5 hB5
  go_wp2_with fail
  refine (rn8_ok _ 16 (by decide) (by decide +kernel) (by decide) (by decide +kernel) _).mono ?_
  rintro e w7 ⟨rfl, hb7⟩
  obtain ⟨d0, d1, d2, d3, g0, g1, g2, g3⟩ := z6.kept hb7 hs6
  have hB7 := hB6.trans (hb7.mono hB6.size)
  clear z6 hb7 hs6 hB6
  go_wp2
  refine bodyPost_ret (v := .tuple #[.agg #[.int .i64 4, .int .u64 7, .string ⟨#[10, 1, 0, 0]⟩, .int .i64 16], .bool true]) (by simp [results, Tryz.results100, go_sem, d0, d1, d2, d3]) rfl ⟨rfl, ?_⟩
  exact (((hB7.setCell (Nat.le_refl _) _).setCell (Nat.le_refl _) _).setCell (Nat.le_refl _) _).setCell (Nat.le_refl _) _
set_option maxRecDepth 100000 in
set_option maxHeartbeats 800000 in
theorem parse_w (w : World) (h : Tabs w) :
    Calls Tryz.prog 80 #[.string ⟨#[118, 112, 110, 52, 32, 55, 32, 49, 48, 46, 49, 46, 48, 46, 48, 47, 49, 54]⟩] w fun e w' =>
      e = .returned (.tuple #[.agg #[.int .i64 4, .int .u64 7, .string ⟨#[10, 1, 0, 0]⟩, .int .i64 16], .int .i64 0]) ∧ Below w.heap.size w w' := by
  have hc : chk 4 7 ⟨#[10, 1, 0, 0]⟩ 16 = 0 := by decide +kernel
  have HC : Hid (chk 4 7 ⟨#[10, 1, 0, 0]⟩ 16 = 0) := hc
  clear hc
  go_enter Tryz.func80, Tryz.ntmps80
  go_wp2_with fail
  refine (prefix_w _ (h.below ((Below.refl _ _).alloc (Nat.le_refl _) _))).mono ?_
  rintro e w1 ⟨rfl, hb1⟩
  have hB1 : Below w.heap.size w w1 := ((Below.refl _ _).alloc (Nat.le_refl _) _).trans (hb1.mono (by simp))
  have h1 := h.below hB1
  have z1 := (PfxAt.of_alloc w _ 0 0 ⟨#[]⟩ 0 rfl).kept hb1 (by simp)
  have hs1 : w.heap.size < w1.heap.size := by have := hb1.size; simp at this; omega
  go_wp2_with fail
  have h2 := h1.below ((Below.refl w1.heap.size w1).alloc (Nat.le_refl _) (.cells #[.int .i64 4, .int .u64 7, .string ⟨#[10, 1, 0, 0]⟩, .int .i64 16] 29))
  refine (check_any 4 7 ⟨#[10, 1, 0, 0]⟩ 16 _ h2.sizes h2.rds).mono ?_
  rintro e w2 ⟨rfl, hb2⟩
  rw [HC.out]
  have hbb : Below w1.heap.size w1 w2 := ((Below.refl _ _).alloc (Nat.le_refl _) _).trans (hb2.mono (by simp))
  obtain ⟨p0, p1, p2, p3, _, _, _, _⟩ := (PfxAt.of_alloc w1 _ 4 7 ⟨#[10, 1, 0, 0]⟩ 16 rfl).kept hb2 (by simp)
  obtain ⟨d0, d1, d2, d3, g0, g1, g2, g3⟩ := z1.kept hbb hs1
  have hB2 := hB1.trans (hbb.mono hB1.size)
  have ne : w1.heap.size ≠ w.heap.size := by omega
  clear h1 h2 z1 hb1 hb2 hbb hB1
  go_wp2
  refine bodyPost_ret (v := .tuple #[.agg #[.int .i64 4, .int .u64 7, .string ⟨#[10, 1, 0, 0]⟩, .int .i64 16], .int .i64 0]) (by simp [results, Tryz.results80, go_sem, d0, d1, d2, d3]) rfl ⟨rfl, ?_⟩
  exact (((hB2.setCell (Nat.le_refl _) _).setCell (Nat.le_refl _) _).setCell (Nat.le_refl _) _).setCell (Nat.le_refl _) _
end Go.Proofs.YtjchobcmbkiilaaGreatDoor.Pr
