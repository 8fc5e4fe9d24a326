/-
  Parse of the text "v4 10.1.0.0 over 16".
-/
import Derived.Test.YtjchobcmbkiilaaGreatDoorpB23
namespace Go.Proofs.YtjchobcmbkiilaaGreatDoor.Pr
open Go.RowKit
theorem split_Xb (w : World) (m : Int) (hm : w.cell? ⟨1, 0, none⟩ = some (.int .i64 m)) :
    Calls Tryz.prog 141 #[.string ⟨#[49, 48, 46, 49, 46, 48, 46, 48]⟩, .string ⟨#[46]⟩, .int .i64 5] w fun e w' => e = .returned (.slice (some ⟨w.heap.size, 0, none⟩) 4 5) ∧
      w' = w.alloc (.cells #[.string ⟨#[49, 48]⟩, .string ⟨#[49]⟩, .string ⟨#[48]⟩, .string ⟨#[48]⟩, .string ⟨#[]⟩] 9) := by
  have h := Tryz.strings_SplitN ⟨#[49, 48, 46, 49, 46, 48, 46, 48]⟩ ⟨#[46]⟩ 5 m w (by decide) hm (by decide) (by decide) (by decide)
  have e1 : Lib.splitB ⟨#[46]⟩ 0 (min 5 ((⟨#[49, 48, 46, 49, 46, 48, 46, 48]⟩ : ByteArray).size + 1) - 1) ⟨#[49, 48, 46, 49, 46, 48, 46, 48]⟩ = [⟨#[49, 48]⟩, ⟨#[49]⟩, ⟨#[48]⟩, ⟨#[48]⟩] := by decide +kernel
  rw [e1] at h
  exact h
/-- What the loop over the words finds in memory. -/
structure RdAt_Xb (w wr : World) : Prop where
  s0 : wr.cell? ⟨w.heap.size, 0, none⟩ = some (.string ⟨#[46]⟩)
  s1 : wr.cell? ⟨w.heap.size, 1, none⟩ = some (.int .i64 4)
  s2 : wr.cell? ⟨w.heap.size, 2, none⟩ = some (.int .i64 1)
  s3 : wr.cell? ⟨w.heap.size, 3, none⟩ = some (.int .i64 10)
  w0 : wr.cell? ⟨w.heap.size + 1, 0, none⟩ = some (.string ⟨#[49, 48]⟩)
  w1 : wr.cell? ⟨w.heap.size + 1, 1, none⟩ = some (.string ⟨#[49]⟩)
  w2 : wr.cell? ⟨w.heap.size + 1, 2, none⟩ = some (.string ⟨#[48]⟩)
  w3 : wr.cell? ⟨w.heap.size + 1, 3, none⟩ = some (.string ⟨#[48]⟩)
  bel : Below w.heap.size w wr
  sz : w.heap.size + 1 + 1 ≤ wr.heap.size
theorem RdAt_Xb.kept {w wr w' : World} (h : RdAt_Xb w wr) (hb : Below (w.heap.size + 1 + 1) wr w') : RdAt_Xb w w' := by
  have a : w.heap.size < w.heap.size + 1 + 1 := by omega
  have b : w.heap.size + 1 < w.heap.size + 1 + 1 := by omega
  exact ⟨(hb.cell (p := ⟨_, _, none⟩) a).trans h.s0, (hb.cell (p := ⟨_, _, none⟩) a).trans h.s1, (hb.cell (p := ⟨_, _, none⟩) a).trans h.s2, (hb.cell (p := ⟨_, _, none⟩) a).trans h.s3,
    (hb.cell (p := ⟨_, _, none⟩) b).trans h.w0, (hb.cell (p := ⟨_, _, none⟩) b).trans h.w1, (hb.cell (p := ⟨_, _, none⟩) b).trans h.w2, (hb.cell (p := ⟨_, _, none⟩) b).trans h.w3,
    h.bel.trans (hb.mono (by omega)), Nat.le_trans h.sz hb.size⟩
set_option maxRecDepth 100000 in
set_option maxHeartbeats 1600000 in
theorem read_Xb (w : World) (h : Tabs w) :
    Calls Tryz.prog 130 #[.agg #[.string ⟨#[46]⟩, .int .i64 4, .int .i64 1, .int .i64 10], .string ⟨#[49, 48, 46, 49, 46, 48, 46, 48]⟩] w fun e w' => e = .returned (.tuple #[.string ⟨#[10, 1, 0, 0]⟩, .bool true]) ∧ Below w.heap.size w w' := by
  obtain ⟨_, _, ⟨m, hm⟩⟩ := h
  have l3 : 1 < w.heap.size := lt_of_cell hm
  obtain ⟨i0, hi, hz0, hz1, hz2⟩ := info_parts info5
  go_enter Tryz.func130, Tryz.ntmps130
  go_wp2_with (go_at_call 141; refine (split_Xb _ m ?_).mono ?_; (rw [World.cell?_alloc_past _ _ _ l3]; exact hm); rintro e w' ⟨rfl, rfl⟩)
  refine with_world (fun wx => RdAt_Xb w wx) ?_ ?_
  · have hb : Below w.heap.size w ((w.alloc (.cells #[.string ⟨#[46]⟩, .int .i64 4, .int .i64 1, .int .i64 10] 161)).alloc (.cells #[.string ⟨#[49, 48]⟩, .string ⟨#[49]⟩, .string ⟨#[48]⟩, .string ⟨#[48]⟩, .string ⟨#[]⟩] 9)) := ((Below.refl _ _).alloc (Nat.le_refl _) _).alloc (by simp) _
    refine ⟨?_, ?_, ?_, ?_, ?_, ?_, ?_, ?_, hb, by simp⟩
    all_goals first | (rw [World.cell?_alloc_past _ _ _ (by simp), World.cell?_alloc_at _ _ _ _ rfl]; rfl) | (rw [World.cell?_alloc_at _ _ _ _ (by simp)]; rfl)
  intro wx hx
  clear hm l3
  go_loopw [7, 27] (fun v i wr => ∃ k : Nat, k ≤ 4 ∧ i = .int .i64 k ∧ RdAt_Xb w wr ∧ wr.ownsRow (w.heap.size + 1 + 1) 5 1 v k (([10, 1, 0, 0] : List UInt8).take k |>.map (fun b => Value.int .u8 (b.toNat : Int)))) (fun _ i _ => 4 - (intOf i).toNat)
  case atStart => exact ⟨0, by omega, rfl, hx, World.ownsRow_nil _ _ _ _⟩
  case round =>
    obtain ⟨k, hk, rfl, hr, hown⟩ := hrel
    have hk' : k = 0 ∨ k = 1 ∨ k = 2 ∨ k = 3 ∨ k = 4 := by omega
    clear hk hx
    have s0 := hr.s0
    have s1 := hr.s1
    have s2 := hr.s2
    have s3 := hr.s3
    rcases hk' with rfl | rfl | rfl | rfl | rfl
    · have wk := hr.w0
      go_wp2_with fail
      refine (rn8_ok ⟨#[49, 48]⟩ 10 (by decide) (by decide +kernel) (by decide) (by decide +kernel) _).mono ?_
      rintro e w1 ⟨rfl, hb1⟩
      have hr1 := hr.kept (hb1.mono hr.sz)
      have hown1 := ownsRow_below hown hb1
      have t2 := hr1.s2
      clear hown hr wk s0 s1 s2 s3 hb1
      have hsz1 := hr1.sz
      go_wp2_with fail
      refine wp_loop_rounds 2 ?_
      rw [rounds_succ]
      go_wp2_with (at_builtin; refine wpList_append_own _ rfl _ _ 62 rfl (w.heap.size + 1 + 1) 5 i0 (.int .u8 0) 1 1 Tryz.underlying62 hi hz0 hz1 hz2 rfl (by decide) _ _ _ rfl (hown1.alloc _) ⟨w1.heap.size, 0, none⟩ 1 1 [.int .u8 10] rfl rfl (cell_new1 _ _ _) (one_u8 _) (by decide) (by decide) (by simp; omega) ?_; intro v' w2 hown2 hgrow _)
      have hr2 : RdAt_Xb w w2 := hr1.kept (((Below.refl _ _).alloc hsz1 _).grown hgrow (by simp; omega) (fun k e => (hown1.lt k e).1))
      clear hgrow hown1 hr1 t2
      rw [rounds_succ]
      go_wp2
      go_roundw
      case rel => exact ⟨1, by omega, by go_num, hr2, by simpa using hown2⟩
      case measure => simp [intOf]
    · have wk := hr.w1
      go_wp2_with fail
      refine (rn8_ok ⟨#[49]⟩ 1 (by decide) (by decide +kernel) (by decide) (by decide +kernel) _).mono ?_
      rintro e w1 ⟨rfl, hb1⟩
      have hr1 := hr.kept (hb1.mono hr.sz)
      have hown1 := ownsRow_below hown hb1
      have t2 := hr1.s2
      clear hown hr wk s0 s1 s2 s3 hb1
      have hsz1 := hr1.sz
      go_wp2_with fail
      refine wp_loop_rounds 2 ?_
      rw [rounds_succ]
      go_wp2_with (at_builtin; refine wpList_append_own _ rfl _ _ 62 rfl (w.heap.size + 1 + 1) 5 i0 (.int .u8 0) 1 1 Tryz.underlying62 hi hz0 hz1 hz2 rfl (by decide) _ _ _ rfl (hown1.alloc _) ⟨w1.heap.size, 0, none⟩ 1 1 [.int .u8 1] rfl rfl (cell_new1 _ _ _) (one_u8 _) (by decide) (by decide) (by simp; omega) ?_; intro v' w2 hown2 hgrow _)
      have hr2 : RdAt_Xb w w2 := hr1.kept (((Below.refl _ _).alloc hsz1 _).grown hgrow (by simp; omega) (fun k e => (hown1.lt k e).1))
      clear hgrow hown1 hr1 t2
      rw [rounds_succ]
      go_wp2
      go_roundw
      case rel => exact ⟨2, by omega, by go_num, hr2, by simpa using hown2⟩
      case measure => simp [intOf]
    · have wk := hr.w2
      go_wp2_with fail
      refine (rn8_ok ⟨#[48]⟩ 0 (by decide) (by decide +kernel) (by decide) (by decide +kernel) _).mono ?_
      rintro e w1 ⟨rfl, hb1⟩
      have hr1 := hr.kept (hb1.mono hr.sz)
      have hown1 := ownsRow_below hown hb1
      have t2 := hr1.s2
      clear hown hr wk s0 s1 s2 s3 hb1
      have hsz1 := hr1.sz
      go_wp2_with fail
      refine wp_loop_rounds 2 ?_
      rw [rounds_succ]
      go_wp2_with (at_builtin; refine wpList_append_own _ rfl _ _ 62 rfl (w.heap.size + 1 + 1) 5 i0 (.int .u8 0) 1 1 Tryz.underlying62 hi hz0 hz1 hz2 rfl (by decide) _ _ _ rfl (hown1.alloc _) ⟨w1.heap.size, 0, none⟩ 1 1 [.int .u8 0] rfl rfl (cell_new1 _ _ _) (one_u8 _) (by decide) (by decide) (by simp; omega) ?_; intro v' w2 hown2 hgrow _)
      have hr2 : RdAt_Xb w w2 := hr1.kept (((Below.refl _ _).alloc hsz1 _).grown hgrow (by simp; omega) (fun k e => (hown1.lt k e).1))
      clear hgrow hown1 hr1 t2
      rw [rounds_succ]
      go_wp2
      go_roundw
      case rel => exact ⟨3, by omega, by go_num, hr2, by simpa using hown2⟩
      case measure => simp [intOf]
    · have wk := hr.w3
      go_wp2_with fail
      refine (rn8_ok ⟨#[48]⟩ 0 (by decide) (by decide +kernel) (by decide) (by decide +kernel) _).mono ?_
      rintro e w1 ⟨rfl, hb1⟩
      have hr1 := hr.kept (hb1.mono hr.sz)
      have hown1 := ownsRow_below hown hb1
      have t2 := hr1.s2
      clear hown hr wk s0 s1 s2 s3 hb1
      have hsz1 := hr1.sz
      go_wp2_with fail
      refine wp_loop_rounds 2 ?_
      rw [rounds_succ]
      go_wp2_with (at_builtin; refine wpList_append_own _ rfl _ _ 62 rfl (w.heap.size + 1 + 1) 5 i0 (.int .u8 0) 1 1 Tryz.underlying62 hi hz0 hz1 hz2 rfl (by decide) _ _ _ rfl (hown1.alloc _) ⟨w1.heap.size, 0, none⟩ 1 1 [.int .u8 0] rfl rfl (cell_new1 _ _ _) (one_u8 _) (by decide) (by decide) (by simp; omega) ?_; intro v' w2 hown2 hgrow _)
      have hr2 : RdAt_Xb w w2 := hr1.kept (((Below.refl _ _).alloc hsz1 _).grown hgrow (by simp; omega) (fun k e => (hown1.lt k e).1))
      clear hgrow hown1 hr1 t2
      rw [rounds_succ]
      go_wp2
      go_roundw
      case rel => exact ⟨4, by omega, by go_num, hr2, by simpa using hown2⟩
      case measure => simp [intOf]
    · have hv := owned_bytes [10, 1, 0, 0] (by decide) hown
      obtain ⟨g, cap, rfl, hcs⟩ := hv
      have hback := run_convert_bytes_back (P := Tryz.prog) wr 62 9 5 ⟨g, 0, none⟩ cap [10, 1, 0, 0] Tryz.underlying62 Tryz.underlying5 Tryz.underlying9 hcs
      simp only [List.length_cons, List.length_nil] at hback
      clear hcs hown
      go_wp2
      go_ret2
      exact ⟨rfl, hr.bel⟩
set_option maxRecDepth 100000 in
set_option maxHeartbeats 800000 in
theorem addr_Xb (w : World) (h : Tabs w) :
    Calls Tryz.prog 112 #[.string ⟨#[49, 48, 46, 49, 46, 48, 46, 48]⟩] w fun e w' => e = .returned (.tuple #[.string ⟨#[10, 1, 0, 0]⟩, .int .i64 0]) ∧ Below w.heap.size w w' := by
  have h' := h
  obtain ⟨_, ⟨t, fr, h0⟩, _⟩ := h
  have H0 : Hid (w.heap[2]? = some (.cells stCells t fr)) := h0
  clear h0
  go_enter Tryz.func112, Tryz.ntmps112
  go_wp2_with (refine wpList_load_row rfl 162 _ rfl 2 rfl t _ fr _ H0.out Tryz.underlying162 rfl info73 ?_)
  have hsx := sx0
  refine wp_loop_rounds 1 ?_
  rw [rounds_succ]
  go_wp2_with (go_at_call 130; refine (read_Xb _ (h'.below ((Below.refl _ _).alloc (Nat.le_refl _) _))).mono ?_; rintro e w1 ⟨rfl, hb1⟩)
  go_ret2
  exact ⟨rfl, ((Below.refl _ _).alloc (Nat.le_refl _) _).trans (Below.mono (by assumption) (by simp))⟩
set_option maxRecDepth 100000 in
set_option maxHeartbeats 800000 in
theorem prefixr_Xb (w : World) (h : Tabs w) :
    Calls Tryz.prog 100 #[.string ⟨#[118, 52, 32, 49, 48, 46, 49, 46, 48, 46, 48, 47, 49, 54]⟩] w fun e w' =>
      e = .returned (.tuple #[.agg #[.int .i64 1, .int .u64 0, .string ⟨#[10, 1, 0, 0]⟩, .int .i64 16], .bool true]) ∧ Below w.heap.size w w' := by
  go_enter Tryz.func100, Tryz.ntmps100
  go_wp2_with fail
  refine (cut_c _ _ [118, 52] [49, 48, 46, 49, 46, 48, 46, 48, 47, 49, 54] _ ?_ (by decide) (by decide +kernel)).mono ?_
  · exact h.below ((Below.refl _ _).alloc (Nat.le_refl _) _)
  rintro e w1 ⟨rfl, hb1⟩
  have hB1 : Below w.heap.size w w1 := ((Below.refl _ _).alloc (Nat.le_refl _) _).trans (hb1.mono (by simp))
  have h1 := h.below hB1
  have z1 := (PfxAt.of_alloc w _ 0 0 ⟨#[]⟩ 0 rfl).kept hb1 (by simp)
  have hs1 : w.heap.size < w1.heap.size := by have := hb1.size; simp at this; omega
  have fm : famOf [118, 52] = 1 := by decide +kernel
  go_wp2_with fail
  refine (named_any _ _ h1).mono ?_
  rintro e w2 ⟨rfl, hb2⟩
  rw [show famOf (⟨#[118, 52]⟩ : ByteArray).toList = 1 from by rw [ByteArray.toList_eq]; exact fm]
  have h2 := h1.below hb2
  have z2 := z1.kept hb2 hs1
  have hs2 := Nat.lt_of_lt_of_le hs1 hb2.size
  have c14 := h2.rds.c1
  have hB2 := hB1.trans (hb2.mono hB1.size)
  clear z1 h1 hb1 hb2 hs1 fm hB1
  go_wp2_with fail
  refine (cut_c _ _ [49, 48, 46, 49, 46, 48, 46, 48] [49, 54] _ h2 (by decide) (by decide +kernel)).mono ?_
  rintro e w5 ⟨rfl, hb5⟩
  have h5 := h2.below hb5
  have z5 := z2.kept hb5 hs2
  have hs5 := Nat.lt_of_lt_of_le hs2 hb5.size
  have hB5 := hB2.trans (hb5.mono hB2.size)
  clear z2 h2 hb5 hs2 hB2 c14
  go_wp2_with fail
  refine (addr_Xb _ h5).mono ?_
  rintro e w6 ⟨rfl, hb6⟩
  have z6 := z5.kept hb6 hs5
  have hs6 := Nat.lt_of_lt_of_le hs5 hb6.size
  have hB6 := hB5.trans (hb6.mono hB5.size)
  clear z5 h5 hb6 hs5 hB5
  go_wp2_with fail
  refine (rn8_ok _ 16 (by decide) (by decide +kernel) (by decide) (by decide +kernel) _).mono ?_
  rintro e w7 ⟨rfl, hb7⟩
  obtain ⟨d0, d1, d2, d3, g0, g1, g2, g3⟩ := z6.kept hb7 hs6
  have hB7 := hB6.trans (hb7.mono hB6.size)
  clear z6 hb7 hs6 hB6
  go_wp2
  refine bodyPost_ret (v := .tuple #[.agg #[.int .i64 1, .int .u64 0, .string ⟨#[10, 1, 0, 0]⟩, .int .i64 16], .bool true]) (by simp [results, Tryz.results100, go_sem, d0, d1, d2, d3]) rfl ⟨rfl, ?_⟩
  exact (((hB7.setCell (Nat.le_refl _) _).setCell (Nat.le_refl _) _).setCell (Nat.le_refl _) _).setCell (Nat.le_refl _) _
set_option maxRecDepth 100000 in
set_option maxHeartbeats 800000 in
theorem parse_Xb (w : World) (h : Tabs w) :
    Calls Tryz.prog 80 #[.string ⟨#[118, 52, 32, 49, 48, 46, 49, 46, 48, 46, 48, 47, 49, 54]⟩] w fun e w' =>
      e = .returned (.tuple #[.agg #[.int .i64 1, .int .u64 0, .string ⟨#[10, 1, 0, 0]⟩, .int .i64 16], .int .i64 0]) ∧ Below w.heap.size w w' := by
  have hc : chk 1 0 ⟨#[10, 1, 0, 0]⟩ 16 = 0 := by decide +kernel
  have HC : Hid (chk 1 0 ⟨#[10, 1, 0, 0]⟩ 16 = 0) := hc
  clear hc
  go_enter Tryz.func80, Tryz.ntmps80
  go_wp2_with fail
  refine (prefixr_Xb _ (h.below ((Below.refl _ _).alloc (Nat.le_refl _) _))).mono ?_
  rintro e w1 ⟨rfl, hb1⟩
  have hB1 : Below w.heap.size w w1 := ((Below.refl _ _).alloc (Nat.le_refl _) _).trans (hb1.mono (by simp))
  have h1 := h.below hB1
  have z1 := (PfxAt.of_alloc w _ 0 0 ⟨#[]⟩ 0 rfl).kept hb1 (by simp)
  have hs1 : w.heap.size < w1.heap.size := by have := hb1.size; simp at this; omega
  go_wp2_with fail
  have h2 := h1.below ((Below.refl w1.heap.size w1).alloc (Nat.le_refl _) (.cells #[.int .i64 1, .int .u64 0, .string ⟨#[10, 1, 0, 0]⟩, .int .i64 16] 29))
  refine (check_any 1 0 ⟨#[10, 1, 0, 0]⟩ 16 _ h2.sizes h2.rds).mono ?_
  rintro e w2 ⟨rfl, hb2⟩
  rw [HC.out]
  have hbb : Below w1.heap.size w1 w2 := ((Below.refl _ _).alloc (Nat.le_refl _) _).trans (hb2.mono (by simp))
  obtain ⟨p0, p1, p2, p3, _, _, _, _⟩ := (PfxAt.of_alloc w1 _ 1 0 ⟨#[10, 1, 0, 0]⟩ 16 rfl).kept hb2 (by simp)
  obtain ⟨d0, d1, d2, d3, g0, g1, g2, g3⟩ := z1.kept hbb hs1
  have hB2 := hB1.trans (hbb.mono hB1.size)
  have ne : w1.heap.size ≠ w.heap.size := by omega
  clear h1 h2 z1 hb1 hb2 hbb hB1
  go_wp2
  refine bodyPost_ret (v := .tuple #[.agg #[.int .i64 1, .int .u64 0, .string ⟨#[10, 1, 0, 0]⟩, .int .i64 16], .int .i64 0]) (by simp [results, Tryz.results80, go_sem, d0, d1, d2, d3]) rfl ⟨rfl, ?_⟩
  exact (((hB2.setCell (Nat.le_refl _) _).setCell (Nat.le_refl _) _).setCell (Nat.le_refl _) _).setCell (Nat.le_refl _) _
end Go.Proofs.YtjchobcmbkiilaaGreatDoor.Pr
