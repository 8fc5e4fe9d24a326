/-
  Parse of the text "v6 0:0:0:0:0:0:0:0 over 0".
-/
import Derived.Test.YtfhbgpepkplbaaaGreatDoorPW
import Derived.Test.YtfhbgpepkplbaaaGreatDoorKB
namespace Go.Proofs.YtfhbgpepkplbaaaGreatDoor
open Go.RowKit
theorem split_6 (w : World) (m : Int) (hm : w.cell? ⟨2, 0, none⟩ = some (.int .i64 m)) :
    Calls Tryz.prog 119 #[.string ⟨#[48, 58, 48, 58, 48, 58, 48, 58, 48, 58, 48, 58, 48, 58, 48]⟩, .string ⟨#[58]⟩, .int .i64 9] w fun e w' => e = .returned (.slice (some ⟨w.heap.size, 0, none⟩) 8 9) ∧ w' = w.alloc (.cells #[.string ⟨#[48]⟩, .string ⟨#[48]⟩, .string ⟨#[48]⟩, .string ⟨#[48]⟩, .string ⟨#[48]⟩, .string ⟨#[48]⟩, .string ⟨#[48]⟩, .string ⟨#[48]⟩, .string ⟨#[]⟩] 9) := by
  have h := Tryz.strings_SplitN ⟨#[48, 58, 48, 58, 48, 58, 48, 58, 48, 58, 48, 58, 48, 58, 48]⟩ ⟨#[58]⟩ 9 m w (by decide) hm (by decide) (by decide) (by decide)
  have e1 : Lib.splitB ⟨#[58]⟩ 0 (min 9 ((⟨#[48, 58, 48, 58, 48, 58, 48, 58, 48, 58, 48, 58, 48, 58, 48]⟩ : ByteArray).size + 1) - 1) ⟨#[48, 58, 48, 58, 48, 58, 48, 58, 48, 58, 48, 58, 48, 58, 48]⟩ = [⟨#[48]⟩, ⟨#[48]⟩, ⟨#[48]⟩, ⟨#[48]⟩, ⟨#[48]⟩, ⟨#[48]⟩, ⟨#[48]⟩, ⟨#[48]⟩] := by decide +kernel
  rw [e1] at h
  exact h
theorem split_no (w : World) (m : Int) (hm : w.cell? ⟨2, 0, none⟩ = some (.int .i64 m)) :
    Calls Tryz.prog 119 #[.string ⟨#[48, 58, 48, 58, 48, 58, 48, 58, 48, 58, 48, 58, 48, 58, 48]⟩, .string ⟨#[46]⟩, .int .i64 5] w fun e w' => e = .returned (.slice (some ⟨w.heap.size, 0, none⟩) 1 5) ∧ Below w.heap.size w w' := by
  have h := Tryz.strings_SplitN ⟨#[48, 58, 48, 58, 48, 58, 48, 58, 48, 58, 48, 58, 48, 58, 48]⟩ ⟨#[46]⟩ 5 m w (by decide) hm (by decide) (by decide) (by decide)
  have e1 : Lib.splitB ⟨#[46]⟩ 0 (min 5 ((⟨#[48, 58, 48, 58, 48, 58, 48, 58, 48, 58, 48, 58, 48, 58, 48]⟩ : ByteArray).size + 1) - 1) ⟨#[48, 58, 48, 58, 48, 58, 48, 58, 48, 58, 48, 58, 48, 58, 48]⟩ = [⟨#[48, 58, 48, 58, 48, 58, 48, 58, 48, 58, 48, 58, 48, 58, 48]⟩] := by decide +kernel
  rw [e1] at h
  refine h.mono ?_
  rintro e w' ⟨rfl, rfl⟩
  exact ⟨rfl, (Below.refl _ _).alloc (Nat.le_refl _) _⟩
set_option maxRecDepth 100000 in
set_option maxHeartbeats 1600000 in
theorem read_no (w : World) (h : Tabs w) : Calls Tryz.prog 113 #[.agg #[.string ⟨#[46]⟩, .int .i64 4, .int .i64 1, .int .i64 10], .string ⟨#[48, 58, 48, 58, 48, 58, 48, 58, 48, 58, 48, 58, 48, 58, 48]⟩] w fun e w' => e = .returned (.tuple #[.string ⟨#[]⟩, .bool false]) ∧ Below w.heap.size w w' := by
  obtain ⟨_, _, ⟨m, hm⟩⟩ := h
  have l3 : 2 < w.heap.size := lt_of_cell hm
  have HS : Hid (_ : Prop) := split_no (w.alloc (.cells #[.string ⟨#[46]⟩, .int .i64 4, .int .i64 1, .int .i64 10] 147)) m (by rw [World.cell?_alloc_past _ _ _ l3]; exact hm)
  clear hm l3
  go_enter Tryz.func113, Tryz.ntmps113
  go_wp2_with fail
  refine Calls.mono HS.out ?_
  rintro e w1 ⟨rfl, hb⟩
  have HB : Hid (Below w.heap.size w w1) := ((Below.refl _ _).alloc (Nat.le_refl _) _).trans (hb.mono (by simp))
  have c1 : w1.cell? ⟨w.heap.size, 1, none⟩ = some (.int .i64 4) := (hb.cell (p := ⟨w.heap.size, 1, none⟩) (by simp)).trans (by simp)
  clear hb
  go_wp2
  go_ret2
  exact ⟨rfl, HB.out⟩
/-- What the loop over the words finds in memory. -/
structure Rd6 (w wr : World) : Prop where
  s0 : wr.cell? ⟨w.heap.size, 0, none⟩ = some (.string ⟨#[58]⟩)
  s1 : wr.cell? ⟨w.heap.size, 1, none⟩ = some (.int .i64 8)
  s2 : wr.cell? ⟨w.heap.size, 2, none⟩ = some (.int .i64 2)
  s3 : wr.cell? ⟨w.heap.size, 3, none⟩ = some (.int .i64 16)
  wk : ∀ k, k < 8 → wr.cell? ⟨w.heap.size + 1, k, none⟩ = some (.string ⟨#[48]⟩)
  bel : Below w.heap.size w wr
  sz : w.heap.size + 1 + 1 ≤ wr.heap.size
theorem Rd6.kept {w wr w' : World} (h : Rd6 w wr) (hb : Below (w.heap.size + 1 + 1) wr w') : Rd6 w w' := by
  have a : w.heap.size < w.heap.size + 1 + 1 := by omega
  have b : w.heap.size + 1 < w.heap.size + 1 + 1 := by omega
  exact ⟨(hb.cell (p := ⟨_, _, none⟩) a).trans h.s0, (hb.cell (p := ⟨_, _, none⟩) a).trans h.s1, (hb.cell (p := ⟨_, _, none⟩) a).trans h.s2, (hb.cell (p := ⟨_, _, none⟩) a).trans h.s3,
    fun k hk => (hb.cell (p := ⟨_, _, none⟩) b).trans (h.wk k hk), h.bel.trans (hb.mono (by omega)), Nat.le_trans h.sz hb.size⟩
theorem rep_snoc (k : Nat) : List.replicate k (Value.int .u8 0) ++ [.int .u8 0] = List.replicate (k + 1) (Value.int .u8 0) := by rw [List.replicate_succ']
set_option maxRecDepth 100000 in
set_option maxHeartbeats 3200000 in
theorem read_6 (w : World) (h : Tabs w) (hd : Deb w) :
    Calls Tryz.prog 113 #[.agg #[.string ⟨#[58]⟩, .int .i64 8, .int .i64 2, .int .i64 16], .string ⟨#[48, 58, 48, 58, 48, 58, 48, 58, 48, 58, 48, 58, 48, 58, 48]⟩] w fun e w' => e = .returned (.tuple #[.string ⟨#[0, 0, 0, 0, 0, 0, 0, 0, 0, 0, 0, 0, 0, 0, 0, 0]⟩, .bool true]) ∧ Below w.heap.size w w' := by
  obtain ⟨_, _, ⟨m, hm⟩⟩ := h
  have l3 : 2 < w.heap.size := lt_of_cell hm
  obtain ⟨i0, hi, hz0, hz1, hz2⟩ := info_parts infoB5
  have HD : Hid (Deb w) := hd
  clear hd
  go_enter Tryz.func113, Tryz.ntmps113
  go_wp2_with (go_at_call 119; refine (split_6 _ m ?_).mono ?_; (rw [World.cell?_alloc_past _ _ _ l3]; exact hm); rintro e w' ⟨rfl, rfl⟩)
  refine with_world (fun wx => Rd6 w wx) ?_ ?_
  · have hb : Below w.heap.size w ((w.alloc (.cells #[.string ⟨#[58]⟩, .int .i64 8, .int .i64 2, .int .i64 16] 147)).alloc (.cells #[.string ⟨#[48]⟩, .string ⟨#[48]⟩, .string ⟨#[48]⟩, .string ⟨#[48]⟩, .string ⟨#[48]⟩, .string ⟨#[48]⟩, .string ⟨#[48]⟩, .string ⟨#[48]⟩, .string ⟨#[]⟩] 9)) := ((Below.refl _ _).alloc (Nat.le_refl _) _).alloc (by simp) _
    refine ⟨?_, ?_, ?_, ?_, fun k hk => ?_, hb, by simp⟩
    all_goals first | (rw [World.cell?_alloc_past _ _ _ (by simp), World.cell?_alloc_at _ _ _ _ rfl]; rfl) | skip
    rw [World.cell?_alloc_at _ _ _ _ (by simp)]
    have hk' : k = 0 ∨ k = 1 ∨ k = 2 ∨ k = 3 ∨ k = 4 ∨ k = 5 ∨ k = 6 ∨ k = 7 := by omega
    rcases hk' with rfl | rfl | rfl | rfl | rfl | rfl | rfl | rfl <;> rfl
  intro wx hx
  clear hm l3
  go_loopw [7, 27] (fun v i wr => ∃ k : Nat, k ≤ 8 ∧ i = .int .i64 k ∧ Rd6 w wr ∧ wr.ownsRow (w.heap.size + 1 + 1) 5 1 v (2 * k) (List.replicate (2 * k) (Value.int .u8 0))) (fun _ i _ => 8 - (intOf i).toNat)
  case atStart => exact ⟨0, by omega, rfl, hx, World.ownsRow_nil _ _ _ _⟩
  case round =>
    obtain ⟨k, hk, rfl, hr, hown⟩ := hrel
    clear hx
    have s0 := hr.s0
    have s1 := hr.s1
    have s2 := hr.s2
    have s3 := hr.s3
    by_cases hlt : k < 8
    · have hltI : (k : Int) < 8 := by omega
      have wk := hr.wk k hlt
      have HO : Hid (wr.ownsRow _ _ _ _ _ _) := hown
      clear hown
      go_wp2_with fail
      refine (rn16_0 _ (HD.out.below hr.bel)).mono ?_
      rintro e w1 ⟨rfl, hb1⟩
      have hr1 := hr.kept (hb1.mono hr.sz)
      have HO1 : Hid (w1.ownsRow _ _ _ _ _ _) := ownsRow_below HO.out hb1
      have t2 := hr1.s2
      clear hr wk s0 s1 s2 s3 hb1 HO
      have hsz1 := hr1.sz
      have HK : Hid (k ≤ 8) := hk
      go_wp2_with fail
      refine wp_loop_rounds 3 ?_
      rw [rounds_succ]
      go_wp2_with (at_builtin; refine wpList_append_own _ rfl _ _ 60 rfl (w.heap.size + 1 + 1) 5 i0 (.int .u8 0) 1 1 Tryz.underlying60 hi hz0 hz1 hz2 rfl (by decide) _ _ _ rfl (HO1.out.alloc _) ⟨w1.heap.size, 0, none⟩ 1 1 [.int .u8 0] rfl rfl (cell_new1 _ _ _) (one_u8 _) (by have := HK.out; unfold maxLen; omega) (by have := HK.out; omega) (by simp; omega) ?_; intro v' w2 hown2 hgrow _)
      have hr2 : Rd6 w w2 := hr1.kept (((Below.refl _ _).alloc hsz1 _).grown hgrow (by simp; omega) (fun k e => (HO1.out.lt k e).1))
      rw [rep_snoc] at hown2
      have HO2 : Hid (w2.ownsRow _ _ _ _ _ _) := hown2
      have hsz2 := hr2.sz
      clear hgrow hr1 t2 hown2 HO1 hsz1
      rw [rounds_succ]
      go_wp2_with (at_builtin; refine wpList_append_own _ rfl _ _ 60 rfl (w.heap.size + 1 + 1) 5 i0 (.int .u8 0) 1 1 Tryz.underlying60 hi hz0 hz1 hz2 rfl (by decide) _ _ _ rfl (HO2.out.alloc _) ⟨w2.heap.size, 0, none⟩ 1 1 [.int .u8 0] rfl rfl (cell_new1 _ _ _) (one_u8 _) (by have := HK.out; unfold maxLen; omega) (by have := HK.out; omega) (by simp; omega) ?_; intro v3 w3 hown3 hgrow3 _)
      have hr3 : Rd6 w w3 := hr2.kept (((Below.refl _ _).alloc hsz2 _).grown hgrow3 (by simp; omega) (fun k e => (HO2.out.lt k e).1))
      rw [rep_snoc] at hown3
      have HO3 : Hid (w3.ownsRow _ _ _ _ _ _) := hown3
      clear hgrow3 hr2 hown3 HO2 hsz2
      rw [rounds_succ]
      go_wp2
      go_roundw
      case rel => exact ⟨k + 1, by omega, by go_num, hr3, HO3.out⟩
      case measure => simp [intOf]; omega
    · obtain rfl : k = 8 := by omega
      have hv := owned_bytes (List.replicate 16 0) (by decide) hown
      obtain ⟨g, cap, rfl, hcs⟩ := hv
      have hback := run_convert_bytes_back (P := Tryz.prog) wr 60 9 5 ⟨g, 0, none⟩ cap (List.replicate 16 0) Tryz.underlying60 Tryz.underlying5 Tryz.underlying9 hcs
      simp only [List.length_replicate] at hback
      clear hcs hown
      go_wp2
      go_ret2
      exact ⟨rfl, hr.bel⟩
set_option maxRecDepth 100000 in
set_option maxHeartbeats 800000 in
theorem addr_6 (w : World) (h : Tabs w) (hd : Deb w) :
    Calls Tryz.prog 102 #[.string ⟨#[48, 58, 48, 58, 48, 58, 48, 58, 48, 58, 48, 58, 48, 58, 48]⟩] w fun e w' => e = .returned (.tuple #[.string ⟨#[0, 0, 0, 0, 0, 0, 0, 0, 0, 0, 0, 0, 0, 0, 0, 0]⟩, .int .i64 0]) ∧ Below w.heap.size w w' := by
  have h' := h
  obtain ⟨_, ⟨t, fr, h0⟩, _⟩ := h
  have H0 : Hid (w.heap[1]? = some (.cells stCells t fr)) := h0
  clear h0
  go_enter Tryz.func102, Tryz.ntmps102
  go_wp2_with (refine wpList_load_row rfl 148 _ rfl 1 rfl t _ fr _ H0.out Tryz.underlying148 rfl info73 ?_)
  have hsx := sx0
  have hsy := sx1
  refine wp_loop_rounds 2 ?_
  rw [rounds_succ]
  go_wp2_with fail
  refine (read_no _ (h'.below ((Below.refl _ _).alloc (Nat.le_refl _) _))).mono ?_
  rintro e w1 ⟨rfl, hb1⟩
  have HB1 : Hid (Below w.heap.size w w1) := ((Below.refl _ _).alloc (Nat.le_refl _) _).trans (hb1.mono (by simp))
  clear hb1
  go_wp2_with fail
  rw [rounds_succ]
  go_wp2_with fail
  have HB2 : Hid (∀ o, Below w.heap.size w (w1.alloc o)) := fun o => HB1.out.alloc HB1.out.size _
  refine (read_6 _ (h'.below (HB2.out _)) (hd.below (HB2.out _))).mono ?_
  rintro e w2 ⟨rfl, hb2⟩
  have HB3 : Hid (Below w.heap.size w w2) := (HB2.out _).trans (hb2.mono (by have := HB1.out.size; simp; omega))
  clear hb2
  go_wp2
  go_ret2
  exact ⟨rfl, HB3.out⟩
set_option maxRecDepth 100000 in
set_option maxHeartbeats 800000 in
theorem prefixr_6 (w : World) (h : Tabs w) (hd : Deb w) :
    Calls Tryz.prog 78 #[.string ⟨#[118, 54, 32, 48, 58, 48, 58, 48, 58, 48, 58, 48, 58, 48, 58, 48, 58, 48, 47, 48]⟩] w fun e w' =>
      e = .returned (.tuple #[.agg #[.int .i64 2, .int .u64 0, .string ⟨#[0, 0, 0, 0, 0, 0, 0, 0, 0, 0, 0, 0, 0, 0, 0, 0]⟩, .int .i64 0], .bool true]) ∧ Below w.heap.size w w' := by
  go_enter Tryz.func78, Tryz.ntmps78
  go_wp2_with fail
  refine (cut_c _ _ [118, 54] [48, 58, 48, 58, 48, 58, 48, 58, 48, 58, 48, 58, 48, 58, 48, 47, 48] _ ?_ (by decide) (by decide +kernel)).mono ?_
  · exact h.below ((Below.refl _ _).alloc (Nat.le_refl _) _)
  rintro e w1 ⟨rfl, hb1⟩
  have hB1 : Below w.heap.size w w1 := ((Below.refl _ _).alloc (Nat.le_refl _) _).trans (hb1.mono (by simp))
  have h1 := h.below hB1
  have z1 := (PfxAt.of_alloc w _ 0 0 ⟨#[]⟩ 0 rfl).kept hb1 (by simp)
  have hs1 : w.heap.size < w1.heap.size := by have := hb1.size; simp at this; omega
  have fm : famOf [118, 54] = 2 := by decide +kernel
  go_wp2_with fail
  refine (named_any _ _ h1).mono ?_
  rintro e w2 ⟨rfl, hb2⟩
  rw [show famOf (⟨#[118, 54]⟩ : ByteArray).toList = 2 from by rw [ByteArray.toList_eq]; exact fm]
  have h2 := h1.below hb2
  have z2 := z1.kept hb2 hs1
  have hs2 := Nat.lt_of_lt_of_le hs1 hb2.size
  have c14 := h2.rds.c2
  have hB2 := hB1.trans (hb2.mono hB1.size)
  clear z1 h1 hb1 hb2 hs1 fm hB1
  go_wp2_with fail
  refine (cut_c _ _ [48, 58, 48, 58, 48, 58, 48, 58, 48, 58, 48, 58, 48, 58, 48] [48] _ h2 (by decide) (by decide +kernel)).mono ?_
  rintro e w5 ⟨rfl, hb5⟩
  have h5 := h2.below hb5
  have z5 := z2.kept hb5 hs2
  have hs5 := Nat.lt_of_lt_of_le hs2 hb5.size
  have hB5 := hB2.trans (hb5.mono hB2.size)
  clear z2 h2 hb5 hs2 hB2 c14
  go_wp2_with fail
  refine (addr_6 _ h5 (hd.below hB5)).mono ?_
  rintro e w6 ⟨rfl, hb6⟩
  have z6 := z5.kept hb6 hs5
  have hs6 := Nat.lt_of_lt_of_le hs5 hb6.size
  have hB6 := hB5.trans (hb6.mono hB5.size)
  clear z5 h5 hb6 hs5 hB5
  go_wp2_with fail
  refine (rn8_ok _ 0 (by decide) (by decide +kernel) (by decide) (by decide +kernel) _).mono ?_
  rintro e w7 ⟨rfl, hb7⟩
  obtain ⟨d0, d1, d2, d3, g0, g1, g2, g3⟩ := z6.kept hb7 hs6
  have hB7 := hB6.trans (hb7.mono hB6.size)
  clear z6 hb7 hs6 hB6
  go_wp2
  refine bodyPost_ret (v := .tuple #[.agg #[.int .i64 2, .int .u64 0, .string ⟨#[0, 0, 0, 0, 0, 0, 0, 0, 0, 0, 0, 0, 0, 0, 0, 0]⟩, .int .i64 0], .bool true]) (by simp [results, Tryz.results78, go_sem, d0, d1, d2, d3]) rfl ⟨rfl, ?_⟩
  exact (((hB7.setCell (Nat.le_refl _) _).setCell (Nat.le_refl _) _).setCell (Nat.le_refl _) _).setCell (Nat.le_refl _) _
set_option maxRecDepth 100000 in
set_option maxHeartbeats 800000 in
theorem parse_6 (w : World) (h : Tabs w) (hd : Deb w) :
    Calls Tryz.prog 46 #[.string ⟨#[118, 54, 32, 48, 58, 48, 58, 48, 58, 48, 58, 48, 58, 48, 58, 48, 58, 48, 47, 48]⟩] w fun e w' =>
      e = .returned (.tuple #[.agg #[.int .i64 2, .int .u64 0, .string ⟨#[0, 0, 0, 0, 0, 0, 0, 0, 0, 0, 0, 0, 0, 0, 0, 0]⟩, .int .i64 0], .int .i64 0]) ∧ Below w.heap.size w w' := by
  have hc : chk 2 0 ⟨#[0, 0, 0, 0, 0, 0, 0, 0, 0, 0, 0, 0, 0, 0, 0, 0]⟩ 0 = 0 := by decide +kernel
  have HC : Hid (chk 2 0 ⟨#[0, 0, 0, 0, 0, 0, 0, 0, 0, 0, 0, 0, 0, 0, 0, 0]⟩ 0 = 0) := hc
  clear hc
  go_enter Tryz.func46, Tryz.ntmps46
  go_wp2_with fail
  refine (prefixr_6 _ (h.below ((Below.refl _ _).alloc (Nat.le_refl _) _)) (hd.below ((Below.refl _ _).alloc (Nat.le_refl _) _))).mono ?_
  rintro e w1 ⟨rfl, hb1⟩
  have hB1 : Below w.heap.size w w1 := ((Below.refl _ _).alloc (Nat.le_refl _) _).trans (hb1.mono (by simp))
  have h1 := h.below hB1
  have z1 := (PfxAt.of_alloc w _ 0 0 ⟨#[]⟩ 0 rfl).kept hb1 (by simp)
  have hs1 : w.heap.size < w1.heap.size := by have := hb1.size; simp at this; omega
  go_wp2_with fail
  have h2 := h1.below ((Below.refl w1.heap.size w1).alloc (Nat.le_refl _) (.cells #[.int .i64 2, .int .u64 0, .string ⟨#[0, 0, 0, 0, 0, 0, 0, 0, 0, 0, 0, 0, 0, 0, 0, 0]⟩, .int .i64 0] 24))
  refine (check_any 2 0 ⟨#[0, 0, 0, 0, 0, 0, 0, 0, 0, 0, 0, 0, 0, 0, 0, 0]⟩ 0 _ h2.sizes h2.rds).mono ?_
  rintro e w2 ⟨rfl, hb2⟩
  rw [HC.out]
  have hbb : Below w1.heap.size w1 w2 := ((Below.refl _ _).alloc (Nat.le_refl _) _).trans (hb2.mono (by simp))
  obtain ⟨p0, p1, p2, p3, _, _, _, _⟩ := (PfxAt.of_alloc w1 _ 2 0 ⟨#[0, 0, 0, 0, 0, 0, 0, 0, 0, 0, 0, 0, 0, 0, 0, 0]⟩ 0 rfl).kept hb2 (by simp)
  obtain ⟨d0, d1, d2, d3, g0, g1, g2, g3⟩ := z1.kept hbb hs1
  have hB2 := hB1.trans (hbb.mono hB1.size)
  have ne : w1.heap.size ≠ w.heap.size := by omega
  clear h1 h2 z1 hb1 hb2 hbb hB1
  go_wp2
  refine bodyPost_ret (v := .tuple #[.agg #[.int .i64 2, .int .u64 0, .string ⟨#[0, 0, 0, 0, 0, 0, 0, 0, 0, 0, 0, 0, 0, 0, 0, 0]⟩, .int .i64 0], .int .i64 0]) (by simp [results, Tryz.results46, go_sem, d0, d1, d2, d3]) rfl ⟨rfl, ?_⟩
  exact (((hB2.setCell (Nat.le_refl _) _).setCell (Nat.le_refl _) _).setCell (Nat.le_refl _) _).setCell (Nat.le_refl _) _
end Go.Proofs.YtfhbgpepkplbaaaGreatDoor
