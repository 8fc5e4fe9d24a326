/-
  Parse of the text "v4 10.0.0.0 over 8".
-/
import Derived.Test.YtfhbgpepkplbaaaGreatDoorPW
namespace Go.Proofs.YtfhbgpepkplbaaaGreatDoor
open Go.RowKit
set_option maxRecDepth 100000 in
set_option maxHeartbeats 800000 in
theorem prefixr_kg (w : World) (h : Tabs w) :
    Calls Tryz.prog 78 #[.string ⟨#[118, 52, 32, 49, 48, 46, 48, 46, 48, 46, 48, 47, 56]⟩] w fun e w' =>
      e = .returned (.tuple #[.agg #[.int .i64 1, .int .u64 0, .string ⟨#[10, 0, 0, 0]⟩, .int .i64 8], .bool true]) ∧ Below w.heap.size w w' := by
  go_enter Tryz.func78, Tryz.ntmps78
  go_wp2_with fail
  refine (cut_c _ _ [118, 52] [49, 48, 46, 48, 46, 48, 46, 48, 47, 56] _ ?_ (by decide) (by decide +kernel)).mono ?_
  · exact h.below ((Below.refl _ _).alloc (Nat.le_refl _) _)
  rintro e w1 ⟨rfl, hb1⟩
  have hB1 : Below w.heap.size w w1 := ((Below.refl _ _).alloc (Nat.le_refl _) _).trans (hb1.mono (by simp))
  have h1 := h.below hB1
  have z1 := (PfxAt.of_alloc w _ 0 0 ⟨#[]⟩ 0 rfl).kept hb1 (by simp)
  have hs1 : w.heap.size < w1.heap.size := by have := hb1.size; simp at this; omega
  have fm : famOf [118, 52] = 1 := by decide +kernel
  go_wp2_with fail
  refine (named_any _ _ h1).mono ?_
  rintro e w2 ⟨rfl, hb2⟩
  rw [show famOf (⟨#[118, 52]⟩ : ByteArray).toList = 1 from by rw [ByteArray.toList_eq]; exact fm]
  have h2 := h1.below hb2
  have z2 := z1.kept hb2 hs1
  have hs2 := Nat.lt_of_lt_of_le hs1 hb2.size
  have c14 := h2.rds.c1
  have hB2 := hB1.trans (hb2.mono hB1.size)
  clear z1 h1 hb1 hb2 hs1 fm hB1
  go_wp2_with fail
  refine (cut_c _ _ [49, 48, 46, 48, 46, 48, 46, 48] [56] _ h2 (by decide) (by decide +kernel)).mono ?_
  rintro e w5 ⟨rfl, hb5⟩
  have h5 := h2.below hb5
  have z5 := z2.kept hb5 hs2
  have hs5 := Nat.lt_of_lt_of_le hs2 hb5.size
  have hB5 := hB2.trans (hb5.mono hB2.size)
  clear z2 h2 hb5 hs2 hB2 c14
  go_wp2_with fail
  refine (addr_W _ h5).mono ?_
  rintro e w6 ⟨rfl, hb6⟩
  have z6 := z5.kept hb6 hs5
  have hs6 := Nat.lt_of_lt_of_le hs5 hb6.size
  have hB6 := hB5.trans (hb6.mono hB5.size)
  clear z5 h5 hb6 hs5 hB5
  go_wp2_with fail
  refine (rn8_ok _ 8 (by decide) (by decide +kernel) (by decide) (by decide +kernel) _).mono ?_
  rintro e w7 ⟨rfl, hb7⟩
  obtain ⟨d0, d1, d2, d3, g0, g1, g2, g3⟩ := z6.kept hb7 hs6
  have hB7 := hB6.trans (hb7.mono hB6.size)
  clear z6 hb7 hs6 hB6
  go_wp2
  refine bodyPost_ret (v := .tuple #[.agg #[.int .i64 1, .int .u64 0, .string ⟨#[10, 0, 0, 0]⟩, .int .i64 8], .bool true]) (by simp [results, Tryz.results78, go_sem, d0, d1, d2, d3]) rfl ⟨rfl, ?_⟩
  exact (((hB7.setCell (Nat.le_refl _) _).setCell (Nat.le_refl _) _).setCell (Nat.le_refl _) _).setCell (Nat.le_refl _) _
set_option maxRecDepth 100000 in
set_option maxHeartbeats 800000 in
theorem parse_kg (w : World) (h : Tabs w) :
    Calls Tryz.prog 46 #[.string ⟨#[118, 52, 32, 49, 48, 46, 48, 46, 48, 46, 48, 47, 56]⟩] w fun e w' =>
      e = .returned (.tuple #[.agg #[.int .i64 1, .int .u64 0, .string ⟨#[10, 0, 0, 0]⟩, .int .i64 8], .int .i64 0]) ∧ Below w.heap.size w w' := by
  have hc : chk 1 0 ⟨#[10, 0, 0, 0]⟩ 8 = 0 := by decide +kernel
  have HC : Hid (chk 1 0 ⟨#[10, 0, 0, 0]⟩ 8 = 0) := hc
  clear hc
  go_enter Tryz.func46, Tryz.ntmps46
  go_wp2_with fail
  refine (prefixr_kg _ (h.below ((Below.refl _ _).alloc (Nat.le_refl _) _))).mono ?_
  rintro e w1 ⟨rfl, hb1⟩
  have hB1 : Below w.heap.size w w1 := ((Below.refl _ _).alloc (Nat.le_refl _) _).trans (hb1.mono (by simp))
  have h1 := h.below hB1
  have z1 := (PfxAt.of_alloc w _ 0 0 ⟨#[]⟩ 0 rfl).kept hb1 (by simp)
  have hs1 : w.heap.size < w1.heap.size := by have := hb1.size; simp at this; omega
  go_wp2_with fail
  have h2 := h1.below ((Below.refl w1.heap.size w1).alloc (Nat.le_refl _) (.cells #[.int .i64 1, .int .u64 0, .string ⟨#[10, 0, 0, 0]⟩, .int .i64 8] 24))
  refine (check_any 1 0 ⟨#[10, 0, 0, 0]⟩ 8 _ h2.sizes h2.rds).mono ?_
  rintro e w2 ⟨rfl, hb2⟩
  rw [HC.out]
  have hbb : Below w1.heap.size w1 w2 := ((Below.refl _ _).alloc (Nat.le_refl _) _).trans (hb2.mono (by simp))
  obtain ⟨p0, p1, p2, p3, _, _, _, _⟩ := (PfxAt.of_alloc w1 _ 1 0 ⟨#[10, 0, 0, 0]⟩ 8 rfl).kept hb2 (by simp)
  obtain ⟨d0, d1, d2, d3, g0, g1, g2, g3⟩ := z1.kept hbb hs1
  have hB2 := hB1.trans (hbb.mono hB1.size)
  have ne : w1.heap.size ≠ w.heap.size := by omega
  clear h1 h2 z1 hb1 hb2 hbb hB1
  go_wp2
  refine bodyPost_ret (v := .tuple #[.agg #[.int .i64 1, .int .u64 0, .string ⟨#[10, 0, 0, 0]⟩, .int .i64 8], .int .i64 0]) (by simp [results, Tryz.results46, go_sem, d0, d1, d2, d3]) rfl ⟨rfl, ?_⟩
  exact (((hB2.setCell (Nat.le_refl _) _).setCell (Nat.le_refl _) _).setCell (Nat.le_refl _) _).setCell (Nat.le_refl _) _
end Go.Proofs.YtfhbgpepkplbaaaGreatDoor
