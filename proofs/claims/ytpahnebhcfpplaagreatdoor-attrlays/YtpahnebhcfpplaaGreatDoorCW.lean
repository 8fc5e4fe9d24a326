/-
  The example that closes every statement: works.
-/
import Derived.Test.YtpahnebhcfpplaaGreatDoorB9
import Derived.Test.YtpahnebhcfpplaaGreatDoorC11
import Derived.Test.YtpahnebhcfpplaaGreatDoorF3
import Derived.Deep.RegionHeld3
namespace Go.Proofs.YtpahnebhcfpplaaGreatDoor
open Go.RowKit
theorem cellsR_at (R : List Rw) (i : Nat) (h : i < R.length) : (cellsR R)[i * 3]? = some (.int .u8 (R[i].1 : Int)) ∧ (cellsR R)[i * 3 + 1]? = some (.int .u8 (R[i].2.1 : Int)) ∧ (cellsR R)[i * 3 + 2]? = some (.string R[i].2.2) := by
  induction R generalizing i with
  | nil => simp at h
  | cons r R ih =>
    cases i with
    | zero => simp [cellsR]
    | succ i =>
      have := ih i (by simpa using h)
      simp only [cellsR, List.flatMap_cons, List.getElem_cons_succ] at *
      rw [show (i + 1) * 3 = i * 3 + 3 by omega, show i * 3 + 3 + 1 = i * 3 + 1 + 3 by omega, show i * 3 + 3 + 2 = i * 3 + 2 + 3 by omega]
      simpa using this
theorem OwnR.at {w : World} {base : Nat} {v : Value} {R : List Rw} (h : OwnR w base v R) (hx : ∀ r ∈ R, r.1 < 256 ∧ r.2.1 < 256 ∧ r.2.2.size ≤ 4611686018427387904) (hl : R.length ≤ 35184372088832) : RawsAt w v R := by
  obtain ⟨hn, hv⟩ := h
  rcases hv with ⟨rfl, h0⟩ | ⟨g, cap, cur, rfl, hg, hh, hc, hm, hs, ht⟩
  · obtain rfl : R = [] := List.length_eq_zero_iff.mp h0
    exact ⟨none, 0, 0, 0, rfl, Or.inr rfl, by simp, fun j hj => by simp at hj⟩
  · refine ⟨some ⟨g, 0, none⟩, g, 0, cap, rfl, Or.inl rfl, ⟨hc, hl⟩, fun j hj => ?_⟩
    have e : ∀ i, i < R.length * 3 → cur.toList[i]? = (cellsR R)[i]? := fun i hi => by
      have : (cur.toList.take (R.length * 3))[i]? = (cellsR R)[i]? := by rw [ht]
      rwa [List.getElem?_take, if_pos hi] at this
    have hk := cellsR_at R j hj
    rw [Nat.zero_add]
    exact ⟨⟨cell_of_row hh _ _ (by rw [e _ (by omega)]; exact hk.1), cell_of_row hh _ _ (by rw [e _ (by omega)]; exact hk.2.1), cell_of_row hh _ _ (by rw [e _ (by omega)]; exact hk.2.2)⟩, hx _ (List.getElem_mem hj)⟩
/-- The example. -/
def mOne (v : Value) : Am := ⟨1, v, ⟨#[10, 0, 0, 1]⟩, false, 0, false, 0, false, 0, 0, .slice none 0 0, .slice none 0 0, .slice none 0 0, false, 0, .slice none 0 0, [(2, [1])], [], [], [], []⟩
theorem mOne_cells (v : Value) : cellsM (mOne v) = oneC v := rfl
theorem mOne_may (v : Value) : AMay (mOne v) := ⟨by show (0 : Int) ≤ 1; omega, by show (1 : Int) ≤ 2; omega, one_ok, rfl, rfl, rfl, by show 0 ≤ 32; omega⟩
theorem mOne_ok (v : Value) (w : World) (h : PathAt w v [(2, [1])]) : AOk w (mOne v) := ⟨h, nil_at w, nil_ex w, nil_la w, nil_at w, by show 0 < _; omega, by show 0 < _; omega, by show 0 < _; omega, by show 0 < _; omega, by show 0 < _; omega⟩
theorem wt_one (v : Value) : writeTo true (mOne v) 12 = R3 := by kernel_rfl
def laid20 : List UInt8 := [64, 1, 1, 1, 64, 2, 6, 2, 1, 0, 0, 0, 1, 64, 3, 4, 10, 0, 0, 1]
theorem lay_R3 : layAns R3 = .tuple #[.string ⟨laid20.toArray⟩, .int .i64 0] := by kernel_rfl
theorem split_R3 : splitI 20 laid20 = some R3 := by kernel_rfl
theorem R3_ok : ∀ r ∈ R3, r.1 < 256 ∧ r.2.1 < 256 ∧ r.2.2.size ≤ 4611686018427387904 := by
  intro r hr
  simp only [R3, List.mem_cons, List.not_mem_nil, or_false] at hr
  rcases hr with rfl | rfl | rfl <;> exact ⟨by show 64 < 256; omega, by first | (show 1 < 256; omega) | (show 2 < 256; omega) | (show 3 < 256; omega), by show _ ≤ _; decide⟩
end Go.Proofs.YtpahnebhcfpplaaGreatDoor
namespace Go.Proofs.YtpahnebhcfpplaaGreatDoor
open Go.RowKit
set_option maxRecDepth 100000 in
set_option maxHeartbeats 12800000 in
theorem works_any (w : World) (ht : Tabs w) : Calls Tryz.prog 18 #[] w fun e w' => e = .returned (.bool true) ∧ Below w.heap.size w w' := by
  have HT : Hid (Tabs _) := ht
  clear ht
  go_enter Tryz.func18, Tryz.ntmps18
  go_wp2_with fail
  refine (one_any w).mono ?_
  rintro e w1 ⟨ad, n, c, rfl, hp1, hb1⟩
  have HB1 : Hid (Below _ _ _) := hb1
  have HW : Hid (Calls Tryz.prog 10 #[.agg (oneC (.slice ad n c)), .bool true] w1 fun e w' => WriteOk true (mOne (.slice ad n c)) w1 e w') := by
    have hx := write_any (mOne (.slice ad n c)) true w1 (fun W hW => by rw [mOne_cells]; exact check_one ad n c W (hp1.below hW)) (HT.out.below hb1) (mOne_ok _ _ hp1) (mOne_may _)
    rw [mOne_cells] at hx
    exact hx
  clear hp1 hb1
  go_wp2_with fail
  refine HW.out.mono ?_
  rintro e w2 ⟨v2, rfl, ho2, hb2⟩
  rw [wt_one] at ho2
  obtain ⟨ad2, c2, rfl⟩ := slice_of_owns ho2
  have HA2 : Hid (RawsAt w2 _ R3) := ho2.at R3_ok (by decide)
  have HB2 : Hid (Below w.heap.size w w2) := HB1.out.trans (hb2.mono HB1.out.size)
  clear hb2 HB1 HW ho2
  go_wp2_with fail
  refine (lay_any _ R3 w2 HA2.out).mono ?_
  rintro e w3 ⟨rfl, hb3⟩
  rw [lay_R3]
  have HB3 : Hid (Below w.heap.size w w3) := HB2.out.trans (hb3.mono HB2.out.size)
  have HS : Hid (Calls Tryz.prog 21 #[.string ⟨#[64, 1, 1, 1, 64, 2, 6, 2, 1, 0, 0, 0, 1, 64, 3, 4, 10, 0, 0, 1]⟩] w3 fun e w' => SplitOk (some R3) w3 e w') := by
    have hx := split_any laid20 w3 (by decide)
    rw [show laid20.length = 20 from rfl, split_R3] at hx
    exact hx
  rw [show (⟨laid20.toArray⟩ : ByteArray) = ⟨#[64, 1, 1, 1, 64, 2, 6, 2, 1, 0, 0, 0, 1, 64, 3, 4, 10, 0, 0, 1]⟩ from rfl]
  clear hb3 HB2 HA2
  go_wp2_with fail
  refine HS.out.mono ?_
  rintro e w4 ⟨hb4, v4, rfl, ho4⟩
  obtain ⟨ad4, c4, rfl⟩ := slice_of_owns ho4
  rw [show R3.length = 3 from rfl] at *
  have HA4 : Hid (RawsAt w4 (.slice ad4 3 c4) R3) := ho4.at R3_ok (by decide)
  have HB4 : Hid (Below w.heap.size w w4) := HB3.out.trans (hb4.mono HB3.out.size)
  clear hb4 HB3 HS ho4
  go_wp2_with fail
  refine (read3 _ w4 HA4.out).mono ?_
  rintro e w5 ⟨pv, rfl, hp5, hb5⟩
  obtain ⟨ad5, n5, c5, rfl⟩ := hp5.sl
  rw [csN3]
  have HP5 : Hid (PathAt _ _ _) := hp5
  have HB5 : Hid (Below w.heap.size w w5) := HB4.out.trans (hb5.mono HB4.out.size)
  have HSM : Hid (∀ W ad n c, PathAt W (.slice ad5 n5 c5) [(2, [1])] → PathAt W (.slice ad n c) [(2, [1])] → Calls Tryz.prog 25 #[.agg (oneC (.slice ad5 n5 c5)), .agg (oneC (.slice ad n c))] W fun e w' => e = .returned (.bool true) ∧ Below W.heap.size W w') := fun W ad n c h1 h2 => same_one ad5 ad n5 c5 n c W h1 h2
  clear hp5 hb5 HB4 HA4
  unfold oneC at HSM ⊢
  unfold verd0
  go_wp2
  have h1 : ((w5.alloc (.cells #[.int .i64 1, .slice ad5 n5 c5, .string ⟨#[10, 0, 0, 1]⟩, .bool false, .int .u32 0, .bool false, .int .u32 0, .bool false, .int .u32 0, .int .u32 0, .slice none 0 0, .slice none 0 0, .slice none 0 0, .bool false, .int .u32 0, .slice none 0 0] 28)).alloc (.cells #[.int .i64 0, .int .u8 0, .int .u8 0] 49)).heap[w5.heap.size]? = some (.cells #[.int .i64 1, .slice ad5 n5 c5, .string ⟨#[10, 0, 0, 1]⟩, .bool false, .int .u32 0, .bool false, .int .u32 0, .bool false, .int .u32 0, .int .u32 0, .slice none 0 0, .slice none 0 0, .slice none 0 0, .bool false, .int .u32 0, .slice none 0 0] 28 (0, 0)) := h_up (h_new rfl)
  have h2 : ((w5.alloc (.cells #[.int .i64 1, .slice ad5 n5 c5, .string ⟨#[10, 0, 0, 1]⟩, .bool false, .int .u32 0, .bool false, .int .u32 0, .bool false, .int .u32 0, .int .u32 0, .slice none 0 0, .slice none 0 0, .slice none 0 0, .bool false, .int .u32 0, .slice none 0 0] 28)).alloc (.cells #[.int .i64 0, .int .u8 0, .int .u8 0] 49)).heap[w5.heap.size + 1]? = some (.cells #[.int .i64 0, .int .u8 0, .int .u8 0] 49 (0, 0)) := h_new (by simp)
  have hb6 : Below w5.heap.size w5 ((w5.alloc (.cells #[.int .i64 1, .slice ad5 n5 c5, .string ⟨#[10, 0, 0, 1]⟩, .bool false, .int .u32 0, .bool false, .int .u32 0, .bool false, .int .u32 0, .int .u32 0, .slice none 0 0, .slice none 0 0, .slice none 0 0, .bool false, .int .u32 0, .slice none 0 0] 28)).alloc (.cells #[.int .i64 0, .int .u8 0, .int .u8 0] 49)) := two_below _ _ _
  have HP6 : Hid (PathAt _ _ _) := HP5.out.below hb6
  have HB6 : Hid (Below w.heap.size w ((w5.alloc (.cells #[.int .i64 1, .slice ad5 n5 c5, .string ⟨#[10, 0, 0, 1]⟩, .bool false, .int .u32 0, .bool false, .int .u32 0, .bool false, .int .u32 0, .int .u32 0, .slice none 0 0, .slice none 0 0, .slice none 0 0, .bool false, .int .u32 0, .slice none 0 0] 28)).alloc (.cells #[.int .i64 0, .int .u8 0, .int .u8 0] 49))) := HB5.out.trans (hb6.mono HB5.out.size)
  clear HP5 HB5 hb6
  generalize (w5.alloc (.cells #[.int .i64 1, .slice ad5 n5 c5, .string ⟨#[10, 0, 0, 1]⟩, .bool false, .int .u32 0, .bool false, .int .u32 0, .bool false, .int .u32 0, .int .u32 0, .slice none 0 0, .slice none 0 0, .slice none 0 0, .bool false, .int .u32 0, .slice none 0 0] 28)).alloc (.cells #[.int .i64 0, .int .u8 0, .int .u8 0] 49) = W6 at *
  have a0 : W6.cell? ⟨w5.heap.size, 0, none⟩ = some (.int .i64 1) := cell_row h1 0 _ rfl
  have a1 : W6.cell? ⟨w5.heap.size, 1, none⟩ = some (.slice ad5 n5 c5) := cell_row h1 1 _ rfl
  have a2 : W6.cell? ⟨w5.heap.size, 2, none⟩ = some (.string ⟨#[10, 0, 0, 1]⟩) := cell_row h1 2 _ rfl
  have a3 : W6.cell? ⟨w5.heap.size, 3, none⟩ = some (.bool false) := cell_row h1 3 _ rfl
  have a4 : W6.cell? ⟨w5.heap.size, 4, none⟩ = some (.int .u32 0) := cell_row h1 4 _ rfl
  have a5 : W6.cell? ⟨w5.heap.size, 5, none⟩ = some (.bool false) := cell_row h1 5 _ rfl
  have a6 : W6.cell? ⟨w5.heap.size, 6, none⟩ = some (.int .u32 0) := cell_row h1 6 _ rfl
  have a7 : W6.cell? ⟨w5.heap.size, 7, none⟩ = some (.bool false) := cell_row h1 7 _ rfl
  have a8 : W6.cell? ⟨w5.heap.size, 8, none⟩ = some (.int .u32 0) := cell_row h1 8 _ rfl
  have a9 : W6.cell? ⟨w5.heap.size, 9, none⟩ = some (.int .u32 0) := cell_row h1 9 _ rfl
  have a10 : W6.cell? ⟨w5.heap.size, 10, none⟩ = some (.slice none 0 0) := cell_row h1 10 _ rfl
  have a11 : W6.cell? ⟨w5.heap.size, 11, none⟩ = some (.slice none 0 0) := cell_row h1 11 _ rfl
  have a12 : W6.cell? ⟨w5.heap.size, 12, none⟩ = some (.slice none 0 0) := cell_row h1 12 _ rfl
  have a13 : W6.cell? ⟨w5.heap.size, 13, none⟩ = some (.bool false) := cell_row h1 13 _ rfl
  have a14 : W6.cell? ⟨w5.heap.size, 14, none⟩ = some (.int .u32 0) := cell_row h1 14 _ rfl
  have a15 : W6.cell? ⟨w5.heap.size, 15, none⟩ = some (.slice none 0 0) := cell_row h1 15 _ rfl
  have v0 : W6.cell? ⟨w5.heap.size + 1, 0, none⟩ = some (.int .i64 0) := cell_row h2 0 _ rfl
  have v1 : W6.cell? ⟨w5.heap.size + 1, 1, none⟩ = some (.int .u8 0) := cell_row h2 1 _ rfl
  have v2 : W6.cell? ⟨w5.heap.size + 1, 2, none⟩ = some (.int .u8 0) := cell_row h2 2 _ rfl
  clear h1 h2
  go_region_held (fun w' => w'.cell? ⟨w5.heap.size, 0, none⟩ = some (.int .i64 1) ∧ w'.cell? ⟨w5.heap.size, 1, none⟩ = some (.slice ad5 n5 c5) ∧ w'.cell? ⟨w5.heap.size, 2, none⟩ = some (.string ⟨#[10, 0, 0, 1]⟩) ∧ w'.cell? ⟨w5.heap.size, 3, none⟩ = some (.bool false) ∧ w'.cell? ⟨w5.heap.size, 4, none⟩ = some (.int .u32 0) ∧ w'.cell? ⟨w5.heap.size, 5, none⟩ = some (.bool false) ∧ w'.cell? ⟨w5.heap.size, 6, none⟩ = some (.int .u32 0) ∧ w'.cell? ⟨w5.heap.size, 7, none⟩ = some (.bool false) ∧ w'.cell? ⟨w5.heap.size, 8, none⟩ = some (.int .u32 0) ∧ w'.cell? ⟨w5.heap.size, 9, none⟩ = some (.int .u32 0) ∧ w'.cell? ⟨w5.heap.size, 10, none⟩ = some (.slice none 0 0) ∧ w'.cell? ⟨w5.heap.size, 11, none⟩ = some (.slice none 0 0) ∧ w'.cell? ⟨w5.heap.size, 12, none⟩ = some (.slice none 0 0) ∧ w'.cell? ⟨w5.heap.size, 13, none⟩ = some (.bool false) ∧ w'.cell? ⟨w5.heap.size, 14, none⟩ = some (.int .u32 0) ∧ w'.cell? ⟨w5.heap.size, 15, none⟩ = some (.slice none 0 0) ∧ w'.cell? ⟨w5.heap.size + 1, 0, none⟩ = some (.int .i64 0) ∧ w'.cell? ⟨w5.heap.size + 1, 1, none⟩ = some (.int .u8 0) ∧ w'.cell? ⟨w5.heap.size + 1, 2, none⟩ = some (.int .u8 0)) (go_keep)
    (first | (go_at_call 42; refine (one_any _).mono ?_; rintro e w7 ⟨ad7, n7, c7, rfl, hp7, hb7⟩; unfold oneC; have a0q := below_cell (w := W6.drew) hb7 a0; have a1q := below_cell (w := W6.drew) hb7 a1; have a2q := below_cell (w := W6.drew) hb7 a2; have a3q := below_cell (w := W6.drew) hb7 a3; have a4q := below_cell (w := W6.drew) hb7 a4; have a5q := below_cell (w := W6.drew) hb7 a5; have a6q := below_cell (w := W6.drew) hb7 a6; have a7q := below_cell (w := W6.drew) hb7 a7; have a8q := below_cell (w := W6.drew) hb7 a8; have a9q := below_cell (w := W6.drew) hb7 a9; have a10q := below_cell (w := W6.drew) hb7 a10; have a11q := below_cell (w := W6.drew) hb7 a11; have a12q := below_cell (w := W6.drew) hb7 a12; have a13q := below_cell (w := W6.drew) hb7 a13; have a14q := below_cell (w := W6.drew) hb7 a14; have a15q := below_cell (w := W6.drew) hb7 a15; have v0q := below_cell (w := W6.drew) hb7 v0; have v1q := below_cell (w := W6.drew) hb7 v1; have v2q := below_cell (w := W6.drew) hb7 v2; have HP7 : Hid (PathAt w7 _ _) := hp7; have HP8 : Hid (PathAt w7 _ _) := HP6.out.drew.below hb7; clear hp7) | (go_at_call 25; refine (HSM.out _ _ _ _ HP8.out HP7.out).mono ?_; rintro e w8 ⟨rfl, hb8⟩; have a0r := below_cell hb8 a0q; have a1r := below_cell hb8 a1q; have a2r := below_cell hb8 a2q; have a3r := below_cell hb8 a3q; have a4r := below_cell hb8 a4q; have a5r := below_cell hb8 a5q; have a6r := below_cell hb8 a6q; have a7r := below_cell hb8 a7q; have a8r := below_cell hb8 a8q; have a9r := below_cell hb8 a9q; have a10r := below_cell hb8 a10q; have a11r := below_cell hb8 a11q; have a12r := below_cell hb8 a12q; have a13r := below_cell hb8 a13q; have a14r := below_cell hb8 a14q; have a15r := below_cell hb8 a15q; have v0r := below_cell hb8 v0q; have v1r := below_cell hb8 v1q; have v2r := below_cell hb8 v2q))
  have HB8 : Hid (Below w.heap.size w w8) := (HB6.out.drew.trans (hb7.mono HB6.out.size)).trans (hb8.mono (Nat.le_trans HB6.out.size hb7.size))
  clear hb7 hb8 a0 a0q a0r a1 a1q a1r a2 a2q a2r a3 a3q a3r a4 a4q a4r a5 a5q a5r a6 a6q a6r a7 a7q a7r a8 a8q a8r a9 a9q a9r a10 a10q a10r a11 a11q a11r a12 a12q a12r a13 a13q a13r a14 a14q a14r a15 a15q a15r v0 v0q v0r v1 v1q v1r v2 v2q v2r
  go_wp2
  go_ret
  exact ⟨rfl, HB8.out⟩
end Go.Proofs.YtpahnebhcfpplaaGreatDoor
