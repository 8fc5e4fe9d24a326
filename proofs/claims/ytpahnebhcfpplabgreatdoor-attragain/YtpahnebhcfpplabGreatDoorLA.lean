/-
  AttrAgain answers true, of every list.
-/
import Derived.Test.YtpahnebhcfpplabGreatDoorB9
import Derived.Test.YtpahnebhcfpplabGreatDoorC11
import Derived.Test.YtpahnebhcfpplabGreatDoorF3
import Derived.Deep.RegionHeld3
import Derived.Test.YtpahnebhcfpplabGreatDoorB3
import Derived.Test.YtpahnebhcfpplabGreatDoorB5
import Derived.BigQuiet
namespace Go.Proofs.YtpahnebhcfpplabGreatDoor
open Go.RowKit
theorem cellsR_at (R : List Rw) (i : Nat) (h : i < R.length) : (cellsR R)[i * 3]? = some (.int .u8 (R[i].1 : Int)) ∧ (cellsR R)[i * 3 + 1]? = some (.int .u8 (R[i].2.1 : Int)) ∧ (cellsR R)[i * 3 + 2]? = some (.string R[i].2.2) := by
  induction R generalizing i with
  | nil => simp at h
  | cons r R ih =>
    cases i with
    | zero => simp [cellsR]
    | succ i =>
      have := ih i (by simpa using h)
      simp only [cellsR, List.flatMap_cons, List.getElem_cons_succ] at *
      rw [show (i + 1) * 3 = i * 3 + 3 by omega, show i * 3 + 3 + 1 = i * 3 + 1 + 3 by omega, show i * 3 + 3 + 2 = i * 3 + 2 + 3 by omega]
      simpa using this
theorem OwnR.at {w : World} {base : Nat} {v : Value} {R : List Rw} (h : OwnR w base v R) (hx : ∀ r ∈ R, r.1 < 256 ∧ r.2.1 < 256 ∧ r.2.2.size ≤ 4611686018427387904) (hl : R.length ≤ 35184372088832) : RawsAt w v R := by
  obtain ⟨hn, hv⟩ := h
  rcases hv with ⟨rfl, h0⟩ | ⟨g, cap, cur, rfl, hg, hh, hc, hm, hs, ht⟩
  · obtain rfl : R = [] := List.length_eq_zero_iff.mp h0
    exact ⟨none, 0, 0, 0, rfl, Or.inr rfl, by simp, fun j hj => by simp at hj⟩
  · refine ⟨some ⟨g, 0, none⟩, g, 0, cap, rfl, Or.inl rfl, ⟨hc, hl⟩, fun j hj => ?_⟩
    have e : ∀ i, i < R.length * 3 → cur.toList[i]? = (cellsR R)[i]? := fun i hi => by
      have : (cur.toList.take (R.length * 3))[i]? = (cellsR R)[i]? := by rw [ht]
      rwa [List.getElem?_take, if_pos hi] at this
    have hk := cellsR_at R j hj
    rw [Nat.zero_add]
    exact ⟨⟨cell_of_row hh _ _ (by rw [e _ (by omega)]; exact hk.1), cell_of_row hh _ _ (by rw [e _ (by omega)]; exact hk.2.1), cell_of_row hh _ _ (by rw [e _ (by omega)]; exact hk.2.2)⟩, hx _ (List.getElem_mem hj)⟩
/-- The example. -/
def mOne (v : Value) : Am := ⟨1, v, ⟨#[10, 0, 0, 1]⟩, false, 0, false, 0, false, 0, 0, .slice none 0 0, .slice none 0 0, .slice none 0 0, false, 0, .slice none 0 0, [(2, [1])], [], [], [], []⟩
theorem mOne_cells (v : Value) : cellsM (mOne v) = oneC v := rfl
theorem mOne_may (v : Value) : AMay (mOne v) := ⟨by show (0 : Int) ≤ 1; omega, by show (1 : Int) ≤ 2; omega, one_ok, rfl, rfl, rfl, by show 0 ≤ 32; omega⟩
theorem mOne_ok (v : Value) (w : World) (h : PathAt w v [(2, [1])]) : AOk w (mOne v) := ⟨h, nil_at w, nil_ex w, nil_la w, nil_at w, by show 0 < _; omega, by show 0 < _; omega, by show 0 < _; omega, by show 0 < _; omega, by show 0 < _; omega⟩
theorem wt_one (v : Value) : writeTo true (mOne v) 12 = R3 := by kernel_rfl
def laid20 : List UInt8 := [64, 1, 1, 1, 64, 2, 6, 2, 1, 0, 0, 0, 1, 64, 3, 4, 10, 0, 0, 1]
theorem lay_R3 : layAns R3 = .tuple #[.string ⟨laid20.toArray⟩, .int .i64 0] := by kernel_rfl
theorem split_R3 : splitI 20 laid20 = some R3 := by kernel_rfl
theorem R3_ok : ∀ r ∈ R3, r.1 < 256 ∧ r.2.1 < 256 ∧ r.2.2.size ≤ 4611686018427387904 := by
  intro r hr
  simp only [R3, List.mem_cons, List.not_mem_nil, or_false] at hr
  rcases hr with rfl | rfl | rfl <;> exact ⟨by show 64 < 256; omega, by first | (show 1 < 256; omega) | (show 2 < 256; omega) | (show 3 < 256; omega), by show _ ≤ _; decide⟩
end Go.Proofs.YtpahnebhcfpplabGreatDoor
namespace Go.Proofs.YtpahnebhcfpplabGreatDoor
open Go.RowKit
set_option maxRecDepth 100000 in
set_option maxHeartbeats 12800000 in
theorem works_any (w : World) (ht : Tabs w) : Calls Tryz.prog 7 #[] w fun e w' => e = .returned (.bool true) ∧ Below w.heap.size w w' := by
  have HT : Hid (Tabs _) := ht
  clear ht
  go_enter Tryz.func7, Tryz.ntmps7
  go_wp2_with fail
  refine (one_any w).mono ?_
  rintro e w1 ⟨ad, n, c, rfl, hp1, hb1⟩
  have HB1 : Hid (Below _ _ _) := hb1
  have HW : Hid (Calls Tryz.prog 14 #[.agg (oneC (.slice ad n c)), .bool true] w1 fun e w' => WriteOk true (mOne (.slice ad n c)) w1 e w') := by
    have hx := write_any (mOne (.slice ad n c)) true w1 (fun W hW => by rw [mOne_cells]; exact check_one ad n c W (hp1.below hW)) (HT.out.below hb1) (mOne_ok _ _ hp1) (mOne_may _)
    rw [mOne_cells] at hx
    exact hx
  clear hp1 hb1
  go_wp2_with fail
  refine HW.out.mono ?_
  rintro e w2 ⟨v2, rfl, ho2, hb2⟩
  rw [wt_one] at ho2
  obtain ⟨ad2, c2, rfl⟩ := slice_of_owns ho2
  have HA2 : Hid (RawsAt w2 _ R3) := ho2.at R3_ok (by decide)
  have HB2 : Hid (Below w.heap.size w w2) := HB1.out.trans (hb2.mono HB1.out.size)
  clear hb2 HB1 HW ho2
  go_wp2_with fail
  refine (lay_any _ R3 w2 HA2.out).mono ?_
  rintro e w3 ⟨rfl, hb3⟩
  rw [lay_R3]
  have HB3 : Hid (Below w.heap.size w w3) := HB2.out.trans (hb3.mono HB2.out.size)
  have HS : Hid (Calls Tryz.prog 9 #[.string ⟨#[64, 1, 1, 1, 64, 2, 6, 2, 1, 0, 0, 0, 1, 64, 3, 4, 10, 0, 0, 1]⟩] w3 fun e w' => SplitOk (some R3) w3 e w') := by
    have hx := split_any laid20 w3 (by decide)
    rw [show laid20.length = 20 from rfl, split_R3] at hx
    exact hx
  rw [show (⟨laid20.toArray⟩ : ByteArray) = ⟨#[64, 1, 1, 1, 64, 2, 6, 2, 1, 0, 0, 0, 1, 64, 3, 4, 10, 0, 0, 1]⟩ from rfl]
  clear hb3 HB2 HA2
  go_wp2_with fail
  refine HS.out.mono ?_
  rintro e w4 ⟨hb4, v4, rfl, ho4⟩
  obtain ⟨ad4, c4, rfl⟩ := slice_of_owns ho4
  rw [show R3.length = 3 from rfl] at *
  have HA4 : Hid (RawsAt w4 (.slice ad4 3 c4) R3) := ho4.at R3_ok (by decide)
  have HB4 : Hid (Below w.heap.size w w4) := HB3.out.trans (hb4.mono HB3.out.size)
  clear hb4 HB3 HS ho4
  go_wp2_with fail
  refine (read3 _ w4 HA4.out).mono ?_
  rintro e w5 ⟨pv, rfl, hp5, hb5⟩
  obtain ⟨ad5, n5, c5, rfl⟩ := hp5.sl
  rw [csN3]
  have HP5 : Hid (PathAt _ _ _) := hp5
  have HB5 : Hid (Below w.heap.size w w5) := HB4.out.trans (hb5.mono HB4.out.size)
  have HSM : Hid (∀ W ad n c, PathAt W (.slice ad5 n5 c5) [(2, [1])] → PathAt W (.slice ad n c) [(2, [1])] → Calls Tryz.prog 11 #[.agg (oneC (.slice ad5 n5 c5)), .agg (oneC (.slice ad n c))] W fun e w' => e = .returned (.bool true) ∧ Below W.heap.size W w') := fun W ad n c h1 h2 => same_one ad5 ad n5 c5 n c W h1 h2
  clear hp5 hb5 HB4 HA4
  unfold oneC at HSM ⊢
  unfold verd0
  go_wp2
  have h1 : ((w5.alloc (.cells #[.int .i64 1, .slice ad5 n5 c5, .string ⟨#[10, 0, 0, 1]⟩, .bool false, .int .u32 0, .bool false, .int .u32 0, .bool false, .int .u32 0, .int .u32 0, .slice none 0 0, .slice none 0 0, .slice none 0 0, .bool false, .int .u32 0, .slice none 0 0] 39)).alloc (.cells #[.int .i64 0, .int .u8 0, .int .u8 0] 41)).heap[w5.heap.size]? = some (.cells #[.int .i64 1, .slice ad5 n5 c5, .string ⟨#[10, 0, 0, 1]⟩, .bool false, .int .u32 0, .bool false, .int .u32 0, .bool false, .int .u32 0, .int .u32 0, .slice none 0 0, .slice none 0 0, .slice none 0 0, .bool false, .int .u32 0, .slice none 0 0] 39 (0, 0)) := h_up (h_new rfl)
  have h2 : ((w5.alloc (.cells #[.int .i64 1, .slice ad5 n5 c5, .string ⟨#[10, 0, 0, 1]⟩, .bool false, .int .u32 0, .bool false, .int .u32 0, .bool false, .int .u32 0, .int .u32 0, .slice none 0 0, .slice none 0 0, .slice none 0 0, .bool false, .int .u32 0, .slice none 0 0] 39)).alloc (.cells #[.int .i64 0, .int .u8 0, .int .u8 0] 41)).heap[w5.heap.size + 1]? = some (.cells #[.int .i64 0, .int .u8 0, .int .u8 0] 41 (0, 0)) := h_new (by simp)
  have hb6 : Below w5.heap.size w5 ((w5.alloc (.cells #[.int .i64 1, .slice ad5 n5 c5, .string ⟨#[10, 0, 0, 1]⟩, .bool false, .int .u32 0, .bool false, .int .u32 0, .bool false, .int .u32 0, .int .u32 0, .slice none 0 0, .slice none 0 0, .slice none 0 0, .bool false, .int .u32 0, .slice none 0 0] 39)).alloc (.cells #[.int .i64 0, .int .u8 0, .int .u8 0] 41)) := two_below _ _ _
  have HP6 : Hid (PathAt _ _ _) := HP5.out.below hb6
  have HB6 : Hid (Below w.heap.size w ((w5.alloc (.cells #[.int .i64 1, .slice ad5 n5 c5, .string ⟨#[10, 0, 0, 1]⟩, .bool false, .int .u32 0, .bool false, .int .u32 0, .bool false, .int .u32 0, .int .u32 0, .slice none 0 0, .slice none 0 0, .slice none 0 0, .bool false, .int .u32 0, .slice none 0 0] 39)).alloc (.cells #[.int .i64 0, .int .u8 0, .int .u8 0] 41))) := HB5.out.trans (hb6.mono HB5.out.size)
  clear HP5 HB5 hb6
  generalize (w5.alloc (.cells #[.int .i64 1, .slice ad5 n5 c5, .string ⟨#[10, 0, 0, 1]⟩, .bool false, .int .u32 0, .bool false, .int .u32 0, .bool false, .int .u32 0, .int .u32 0, .slice none 0 0, .slice none 0 0, .slice none 0 0, .bool false, .int .u32 0, .slice none 0 0] 39)).alloc (.cells #[.int .i64 0, .int .u8 0, .int .u8 0] 41) = W6 at *
  have a0 : W6.cell? ⟨w5.heap.size, 0, none⟩ = some (.int .i64 1) := cell_row h1 0 _ rfl
  have a1 : W6.cell? ⟨w5.heap.size, 1, none⟩ = some (.slice ad5 n5 c5) := cell_row h1 1 _ rfl
  have a2 : W6.cell? ⟨w5.heap.size, 2, none⟩ = some (.string ⟨#[10, 0, 0, 1]⟩) := cell_row h1 2 _ rfl
  have a3 : W6.cell? ⟨w5.heap.size, 3, none⟩ = some (.bool false) := cell_row h1 3 _ rfl
  have a4 : W6.cell? ⟨w5.heap.size, 4, none⟩ = some (.int .u32 0) := cell_row h1 4 _ rfl
  have a5 : W6.cell? ⟨w5.heap.size, 5, none⟩ = some (.bool false) := cell_row h1 5 _ rfl
  have a6 : W6.cell? ⟨w5.heap.size, 6, none⟩ = some (.int .u32 0) := cell_row h1 6 _ rfl
  have a7 : W6.cell? ⟨w5.heap.size, 7, none⟩ = some (.bool false) := cell_row h1 7 _ rfl
  have a8 : W6.cell? ⟨w5.heap.size, 8, none⟩ = some (.int .u32 0) := cell_row h1 8 _ rfl
  have a9 : W6.cell? ⟨w5.heap.size, 9, none⟩ = some (.int .u32 0) := cell_row h1 9 _ rfl
  have a10 : W6.cell? ⟨w5.heap.size, 10, none⟩ = some (.slice none 0 0) := cell_row h1 10 _ rfl
  have a11 : W6.cell? ⟨w5.heap.size, 11, none⟩ = some (.slice none 0 0) := cell_row h1 11 _ rfl
  have a12 : W6.cell? ⟨w5.heap.size, 12, none⟩ = some (.slice none 0 0) := cell_row h1 12 _ rfl
  have a13 : W6.cell? ⟨w5.heap.size, 13, none⟩ = some (.bool false) := cell_row h1 13 _ rfl
  have a14 : W6.cell? ⟨w5.heap.size, 14, none⟩ = some (.int .u32 0) := cell_row h1 14 _ rfl
  have a15 : W6.cell? ⟨w5.heap.size, 15, none⟩ = some (.slice none 0 0) := cell_row h1 15 _ rfl
  have v0 : W6.cell? ⟨w5.heap.size + 1, 0, none⟩ = some (.int .i64 0) := cell_row h2 0 _ rfl
  have v1 : W6.cell? ⟨w5.heap.size + 1, 1, none⟩ = some (.int .u8 0) := cell_row h2 1 _ rfl
  have v2 : W6.cell? ⟨w5.heap.size + 1, 2, none⟩ = some (.int .u8 0) := cell_row h2 2 _ rfl
  clear h1 h2
  go_region_held (fun w' => w'.cell? ⟨w5.heap.size, 0, none⟩ = some (.int .i64 1) ∧ w'.cell? ⟨w5.heap.size, 1, none⟩ = some (.slice ad5 n5 c5) ∧ w'.cell? ⟨w5.heap.size, 2, none⟩ = some (.string ⟨#[10, 0, 0, 1]⟩) ∧ w'.cell? ⟨w5.heap.size, 3, none⟩ = some (.bool false) ∧ w'.cell? ⟨w5.heap.size, 4, none⟩ = some (.int .u32 0) ∧ w'.cell? ⟨w5.heap.size, 5, none⟩ = some (.bool false) ∧ w'.cell? ⟨w5.heap.size, 6, none⟩ = some (.int .u32 0) ∧ w'.cell? ⟨w5.heap.size, 7, none⟩ = some (.bool false) ∧ w'.cell? ⟨w5.heap.size, 8, none⟩ = some (.int .u32 0) ∧ w'.cell? ⟨w5.heap.size, 9, none⟩ = some (.int .u32 0) ∧ w'.cell? ⟨w5.heap.size, 10, none⟩ = some (.slice none 0 0) ∧ w'.cell? ⟨w5.heap.size, 11, none⟩ = some (.slice none 0 0) ∧ w'.cell? ⟨w5.heap.size, 12, none⟩ = some (.slice none 0 0) ∧ w'.cell? ⟨w5.heap.size, 13, none⟩ = some (.bool false) ∧ w'.cell? ⟨w5.heap.size, 14, none⟩ = some (.int .u32 0) ∧ w'.cell? ⟨w5.heap.size, 15, none⟩ = some (.slice none 0 0) ∧ w'.cell? ⟨w5.heap.size + 1, 0, none⟩ = some (.int .i64 0) ∧ w'.cell? ⟨w5.heap.size + 1, 1, none⟩ = some (.int .u8 0) ∧ w'.cell? ⟨w5.heap.size + 1, 2, none⟩ = some (.int .u8 0)) (go_keep)
    (first | (go_at_call 15; refine (one_any _).mono ?_; rintro e w7 ⟨ad7, n7, c7, rfl, hp7, hb7⟩; unfold oneC; have a0q := below_cell (w := W6.drew) hb7 a0; have a1q := below_cell (w := W6.drew) hb7 a1; have a2q := below_cell (w := W6.drew) hb7 a2; have a3q := below_cell (w := W6.drew) hb7 a3; have a4q := below_cell (w := W6.drew) hb7 a4; have a5q := below_cell (w := W6.drew) hb7 a5; have a6q := below_cell (w := W6.drew) hb7 a6; have a7q := below_cell (w := W6.drew) hb7 a7; have a8q := below_cell (w := W6.drew) hb7 a8; have a9q := below_cell (w := W6.drew) hb7 a9; have a10q := below_cell (w := W6.drew) hb7 a10; have a11q := below_cell (w := W6.drew) hb7 a11; have a12q := below_cell (w := W6.drew) hb7 a12; have a13q := below_cell (w := W6.drew) hb7 a13; have a14q := below_cell (w := W6.drew) hb7 a14; have a15q := below_cell (w := W6.drew) hb7 a15; have v0q := below_cell (w := W6.drew) hb7 v0; have v1q := below_cell (w := W6.drew) hb7 v1; have v2q := below_cell (w := W6.drew) hb7 v2; have HP7 : Hid (PathAt w7 _ _) := hp7; have HP8 : Hid (PathAt w7 _ _) := HP6.out.drew.below hb7; clear hp7) | (go_at_call 11; refine (HSM.out _ _ _ _ HP8.out HP7.out).mono ?_; rintro e w8 ⟨rfl, hb8⟩; have a0r := below_cell hb8 a0q; have a1r := below_cell hb8 a1q; have a2r := below_cell hb8 a2q; have a3r := below_cell hb8 a3q; have a4r := below_cell hb8 a4q; have a5r := below_cell hb8 a5q; have a6r := below_cell hb8 a6q; have a7r := below_cell hb8 a7q; have a8r := below_cell hb8 a8q; have a9r := below_cell hb8 a9q; have a10r := below_cell hb8 a10q; have a11r := below_cell hb8 a11q; have a12r := below_cell hb8 a12q; have a13r := below_cell hb8 a13q; have a14r := below_cell hb8 a14q; have a15r := below_cell hb8 a15q; have v0r := below_cell hb8 v0q; have v1r := below_cell hb8 v1q; have v2r := below_cell hb8 v2q))
  have HB8 : Hid (Below w.heap.size w w8) := (HB6.out.drew.trans (hb7.mono HB6.out.size)).trans (hb8.mono (Nat.le_trans HB6.out.size hb7.size))
  clear hb7 hb8 a0 a0q a0r a1 a1q a1r a2 a2q a2r a3 a3q a3r a4 a4q a4r a5 a5q a5r a6 a6q a6r a7 a7q a7r a8 a8q a8r a9 a9q a9r a10 a10q a10r a11 a11q a11r a12 a12q a12r a13 a13q a13r a14 a14q a14r a15 a15q a15r v0 v0q v0r v1 v1q v1r v2 v2q v2r
  go_wp2
  go_ret
  exact ⟨rfl, HB8.out⟩
end Go.Proofs.YtpahnebhcfpplabGreatDoor
namespace Go.Proofs.YtpahnebhcfpplabGreatDoor
open Go.RowKit
theorem worth1 (l : List UInt8) (h : 0 < l.length) : worth (l.take 1) = l[0].toNat := by
  cases l with
  | nil => simp at h
  | cons a t => simp [worth]
/-- The first raw attribute of three bytes or more, as the reference takes it. -/
theorem rawI_ref (l : List UInt8) (h3 : 3 ≤ l.length) : rawI l = if 2 + zOf (l[0].toNat) + worth ((l.drop 2).take (zOf (l[0].toNat))) ≤ l.length ∧ 2 + zOf (l[0].toNat) ≤ l.length then
    some ((l[0].toNat, l[1].toNat, ⟨((l.drop (2 + zOf (l[0].toNat))).take (worth ((l.drop 2).take (zOf (l[0].toNat))))).toArray⟩), l.drop (2 + zOf (l[0].toNat) + worth ((l.drop 2).take (zOf (l[0].toNat))))) else none := by
  have g1 : gotN 1 l = l[0].toNat := by unfold gotN; rw [if_pos (by omega), worth1 l (by omega)]
  have e1 : restN 1 l = l.drop 1 := by unfold restN; rw [if_pos (by omega)]
  have g2 : gotN 1 (l.drop 1) = l[1].toNat := by
    unfold gotN
    rw [if_pos (by simp; omega), worth1 _ (by simp; omega)]
    simp
  have e2 : restN 1 (l.drop 1) = l.drop 2 := by unfold restN; rw [if_pos (by simp; omega)]; simp
  rw [rawI_eq, g1, e1, g2, e2]
  generalize zOf (l[0].toNat) = z
  by_cases hz : z ≤ (l.drop 2).length
  · have g3 : gotN z (l.drop 2) = worth ((l.drop 2).take z) := by unfold gotN; rw [if_pos hz]
    have e3 : restN z (l.drop 2) = l.drop (2 + z) := by unfold restN; rw [if_pos hz, List.drop_drop]
    rw [g3, e3]
    generalize worth ((l.drop 2).take z) = N
    simp only [List.length_drop, List.drop_drop] at *
    by_cases hN : N ≤ l.length - (2 + z)
    · rw [if_pos ⟨hz, hN⟩, if_pos ⟨by omega, by omega⟩]
    · rw [if_neg (fun h => hN h.2), if_neg (fun h => by omega)]
  · rw [if_neg (fun h => hz h.1), if_neg (fun h => by simp only [List.length_drop] at hz; omega)]
theorem rawI_short (l : List UInt8) (hl : l ≠ []) (h3 : l.length < 3) : rawI l = none := by
  cases h : rawI l with
  | none => rfl
  | some x =>
    obtain ⟨r, rest⟩ := x
    have := rawI_len hl h
    omega
/-- A raw attribute as it is split again. -/
def relaid (r : Rw) : Rw := (flagE r, r.2.1, r.2.2)
theorem flagE_lt (r : Rw) (h : r.1 < 256) : flagE r < 256 := by
  have := flag_lt r.1 h
  unfold flagE
  split <;> omega
theorem bit16 (f : Nat) (h : f < 256) : (f ||| 16) &&& 16 = 16 ∧ (f &&& 239) &&& 16 = 0 := by
  have : ∀ f : Fin 256, (f.1 ||| 16) &&& 16 = 16 ∧ (f.1 &&& 239) &&& 16 = 0 := by decide +kernel
  exact this ⟨f, h⟩
theorem zOf_flag (r : Rw) (h : r.1 < 256) : zOf (flagE r) = sizeE r := by
  have h1 := bit16 r.1 h
  unfold zOf flagE sizeE
  by_cases hl : 255 < r.2.2.size
  · rw [if_pos hl, if_pos hl, h1.1, if_neg (by decide)]
  · rw [if_neg hl, if_neg hl, h1.2, if_pos rfl]
theorem rawI_back (r : Rw) (rest : List UInt8) (hf : r.1 < 256) (ht : r.2.1 < 256) (hs : r.2.2.size < 65536) : rawI (rawE r ++ rest) = some (relaid r, rest) := by
  have hF := flagE_lt r hf
  have hz := zOf_flag r hf
  have hn : r.2.2.size < 256 ^ sizeE r := by
    unfold sizeE
    by_cases hl : 255 < r.2.2.size
    · rw [if_pos hl]; omega
    · rw [if_neg hl]; omega
  have hz1 : 1 ≤ sizeE r := by unfold sizeE; split <;> omega
  have hdat : r.2.2.data.toList.length = r.2.2.size := Array.length_toList
  have hlen : (rawE r ++ rest).length = 2 + sizeE r + r.2.2.size + rest.length := by rw [List.length_append, rawE_length]
  have h3 : 3 ≤ (rawE r ++ rest).length := by omega
  have e0 : (rawE r ++ rest)[0].toNat = flagE r := by
    rw [← worth1 _ (by omega)]
    have : (rawE r ++ rest).take 1 = laid (flagE r) 1 := by
      unfold rawE
      rw [List.append_assoc]
      have h := List.take_left' (l₁ := laid (flagE r) 1) (l₂ := laid r.2.1 1 ++ (laid r.2.2.size (sizeE r) ++ r.2.2.data.toList) ++ rest) (laid_length _ 1)
      exact h
    rw [this, worth_laid]
    omega
  have d1 : (rawE r ++ rest).drop 1 = laid r.2.1 1 ++ (laid r.2.2.size (sizeE r) ++ r.2.2.data.toList ++ rest) := by
    unfold rawE
    rw [List.append_assoc]
    have h := List.drop_left' (l₁ := laid (flagE r) 1) (l₂ := laid r.2.1 1 ++ (laid r.2.2.size (sizeE r) ++ r.2.2.data.toList) ++ rest) (laid_length _ 1)
    rw [h]
    simp only [List.append_assoc]
  have e1 : (rawE r ++ rest)[1].toNat = r.2.1 := by
    have hx : (rawE r ++ rest)[1] = ((rawE r ++ rest).drop 1)[0]'(by rw [List.length_drop]; omega) := by simp
    rw [hx, ← worth1 _ (by rw [List.length_drop]; omega), d1]
    have h := List.take_left' (l₁ := laid r.2.1 1) (l₂ := laid r.2.2.size (sizeE r) ++ r.2.2.data.toList ++ rest) (laid_length _ 1)
    rw [h, worth_laid]
    omega
  have d2 : (rawE r ++ rest).drop 2 = laid r.2.2.size (sizeE r) ++ (r.2.2.data.toList ++ rest) := by
    rw [show 2 = 1 + 1 from rfl, ← List.drop_drop, d1]
    have h := List.drop_left' (l₁ := laid r.2.1 1) (l₂ := laid r.2.2.size (sizeE r) ++ r.2.2.data.toList ++ rest) (laid_length _ 1)
    rw [h, List.append_assoc]
  have w2 : worth (((rawE r ++ rest).drop 2).take (sizeE r)) = r.2.2.size := by
    rw [d2]
    have h := List.take_left' (l₁ := laid r.2.2.size (sizeE r)) (l₂ := r.2.2.data.toList ++ rest) (laid_length _ _)
    rw [h, worth_laid, Nat.mod_eq_of_lt hn]
  have d3 : (rawE r ++ rest).drop (2 + sizeE r) = r.2.2.data.toList ++ rest := by
    rw [← List.drop_drop, d2]
    exact List.drop_left' (laid_length _ _)
  rw [rawI_ref _ h3, e0, e1, hz, w2, d3, if_pos ⟨by omega, by omega⟩]
  have t3 : (r.2.2.data.toList ++ rest).take r.2.2.size = r.2.2.data.toList := List.take_left' hdat
  have d4 : (rawE r ++ rest).drop (2 + sizeE r + r.2.2.size) = rest := by
    rw [← List.drop_drop, d3]
    exact List.drop_left' hdat
  rw [t3, d4]
  have hb : (⟨r.2.2.data.toList.toArray⟩ : ByteArray) = r.2.2 := by apply ByteArray.ext; simp
  rw [hb]
  rfl
theorem rawE_ne (r : Rw) (rest : List UInt8) : rawE r ++ rest ≠ [] := by
  intro h
  have := congrArg List.length h
  rw [List.length_append, rawE_length] at this
  simp at this
theorem splitI_lay (R : List Rw) (tail : List UInt8) (n : Nat) (h : ∀ r ∈ R, r.1 < 256 ∧ r.2.1 < 256 ∧ r.2.2.size < 65536) : splitI (R.length + n) (layE R ++ tail) = (splitI n tail).map (R.map relaid ++ ·) := by
  induction R with
  | nil => simp [layE]
  | cons r R ih =>
    have hr := h r (by simp)
    have e : layE (r :: R) ++ tail = rawE r ++ (layE R ++ tail) := by simp [layE]
    rw [e, show (r :: R).length + n = (R.length + n) + 1 by simp; omega, splitI_step _ _ _ _ (rawE_ne r _) (rawI_back r _ hr.1 hr.2.1 hr.2.2), ih (fun q hq => h q (by simp [hq]))]
    cases splitI n tail <;> simp
theorem layE_ge (R : List Rw) : R.length * 3 ≤ (layE R).length := by
  induction R with
  | nil => simp [layE]
  | cons r R ih =>
    have h1 := rawE_length r
    have h2 : 1 ≤ sizeE r := by unfold sizeE; split <;> omega
    have e : (layE (r :: R)).length = (rawE r).length + (layE R).length := by simp [layE]
    rw [e]
    simp only [List.length_cons]
    omega
theorem layE_val (R : List Rw) (r : Rw) (hr : r ∈ R) : r.2.2.size ≤ (layE R).length := by
  induction R with
  | nil => simp at hr
  | cons q R ih =>
    have e : (layE (q :: R)).length = (rawE q).length + (layE R).length := by simp [layE]
    rw [e]
    rcases List.mem_cons.mp hr with rfl | hr
    · have := rawE_length r; omega
    · have := ih hr; omega
/-- What is laid is split as it was. -/
theorem split_lay (R : List Rw) (h : ∀ r ∈ R, r.1 < 256 ∧ r.2.1 < 256) (hl : (layE R).length ≤ 4077) : splitI (layE R).length (layE R) = some (R.map relaid) := by
  have hge := layE_ge R
  have hx := splitI_lay R [] ((layE R).length - R.length) (fun r hr => ⟨(h r hr).1, (h r hr).2, by have := layE_val R r hr; omega⟩)
  rw [List.append_nil, show R.length + ((layE R).length - R.length) = (layE R).length by omega, splitI_nil] at hx
  simpa using hx
theorem split_more (R : List Rw) (h : ∀ r ∈ R, r.1 < 256 ∧ r.2.1 < 256) (hl : (layE R).length ≤ 4077) : splitI (layE R ++ ([64] : List UInt8)).length (layE R ++ ([64] : List UInt8)) = none := by
  have hge := layE_ge R
  have hx := splitI_lay R ([64] : List UInt8) ((layE R ++ ([64] : List UInt8)).length - R.length) (fun r hr => ⟨(h r hr).1, (h r hr).2, by have := layE_val R r hr; omega⟩)
  have hle : R.length + ((layE R ++ ([64] : List UInt8)).length - R.length) = (layE R ++ ([64] : List UInt8)).length := by rw [List.length_append]; omega
  rw [hle, splitI_bad _ _ (by simp) (rawI_short [64] (by simp) (by simp))] at hx
  simpa using hx
end Go.Proofs.YtpahnebhcfpplabGreatDoor
namespace Go.Proofs.YtpahnebhcfpplabGreatDoor
open Go.RowKit
theorem RawsAt.first {w : World} {ad : Option Addr} {n cap : Nat} {R : List Rw} (h : RawsAt w (.slice ad n cap) R) (k : Nat) (hk : k ≤ R.length) : RawsAt w (.slice ad k cap) (R.take k) := by
  obtain ⟨ad', b, off, cap', h1, h2, ⟨h3, h3'⟩, h4⟩ := h
  simp only [Value.slice.injEq] at h1
  obtain ⟨rfl, rfl, rfl⟩ := h1
  have hl : (R.take k).length = k := by simp; omega
  refine ⟨ad, b, off, cap, by rw [hl], ?_, ⟨by omega, by omega⟩, ?_⟩
  · rcases h2 with h2 | h2
    · exact Or.inl h2
    · right; omega
  · intro i hi
    have := h4 i (by omega)
    rw [List.getElem_take]
    exact this
theorem RawsAt.ok {w : World} {v : Value} {R : List Rw} (h : RawsAt w v R) : ∀ r ∈ R, r.1 < 256 ∧ r.2.1 < 256 ∧ r.2.2.size ≤ 4611686018427387904 := by
  obtain ⟨_, _, _, _, _, _, _, hr⟩ := h
  intro r hr'
  obtain ⟨j, hj, e⟩ := List.getElem_of_mem hr'
  rw [← e]; exact (hr j hj).2
theorem and8 (f : Nat) (h : f < 256) : bits .and .u8 (f : Int) 16 = ((f &&& 16 : Nat) : Int) := by
  have : ∀ f : Fin 256, bits .and .u8 ((f.1 : Nat) : Int) 16 = ((f.1 &&& 16 : Nat) : Int) := by decide +kernel
  exact this ⟨f, h⟩
theorem flag239 (f : Nat) (h : f < 256) : (f ||| 16) &&& 239 = f &&& 239 ∧ (f &&& 239) &&& 239 = f &&& 239 := by
  have : ∀ f : Fin 256, (f.1 ||| 16) &&& 239 = f.1 &&& 239 ∧ (f.1 &&& 239) &&& 239 = f.1 &&& 239 := by decide +kernel
  exact this ⟨f, h⟩
set_option maxRecDepth 100000 in
set_option maxHeartbeats 6400000 in
theorem again_any (v : Value) (R : List Rw) (w : World) (h : RawsAt w v R) (ht : Tabs w) :
    Calls Tryz.prog 3 #[v] w fun e w' => e = .returned (.bool true) ∧ Below w.heap.size w w' := by
  have HT : Hid (Tabs _) := ht
  have H : Hid (RawsAt _ _ _) := h
  clear ht
  obtain ⟨ad, b, off, cap, rfl, had, ⟨hcap, hl⟩, hr⟩ := h
  clear had hr
  by_cases h100 : R.length ≤ 100
  · have hm : min (R.length : Int) 100 = R.length := by omega
    have hn : ¬ (100 < (R.length : Int)) := by omega
    go_enter Tryz.func3, Tryz.ntmps3
    go_wp2_with fail
    refine (works_any w HT.out).mono ?_
    rintro e w1 ⟨rfl, hb1⟩
    have HA : Hid (RawsAt w1 _ R) := H.out.below hb1
    have HB1 : Hid (Below _ _ _) := hb1
    have HAOK : Hid (∀ r ∈ R, r.1 < 256 ∧ r.2.1 < 256 ∧ r.2.2.size ≤ 4611686018427387904) := H.out.ok
    have HAL : Hid (R.length ≤ 100) := h100
    clear h100 H hb1
    generalize R = A at *
    go_wp2_with fail
    refine (lay_any _ A w1 HA.out).mono ?_
    rintro e w2 ⟨rfl, hb2⟩
    have HA2 : Hid (RawsAt w2 _ A) := HA.out.below hb2
    have HB2 : Hid (Below w.heap.size w w2) := HB1.out.trans (hb2.mono HB1.out.size)
    clear hb2 HB1 HA
    by_cases hfit : (layE A).length ≤ 4077
    · rw [show layAns A = .tuple #[.string ⟨(layE A).toArray⟩, .int .i64 0] by unfold layAns; rw [if_pos hfit]]
      have hok := HAOK.out
      have hlenA : A.length ≤ 100 := HAL.out
      have HSP : Hid (Calls Tryz.prog 9 #[.string ⟨(layE A).toArray⟩] w2 fun e w' => SplitOk (some (A.map relaid)) w2 e w') := by
        have hx := split_any (layE A) w2 (by omega)
        rw [split_lay A (fun r hr => ⟨(hok r hr).1, (hok r hr).2.1⟩) hfit] at hx
        exact hx
      have HSM : Hid (∀ W, Calls Tryz.prog 9 #[.string ⟨(layE A ++ ([64] : List UInt8)).toArray⟩] W fun e w' => SplitOk none W e w') := fun W => by
        have hx := split_any (layE A ++ ([64] : List UInt8)) W (by rw [List.length_append]; simp; omega)
        rw [split_more A (fun r hr => ⟨(hok r hr).1, (hok r hr).2.1⟩) hfit] at hx
        exact hx
      have hadd : ∀ W, (Op.stringOp .add (⟨(layE A).toArray⟩ : ByteArray) ⟨#[64]⟩).run Tryz.prog W = .ok (.string ⟨(layE A ++ ([64] : List UInt8)).toArray⟩) W := fun W => by
        have hx := run_string_add_if (P := Tryz.prog) W ⟨(layE A).toArray⟩ ⟨#[64]⟩
        rw [if_neg (by rw [list_size]; have : (⟨#[64]⟩ : ByteArray).size = 1 := rfl; omega), show (⟨#[64]⟩ : ByteArray) = ⟨([64] : List UInt8).toArray⟩ from rfl, strAdd] at hx
        exact hx
      have HADD : Hid (∀ W, (Op.stringOp .add (⟨(layE A).toArray⟩ : ByteArray) ⟨#[64]⟩).run Tryz.prog W = .ok (.string ⟨(layE A ++ ([64] : List UInt8)).toArray⟩) W) := hadd
      clear hadd hok
      generalize (⟨(layE A ++ ([64] : List UInt8)).toArray⟩ : ByteArray) = sm at *
      generalize (⟨(layE A).toArray⟩ : ByteArray) = sl at *
      clear hfit
      go_wp2_with fail
      refine HSP.out.mono ?_
      rintro e w3 ⟨hb3, v3, rfl, ho3⟩
      obtain ⟨ad3, c3, rfl⟩ := slice_of_owns ho3
      have hr3 : RawsAt w3 _ (A.map relaid) := ho3.at (fun q hq => by
        obtain ⟨r, hr, rfl⟩ := List.mem_map.mp hq
        have h1 := HAOK.out r hr
        exact ⟨flagE_lt r h1.1, h1.2.1, h1.2.2⟩) (by rw [List.length_map]; omega)
      have HR3 : Hid (RawsAt w3 _ (A.map relaid)) := hr3
      have HA3 : Hid (RawsAt w3 _ A) := HA2.out.below hb3
      have HB3 : Hid (Below w.heap.size w w3) := HB2.out.trans (hb3.mono HB2.out.size)
      clear hb3 ho3 HSP HA2 HB2 hr3
      rw [List.length_map] at *
      go_wp2
      obtain ⟨adA, bA, offA, capA, hA1, hA2, ⟨_, _⟩, hA4⟩ := HA3.out
      obtain ⟨adR, bR, offR, capR, hR1, hR2, ⟨_, _⟩, hR4⟩ := HR3.out
      simp only [Value.slice.injEq, List.length_map] at hA1 hR1 hR2
      obtain ⟨rfl, hn1, rfl⟩ := hA1
      obtain ⟨rfl, _, rfl⟩ := hR1
      have HRA : Hid (RowR _ _ _ _) := hA4
      have HRR : Hid (RowR _ _ _ _) := hR4
      have HN1 : Hid (A.length = A.length) := (by first | exact hn1 | rfl)
      clear hA4 hR4 hn1
      go_loopw [7] (fun i wr => ∃ k : Nat, k ≤ A.length ∧ i = .int .i64 k ∧ Below w3.heap.size w3 wr) (fun i _ => A.length - (intOf i).toNat)
      case atStart => exact ⟨0, Nat.zero_le _, rfl, Below.refl _ _⟩
      case round =>
        obtain ⟨k, hk, rfl, hbw⟩ := hrel
        have HB3w : Hid (Below _ _ _) := hbw
        by_cases hlt : k < A.length
        · have hltN : k < A.length := by rw [HN1.out]; exact hlt
          have hltM : k < (A.map relaid).length := by rw [List.length_map]; exact hlt
          have hadA : ad = some ⟨bA, offA, none⟩ := by rcases hA2 with h | h; exact h; omega
          have hadR : ad3 = some ⟨bR, offR, none⟩ := by rcases hR2 with h | h; exact h; omega
          subst hadA hadR
          obtain ⟨⟨c0, c1, c2⟩, hf, ht, hs⟩ := (HRA.out.below hbw) k hlt
          have hd := (HRR.out.below hbw) k hltM
          rw [show (A.map relaid)[k]'hltM = relaid (A[k]'hlt) by simp] at hd
          obtain ⟨⟨d0, d1, d2⟩, _⟩ := hd
          rename_i hzz
          clear hzz hA2 hR2 hbw
          clear hltM
          generalize A[k] = r at *
          obtain ⟨f, t, v⟩ := r
          simp only [relaid] at c0 c1 c2 d0 d1 d2 hf ht hs
          by_cases hlong : 255 < v.size
          · skip
            have HFL : Hid (flagE (f, t, v) = f ||| 16) := by unfold Hid flagE; exact if_pos hlong
            rw [HFL.out] at d0
            have hbit := bit16 f hf
            have hflt := flag_lt f hf
            have hand := flag239 f hf
            have a1 := andNot8 (f ||| 16) (by omega)
            have a2 := andNot8 f hf
            have a3 := and8 (f ||| 16) (by omega)
            rw [hand.1] at a1
            rw [hbit.1] at a3
            have hli : (255 : Int) < (v.size : Int) := by omega
            have hld : decide ((255 : Int) < (v.size : Int)) = true := by simp; omega
            clear hbit hflt hand HFL
            generalize f ||| 16 = FF at *
            generalize f &&& 239 = Y at *
            go_wp2
            go_quiet (fail)
            go_wp2
            go_roundw
            case rel => exact ⟨k + 1, by omega, by go_num, below_drewN' HB3w.out _⟩
            case measure => simp [intOf]; omega
          · skip
            have HFL : Hid (flagE (f, t, v) = f &&& 239) := by unfold Hid flagE; exact if_neg hlong
            rw [HFL.out] at d0
            have hbit := bit16 f hf
            have hflt := flag_lt f hf
            have hand := flag239 f hf
            have a1 := andNot8 (f &&& 239) (by omega)
            have a2 := andNot8 f hf
            have a3 := and8 (f &&& 239) (by omega)
            rw [hand.2] at a1
            rw [hbit.2] at a3
            have hli : ¬ ((255 : Int) < (v.size : Int)) := by omega
            have hld : decide ((255 : Int) < (v.size : Int)) = false := by simp; omega
            clear hbit hflt hand HFL
            generalize f &&& 239 = FF at *
            skip
            go_wp2
            go_quiet (fail)
            go_wp2
            go_roundw
            case rel => exact ⟨k + 1, by omega, by go_num, below_drewN' HB3w.out _⟩
            case measure => simp [intOf]; omega
        · obtain rfl : k = A.length := by omega
          have HBX : Hid (Below w.heap.size w wr) := HB3.out.trans (hbw.mono HB3.out.size)
          clear hbw HB3w hA2 hR2
          have hadd := HADD.out
          go_wp2_with fail
          refine (HSM.out _).mono ?_
          rintro e w5 ⟨hb5, rfl⟩
          have HB5 : Hid (Below w.heap.size w w5) := HBX.out.trans (hb5.mono HBX.out.size)
          clear hb5
          go_wp2
          go_ret
          exact ⟨rfl, HB5.out⟩
    · rw [show layAns A = .tuple #[.string ⟨#[]⟩, .int .i64 3] by unfold layAns; rw [if_neg hfit]]
      clear hfit
      go_wp2
      go_ret
      exact ⟨rfl, HB2.out⟩
  · have h101 : 100 < (R.length : Int) := by omega
    have hm : min (R.length : Int) 100 = 100 := by omega
    go_enter Tryz.func3, Tryz.ntmps3
    go_wp2_with fail
    refine (works_any w HT.out).mono ?_
    rintro e w1 ⟨rfl, hb1⟩
    have HA : Hid (RawsAt w1 (.slice ad 100 cap) (R.take 100)) := (H.out.below hb1).first 100 (by omega)
    have HB1 : Hid (Below _ _ _) := hb1
    have HAOK : Hid (∀ r ∈ R.take 100, r.1 < 256 ∧ r.2.1 < 256 ∧ r.2.2.size ≤ 4611686018427387904) := HA.out.ok
    have HAL : Hid ((R.take 100).length ≤ 100) := by unfold Hid; simp; omega
    have hA100 : (R.take 100).length = 100 := by simp; omega
    clear h100 H hb1
    generalize R.take 100 = A at *
    go_wp2_with fail
    refine (lay_any _ A w1 HA.out).mono ?_
    rintro e w2 ⟨rfl, hb2⟩
    have HA2 : Hid (RawsAt w2 _ A) := HA.out.below hb2
    have HB2 : Hid (Below w.heap.size w w2) := HB1.out.trans (hb2.mono HB1.out.size)
    clear hb2 HB1 HA
    by_cases hfit : (layE A).length ≤ 4077
    · rw [show layAns A = .tuple #[.string ⟨(layE A).toArray⟩, .int .i64 0] by unfold layAns; rw [if_pos hfit]]
      have hok := HAOK.out
      have hlenA : A.length ≤ 100 := HAL.out
      have HSP : Hid (Calls Tryz.prog 9 #[.string ⟨(layE A).toArray⟩] w2 fun e w' => SplitOk (some (A.map relaid)) w2 e w') := by
        have hx := split_any (layE A) w2 (by omega)
        rw [split_lay A (fun r hr => ⟨(hok r hr).1, (hok r hr).2.1⟩) hfit] at hx
        exact hx
      have HSM : Hid (∀ W, Calls Tryz.prog 9 #[.string ⟨(layE A ++ ([64] : List UInt8)).toArray⟩] W fun e w' => SplitOk none W e w') := fun W => by
        have hx := split_any (layE A ++ ([64] : List UInt8)) W (by rw [List.length_append]; simp; omega)
        rw [split_more A (fun r hr => ⟨(hok r hr).1, (hok r hr).2.1⟩) hfit] at hx
        exact hx
      have hadd : ∀ W, (Op.stringOp .add (⟨(layE A).toArray⟩ : ByteArray) ⟨#[64]⟩).run Tryz.prog W = .ok (.string ⟨(layE A ++ ([64] : List UInt8)).toArray⟩) W := fun W => by
        have hx := run_string_add_if (P := Tryz.prog) W ⟨(layE A).toArray⟩ ⟨#[64]⟩
        rw [if_neg (by rw [list_size]; have : (⟨#[64]⟩ : ByteArray).size = 1 := rfl; omega), show (⟨#[64]⟩ : ByteArray) = ⟨([64] : List UInt8).toArray⟩ from rfl, strAdd] at hx
        exact hx
      have HADD : Hid (∀ W, (Op.stringOp .add (⟨(layE A).toArray⟩ : ByteArray) ⟨#[64]⟩).run Tryz.prog W = .ok (.string ⟨(layE A ++ ([64] : List UInt8)).toArray⟩) W) := hadd
      clear hadd hok
      generalize (⟨(layE A ++ ([64] : List UInt8)).toArray⟩ : ByteArray) = sm at *
      generalize (⟨(layE A).toArray⟩ : ByteArray) = sl at *
      clear hfit
      go_wp2_with fail
      refine HSP.out.mono ?_
      rintro e w3 ⟨hb3, v3, rfl, ho3⟩
      obtain ⟨ad3, c3, rfl⟩ := slice_of_owns ho3
      have hr3 : RawsAt w3 _ (A.map relaid) := ho3.at (fun q hq => by
        obtain ⟨r, hr, rfl⟩ := List.mem_map.mp hq
        have h1 := HAOK.out r hr
        exact ⟨flagE_lt r h1.1, h1.2.1, h1.2.2⟩) (by rw [List.length_map]; omega)
      have HR3 : Hid (RawsAt w3 _ (A.map relaid)) := hr3
      have HA3 : Hid (RawsAt w3 _ A) := HA2.out.below hb3
      have HB3 : Hid (Below w.heap.size w w3) := HB2.out.trans (hb3.mono HB2.out.size)
      clear hb3 ho3 HSP HA2 HB2 hr3
      rw [List.length_map] at *
      go_wp2
      obtain ⟨adA, bA, offA, capA, hA1, hA2, ⟨_, _⟩, hA4⟩ := HA3.out
      obtain ⟨adR, bR, offR, capR, hR1, hR2, ⟨_, _⟩, hR4⟩ := HR3.out
      simp only [Value.slice.injEq, List.length_map] at hA1 hR1 hR2
      obtain ⟨rfl, hn1, rfl⟩ := hA1
      obtain ⟨rfl, _, rfl⟩ := hR1
      have HRA : Hid (RowR _ _ _ _) := hA4
      have HRR : Hid (RowR _ _ _ _) := hR4
      have HN1 : Hid (100 = A.length) := (by first | exact hn1 | rfl)
      clear hA4 hR4 hn1
      go_loopw [7] (fun i wr => ∃ k : Nat, k ≤ A.length ∧ i = .int .i64 k ∧ Below w3.heap.size w3 wr) (fun i _ => A.length - (intOf i).toNat)
      case atStart => exact ⟨0, Nat.zero_le _, rfl, Below.refl _ _⟩
      case round =>
        obtain ⟨k, hk, rfl, hbw⟩ := hrel
        have HB3w : Hid (Below _ _ _) := hbw
        by_cases hlt : k < A.length
        · have hltN : k < 100 := by rw [HN1.out]; exact hlt
          have hltM : k < (A.map relaid).length := by rw [List.length_map]; exact hlt
          have hadA : ad = some ⟨bA, offA, none⟩ := by rcases hA2 with h | h; exact h; omega
          have hadR : ad3 = some ⟨bR, offR, none⟩ := by rcases hR2 with h | h; exact h; omega
          subst hadA hadR
          obtain ⟨⟨c0, c1, c2⟩, hf, ht, hs⟩ := (HRA.out.below hbw) k hlt
          have hd := (HRR.out.below hbw) k hltM
          rw [show (A.map relaid)[k]'hltM = relaid (A[k]'hlt) by simp] at hd
          obtain ⟨⟨d0, d1, d2⟩, _⟩ := hd
          rename_i hzz
          clear hzz hA2 hR2 hbw
          clear hltM
          generalize A[k] = r at *
          obtain ⟨f, t, v⟩ := r
          simp only [relaid] at c0 c1 c2 d0 d1 d2 hf ht hs
          by_cases hlong : 255 < v.size
          · skip
            have HFL : Hid (flagE (f, t, v) = f ||| 16) := by unfold Hid flagE; exact if_pos hlong
            rw [HFL.out] at d0
            have hbit := bit16 f hf
            have hflt := flag_lt f hf
            have hand := flag239 f hf
            have a1 := andNot8 (f ||| 16) (by omega)
            have a2 := andNot8 f hf
            have a3 := and8 (f ||| 16) (by omega)
            rw [hand.1] at a1
            rw [hbit.1] at a3
            have hli : (255 : Int) < (v.size : Int) := by omega
            have hld : decide ((255 : Int) < (v.size : Int)) = true := by simp; omega
            clear hbit hflt hand HFL
            generalize f ||| 16 = FF at *
            generalize f &&& 239 = Y at *
            go_wp2
            go_quiet (fail)
            go_wp2
            go_roundw
            case rel => exact ⟨k + 1, by omega, by go_num, below_drewN' HB3w.out _⟩
            case measure => simp [intOf]; omega
          · skip
            have HFL : Hid (flagE (f, t, v) = f &&& 239) := by unfold Hid flagE; exact if_neg hlong
            rw [HFL.out] at d0
            have hbit := bit16 f hf
            have hflt := flag_lt f hf
            have hand := flag239 f hf
            have a1 := andNot8 (f &&& 239) (by omega)
            have a2 := andNot8 f hf
            have a3 := and8 (f &&& 239) (by omega)
            rw [hand.2] at a1
            rw [hbit.2] at a3
            have hli : ¬ ((255 : Int) < (v.size : Int)) := by omega
            have hld : decide ((255 : Int) < (v.size : Int)) = false := by simp; omega
            clear hbit hflt hand HFL
            generalize f &&& 239 = FF at *
            skip
            go_wp2
            go_quiet (fail)
            go_wp2
            go_roundw
            case rel => exact ⟨k + 1, by omega, by go_num, below_drewN' HB3w.out _⟩
            case measure => simp [intOf]; omega
        · obtain rfl : k = A.length := by omega
          have HBX : Hid (Below w.heap.size w wr) := HB3.out.trans (hbw.mono HB3.out.size)
          clear hbw HB3w hA2 hR2
          have hadd := HADD.out
          go_wp2_with fail
          refine (HSM.out _).mono ?_
          rintro e w5 ⟨hb5, rfl⟩
          have HB5 : Hid (Below w.heap.size w w5) := HBX.out.trans (hb5.mono HBX.out.size)
          clear hb5
          go_wp2
          go_ret
          exact ⟨rfl, HB5.out⟩
    · rw [show layAns A = .tuple #[.string ⟨#[]⟩, .int .i64 3] by unfold layAns; rw [if_neg hfit]]
      clear hfit
      go_wp2
      go_ret
      exact ⟨rfl, HB2.out⟩
end Go.Proofs.YtpahnebhcfpplabGreatDoor
