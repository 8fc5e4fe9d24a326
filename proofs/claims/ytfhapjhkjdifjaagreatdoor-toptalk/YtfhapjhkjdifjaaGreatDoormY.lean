/-
  Size of bodies that are of no wrong length.
-/
import Derived.Test.YtfhapjhkjdifjaaGreatDoormZ
namespace Go.Proofs.YtfhapjhkjdifjaaGreatDoor.Ms
open Go.RowKit
/-- A verdict as a value. -/
def vdV (s : Int) : Value := .agg (vdC s)
theorem fx_no {k : Int} (h : isK k = false) : fxK k = false := by
  unfold isK at h; unfold fxK; simp at h ⊢; omega
theorem vdC_all (s : Int) : (vdC s).all (·.oneCell') = true := one25 s
set_option maxHeartbeats 1600000 in
theorem sz_n1 (k b : Int) (hk : isK k = false) (h1 : b < lN k) (w : World) : Calls Tryz.prog 7 #[.int .i64 k, .int .i64 b] w fun e w' => e = .returned (vdV (szW k b)) ∧ Below w.heap.size w w' := by
  have hv0 : VAt w ((w.alloc (.cells #[.int .i64 0, .int .u8 0, .int .u8 0] 37)).alloc (.cells #[.int .i64 0, .int .u8 0, .int .u8 0] 37)) 0 :=
    ⟨hp_new (by simp), hp_up (hp_new rfl), ((Below.refl _ _).alloc (Nat.le_refl _) _).alloc (by simp) _⟩
  have HV0 : Hid (VAt _ _ _) := hv0
  clear hv0
  have HS : Hid (szW k b = 3) := by unfold Hid szW; rw [if_pos hk]
  have HK : Hid (_ : Prop) := least_any k ((w.alloc (.cells #[.int .i64 0, .int .u8 0, .int .u8 0] 37)).alloc (.cells #[.int .i64 0, .int .u8 0, .int .u8 0] 37))
  rw [hk] at HK
  have HF : Hid (_ : Prop) := isFixed_any k
  rw [show fxK k = false from fx_no hk] at HF
  skip
  generalize hL : lN k = L at *
  clear hk hL
  go_enter Tryz.func7, Tryz.ntmps7
  go_wp2_with fail
  refine Calls.mono HK.out ?_
  rintro e w1 ⟨rfl, hb1⟩
  have HV1 : Hid (VAt w w1 0) := HV0.out.next hb1
  clear hb1
  go_wp2_with fail
  refine Calls.mono (wrong_yes 3 w w1 (by omega) HV1.out) ?_
  rintro e w2 ⟨rfl, hv2⟩
  have HV2 : Hid (VAt w w2 3) := hv2
  clear hv2
  go_wp2_with fail
  refine Calls.mono (wrong_late 2 3 w w2 (by omega) HV2.out _) ?_
  rintro e w3 ⟨rfl, hv3⟩
  have HV3 : Hid (VAt w w3 3) := by rw [hv3]; exact HV2.out
  clear hv3
  go_wp2_with fail
  refine Calls.mono (HF.out w3) ?_
  rintro e w4 ⟨rfl, hw4⟩
  obtain rfl : w3 = w4 := hw4.symm
  clear hw4
  go_wp2_with fail
  refine Calls.mono (wrong_no 2 (w.heap.size + 1) w3) ?_
  rintro e w5 ⟨rfl, hv5⟩
  have HV9 : Hid (VAt w w5 3) := by rw [hv5]; exact HV3.out
  clear hv5
  go_wp2_with (first | (refine wpList_load_row rfl 37 _ rfl (w.heap.size + 1) rfl 37 (vdC 3) (0, 0) _ HV9.out.row Tryz.underlying37 rfl size25 ?_) | (refine wpList_store_row rfl 37 _ _ rfl w.heap.size (vdC 3) rfl rfl 37 _ HV9.out.res size25 rfl (one25 3) ?_))
  rw [HS.out]
  refine bodyPost_ret (v := vdV 3) (results_cell_row (P := Tryz.prog) rfl _ _ w.heap.size 37 (vdC 3) (0, 0) _ rfl (row_same _ _ _ _ HV9.out.res) Tryz.underlying37 rfl size25) rfl ⟨rfl, below_setRow HV9.out.bel (Nat.le_refl _) _⟩
set_option maxHeartbeats 1600000 in
theorem sz_n2 (k b : Int) (hk : isK k = false) (h1 : ¬ b < lN k) (w : World) : Calls Tryz.prog 7 #[.int .i64 k, .int .i64 b] w fun e w' => e = .returned (vdV (szW k b)) ∧ Below w.heap.size w w' := by
  have hv0 : VAt w ((w.alloc (.cells #[.int .i64 0, .int .u8 0, .int .u8 0] 37)).alloc (.cells #[.int .i64 0, .int .u8 0, .int .u8 0] 37)) 0 :=
    ⟨hp_new (by simp), hp_up (hp_new rfl), ((Below.refl _ _).alloc (Nat.le_refl _) _).alloc (by simp) _⟩
  have HV0 : Hid (VAt _ _ _) := hv0
  clear hv0
  have HS : Hid (szW k b = 3) := by unfold Hid szW; rw [if_pos hk]
  have HK : Hid (_ : Prop) := least_any k ((w.alloc (.cells #[.int .i64 0, .int .u8 0, .int .u8 0] 37)).alloc (.cells #[.int .i64 0, .int .u8 0, .int .u8 0] 37))
  rw [hk] at HK
  have HF : Hid (_ : Prop) := isFixed_any k
  rw [show fxK k = false from fx_no hk] at HF
  skip
  generalize hL : lN k = L at *
  clear hk hL
  go_enter Tryz.func7, Tryz.ntmps7
  go_wp2_with fail
  refine Calls.mono HK.out ?_
  rintro e w1 ⟨rfl, hb1⟩
  have HV1 : Hid (VAt w w1 0) := HV0.out.next hb1
  clear hb1
  go_wp2_with fail
  refine Calls.mono (wrong_yes 3 w w1 (by omega) HV1.out) ?_
  rintro e w2 ⟨rfl, hv2⟩
  have HV2 : Hid (VAt w w2 3) := hv2
  clear hv2
  go_wp2_with fail
  refine Calls.mono (wrong_late 2 3 w w2 (by omega) HV2.out _) ?_
  rintro e w3 ⟨rfl, hv3⟩
  have HV3 : Hid (VAt w w3 3) := by rw [hv3]; exact HV2.out
  clear hv3
  go_wp2_with fail
  refine Calls.mono (HF.out w3) ?_
  rintro e w4 ⟨rfl, hw4⟩
  obtain rfl : w3 = w4 := hw4.symm
  clear hw4
  go_wp2_with fail
  refine Calls.mono (wrong_no 2 (w.heap.size + 1) w3) ?_
  rintro e w5 ⟨rfl, hv5⟩
  have HV9 : Hid (VAt w w5 3) := by rw [hv5]; exact HV3.out
  clear hv5
  go_wp2_with (first | (refine wpList_load_row rfl 37 _ rfl (w.heap.size + 1) rfl 37 (vdC 3) (0, 0) _ HV9.out.row Tryz.underlying37 rfl size25 ?_) | (refine wpList_store_row rfl 37 _ _ rfl w.heap.size (vdC 3) rfl rfl 37 _ HV9.out.res size25 rfl (one25 3) ?_))
  rw [HS.out]
  refine bodyPost_ret (v := vdV 3) (results_cell_row (P := Tryz.prog) rfl _ _ w.heap.size 37 (vdC 3) (0, 0) _ rfl (row_same _ _ _ _ HV9.out.res) Tryz.underlying37 rfl size25) rfl ⟨rfl, below_setRow HV9.out.bel (Nat.le_refl _) _⟩
set_option maxHeartbeats 1600000 in
theorem sz_y0t (k b : Int) (hk : isK k = true) (h1 : b < lN k) (hf : fxK k = true) (w : World) : Calls Tryz.prog 7 #[.int .i64 k, .int .i64 b] w fun e w' => e = .returned (vdV (szW k b)) ∧ Below w.heap.size w w' := by
  have hv0 : VAt w ((w.alloc (.cells #[.int .i64 0, .int .u8 0, .int .u8 0] 37)).alloc (.cells #[.int .i64 0, .int .u8 0, .int .u8 0] 37)) 0 :=
    ⟨hp_new (by simp), hp_up (hp_new rfl), ((Below.refl _ _).alloc (Nat.le_refl _) _).alloc (by simp) _⟩
  have HV0 : Hid (VAt _ _ _) := hv0
  clear hv0
  have HS : Hid (szW k b = 2) := by unfold Hid szW; rw [if_neg (by rw [hk]; decide), if_pos (by exact Or.inl h1)]
  have HK : Hid (_ : Prop) := least_any k ((w.alloc (.cells #[.int .i64 0, .int .u8 0, .int .u8 0] 37)).alloc (.cells #[.int .i64 0, .int .u8 0, .int .u8 0] 37))
  rw [hk] at HK
  have HF : Hid (_ : Prop) := isFixed_any k
  rw [show fxK k = true from hf] at HF
  clear hf
  generalize hL : lN k = L at *
  clear hk hL
  go_enter Tryz.func7, Tryz.ntmps7
  go_wp2_with fail
  refine Calls.mono HK.out ?_
  rintro e w1 ⟨rfl, hb1⟩
  have HV1 : Hid (VAt w w1 0) := HV0.out.next hb1
  clear hb1
  go_wp2_with fail
  refine Calls.mono (wrong_no 3 (w.heap.size + 1) w1) ?_
  rintro e w2 ⟨rfl, hv2⟩
  have HV2 : Hid (VAt w w2 0) := by rw [hv2]; exact HV1.out
  clear hv2
  go_wp2_with fail
  refine Calls.mono (wrong_yes 2 w w2 (by omega) HV2.out) ?_
  rintro e w3 ⟨rfl, hv3⟩
  have HV3 : Hid (VAt w w3 2) := hv3
  clear hv3
  go_wp2_with fail
  refine Calls.mono (HF.out w3) ?_
  rintro e w4 ⟨rfl, hw4⟩
  obtain rfl : w3 = w4 := hw4.symm
  clear hw4
  go_wp2_with fail
  refine Calls.mono (wrong_late 2 2 w w3 (by omega) HV3.out _) ?_
  rintro e w5 ⟨rfl, hv5⟩
  have HV9 : Hid (VAt w w5 2) := by rw [hv5]; exact HV3.out
  clear hv5
  go_wp2_with (first | (refine wpList_load_row rfl 37 _ rfl (w.heap.size + 1) rfl 37 (vdC 2) (0, 0) _ HV9.out.row Tryz.underlying37 rfl size25 ?_) | (refine wpList_store_row rfl 37 _ _ rfl w.heap.size (vdC 2) rfl rfl 37 _ HV9.out.res size25 rfl (one25 2) ?_))
  rw [HS.out]
  refine bodyPost_ret (v := vdV 2) (results_cell_row (P := Tryz.prog) rfl _ _ w.heap.size 37 (vdC 2) (0, 0) _ rfl (row_same _ _ _ _ HV9.out.res) Tryz.underlying37 rfl size25) rfl ⟨rfl, below_setRow HV9.out.bel (Nat.le_refl _) _⟩
set_option maxHeartbeats 1600000 in
theorem sz_y0f (k b : Int) (hk : isK k = true) (h1 : b < lN k) (hf : fxK k = false) (w : World) : Calls Tryz.prog 7 #[.int .i64 k, .int .i64 b] w fun e w' => e = .returned (vdV (szW k b)) ∧ Below w.heap.size w w' := by
  have hv0 : VAt w ((w.alloc (.cells #[.int .i64 0, .int .u8 0, .int .u8 0] 37)).alloc (.cells #[.int .i64 0, .int .u8 0, .int .u8 0] 37)) 0 :=
    ⟨hp_new (by simp), hp_up (hp_new rfl), ((Below.refl _ _).alloc (Nat.le_refl _) _).alloc (by simp) _⟩
  have HV0 : Hid (VAt _ _ _) := hv0
  clear hv0
  have HS : Hid (szW k b = 2) := by unfold Hid szW; rw [if_neg (by rw [hk]; decide), if_pos (by exact Or.inl h1)]
  have HK : Hid (_ : Prop) := least_any k ((w.alloc (.cells #[.int .i64 0, .int .u8 0, .int .u8 0] 37)).alloc (.cells #[.int .i64 0, .int .u8 0, .int .u8 0] 37))
  rw [hk] at HK
  have HF : Hid (_ : Prop) := isFixed_any k
  rw [show fxK k = false from hf] at HF
  clear hf
  generalize hL : lN k = L at *
  clear hk hL
  go_enter Tryz.func7, Tryz.ntmps7
  go_wp2_with fail
  refine Calls.mono HK.out ?_
  rintro e w1 ⟨rfl, hb1⟩
  have HV1 : Hid (VAt w w1 0) := HV0.out.next hb1
  clear hb1
  go_wp2_with fail
  refine Calls.mono (wrong_no 3 (w.heap.size + 1) w1) ?_
  rintro e w2 ⟨rfl, hv2⟩
  have HV2 : Hid (VAt w w2 0) := by rw [hv2]; exact HV1.out
  clear hv2
  go_wp2_with fail
  refine Calls.mono (wrong_yes 2 w w2 (by omega) HV2.out) ?_
  rintro e w3 ⟨rfl, hv3⟩
  have HV3 : Hid (VAt w w3 2) := hv3
  clear hv3
  go_wp2_with fail
  refine Calls.mono (HF.out w3) ?_
  rintro e w4 ⟨rfl, hw4⟩
  obtain rfl : w3 = w4 := hw4.symm
  clear hw4
  go_wp2_with fail
  refine Calls.mono (wrong_no 2 (w.heap.size + 1) w3) ?_
  rintro e w5 ⟨rfl, hv5⟩
  have HV9 : Hid (VAt w w5 2) := by rw [hv5]; exact HV3.out
  clear hv5
  go_wp2_with (first | (refine wpList_load_row rfl 37 _ rfl (w.heap.size + 1) rfl 37 (vdC 2) (0, 0) _ HV9.out.row Tryz.underlying37 rfl size25 ?_) | (refine wpList_store_row rfl 37 _ _ rfl w.heap.size (vdC 2) rfl rfl 37 _ HV9.out.res size25 rfl (one25 2) ?_))
  rw [HS.out]
  refine bodyPost_ret (v := vdV 2) (results_cell_row (P := Tryz.prog) rfl _ _ w.heap.size 37 (vdC 2) (0, 0) _ rfl (row_same _ _ _ _ HV9.out.res) Tryz.underlying37 rfl size25) rfl ⟨rfl, below_setRow HV9.out.bel (Nat.le_refl _) _⟩
set_option maxHeartbeats 1600000 in
theorem sz_y1t (k b : Int) (hk : isK k = true) (h1 : ¬ b < lN k) (h2 : 4077 < b) (hf : fxK k = true) (w : World) : Calls Tryz.prog 7 #[.int .i64 k, .int .i64 b] w fun e w' => e = .returned (vdV (szW k b)) ∧ Below w.heap.size w w' := by
  have hv0 : VAt w ((w.alloc (.cells #[.int .i64 0, .int .u8 0, .int .u8 0] 37)).alloc (.cells #[.int .i64 0, .int .u8 0, .int .u8 0] 37)) 0 :=
    ⟨hp_new (by simp), hp_up (hp_new rfl), ((Below.refl _ _).alloc (Nat.le_refl _) _).alloc (by simp) _⟩
  have HV0 : Hid (VAt _ _ _) := hv0
  clear hv0
  have HS : Hid (szW k b = 2) := by unfold Hid szW; rw [if_neg (by rw [hk]; decide), if_pos (by exact Or.inr (Or.inl h2))]
  have HK : Hid (_ : Prop) := least_any k ((w.alloc (.cells #[.int .i64 0, .int .u8 0, .int .u8 0] 37)).alloc (.cells #[.int .i64 0, .int .u8 0, .int .u8 0] 37))
  rw [hk] at HK
  have HF : Hid (_ : Prop) := isFixed_any k
  rw [show fxK k = true from hf] at HF
  clear hf
  generalize hL : lN k = L at *
  clear hk hL
  go_enter Tryz.func7, Tryz.ntmps7
  go_wp2_with fail
  refine Calls.mono HK.out ?_
  rintro e w1 ⟨rfl, hb1⟩
  have HV1 : Hid (VAt w w1 0) := HV0.out.next hb1
  clear hb1
  go_wp2_with fail
  refine Calls.mono (wrong_no 3 (w.heap.size + 1) w1) ?_
  rintro e w2 ⟨rfl, hv2⟩
  have HV2 : Hid (VAt w w2 0) := by rw [hv2]; exact HV1.out
  clear hv2
  go_wp2_with fail
  refine Calls.mono (wrong_yes 2 w w2 (by omega) HV2.out) ?_
  rintro e w3 ⟨rfl, hv3⟩
  have HV3 : Hid (VAt w w3 2) := hv3
  clear hv3
  go_wp2_with fail
  refine Calls.mono (HF.out w3) ?_
  rintro e w4 ⟨rfl, hw4⟩
  obtain rfl : w3 = w4 := hw4.symm
  clear hw4
  go_wp2_with fail
  refine Calls.mono (wrong_late 2 2 w w3 (by omega) HV3.out _) ?_
  rintro e w5 ⟨rfl, hv5⟩
  have HV9 : Hid (VAt w w5 2) := by rw [hv5]; exact HV3.out
  clear hv5
  go_wp2_with (first | (refine wpList_load_row rfl 37 _ rfl (w.heap.size + 1) rfl 37 (vdC 2) (0, 0) _ HV9.out.row Tryz.underlying37 rfl size25 ?_) | (refine wpList_store_row rfl 37 _ _ rfl w.heap.size (vdC 2) rfl rfl 37 _ HV9.out.res size25 rfl (one25 2) ?_))
  rw [HS.out]
  refine bodyPost_ret (v := vdV 2) (results_cell_row (P := Tryz.prog) rfl _ _ w.heap.size 37 (vdC 2) (0, 0) _ rfl (row_same _ _ _ _ HV9.out.res) Tryz.underlying37 rfl size25) rfl ⟨rfl, below_setRow HV9.out.bel (Nat.le_refl _) _⟩
set_option maxHeartbeats 1600000 in
theorem sz_y1f (k b : Int) (hk : isK k = true) (h1 : ¬ b < lN k) (h2 : 4077 < b) (hf : fxK k = false) (w : World) : Calls Tryz.prog 7 #[.int .i64 k, .int .i64 b] w fun e w' => e = .returned (vdV (szW k b)) ∧ Below w.heap.size w w' := by
  have hv0 : VAt w ((w.alloc (.cells #[.int .i64 0, .int .u8 0, .int .u8 0] 37)).alloc (.cells #[.int .i64 0, .int .u8 0, .int .u8 0] 37)) 0 :=
    ⟨hp_new (by simp), hp_up (hp_new rfl), ((Below.refl _ _).alloc (Nat.le_refl _) _).alloc (by simp) _⟩
  have HV0 : Hid (VAt _ _ _) := hv0
  clear hv0
  have HS : Hid (szW k b = 2) := by unfold Hid szW; rw [if_neg (by rw [hk]; decide), if_pos (by exact Or.inr (Or.inl h2))]
  have HK : Hid (_ : Prop) := least_any k ((w.alloc (.cells #[.int .i64 0, .int .u8 0, .int .u8 0] 37)).alloc (.cells #[.int .i64 0, .int .u8 0, .int .u8 0] 37))
  rw [hk] at HK
  have HF : Hid (_ : Prop) := isFixed_any k
  rw [show fxK k = false from hf] at HF
  clear hf
  generalize hL : lN k = L at *
  clear hk hL
  go_enter Tryz.func7, Tryz.ntmps7
  go_wp2_with fail
  refine Calls.mono HK.out ?_
  rintro e w1 ⟨rfl, hb1⟩
  have HV1 : Hid (VAt w w1 0) := HV0.out.next hb1
  clear hb1
  go_wp2_with fail
  refine Calls.mono (wrong_no 3 (w.heap.size + 1) w1) ?_
  rintro e w2 ⟨rfl, hv2⟩
  have HV2 : Hid (VAt w w2 0) := by rw [hv2]; exact HV1.out
  clear hv2
  go_wp2_with fail
  refine Calls.mono (wrong_yes 2 w w2 (by omega) HV2.out) ?_
  rintro e w3 ⟨rfl, hv3⟩
  have HV3 : Hid (VAt w w3 2) := hv3
  clear hv3
  go_wp2_with fail
  refine Calls.mono (HF.out w3) ?_
  rintro e w4 ⟨rfl, hw4⟩
  obtain rfl : w3 = w4 := hw4.symm
  clear hw4
  go_wp2_with fail
  refine Calls.mono (wrong_no 2 (w.heap.size + 1) w3) ?_
  rintro e w5 ⟨rfl, hv5⟩
  have HV9 : Hid (VAt w w5 2) := by rw [hv5]; exact HV3.out
  clear hv5
  go_wp2_with (first | (refine wpList_load_row rfl 37 _ rfl (w.heap.size + 1) rfl 37 (vdC 2) (0, 0) _ HV9.out.row Tryz.underlying37 rfl size25 ?_) | (refine wpList_store_row rfl 37 _ _ rfl w.heap.size (vdC 2) rfl rfl 37 _ HV9.out.res size25 rfl (one25 2) ?_))
  rw [HS.out]
  refine bodyPost_ret (v := vdV 2) (results_cell_row (P := Tryz.prog) rfl _ _ w.heap.size 37 (vdC 2) (0, 0) _ rfl (row_same _ _ _ _ HV9.out.res) Tryz.underlying37 rfl size25) rfl ⟨rfl, below_setRow HV9.out.bel (Nat.le_refl _) _⟩
end Go.Proofs.YtfhapjhkjdifjaaGreatDoor.Ms
namespace Go.Proofs.YtfhapjhkjdifjaaGreatDoor.Ms
open Go.RowKit
set_option maxHeartbeats 1600000 in
theorem sz_z1 (k b : Int) (hk : isK k = true) (h1 : ¬ b < lN k) (h2 : ¬ 4077 < b) (hf : fxK k = true) (h3 : b ≠ lN k) (w : World) : Calls Tryz.prog 7 #[.int .i64 k, .int .i64 b] w fun e w' => e = .returned (vdV (szW k b)) ∧ Below w.heap.size w w' := by
  have hv0 : VAt w ((w.alloc (.cells #[.int .i64 0, .int .u8 0, .int .u8 0] 37)).alloc (.cells #[.int .i64 0, .int .u8 0, .int .u8 0] 37)) 0 :=
    ⟨hp_new (by simp), hp_up (hp_new rfl), ((Below.refl _ _).alloc (Nat.le_refl _) _).alloc (by simp) _⟩
  have HV0 : Hid (VAt _ _ _) := hv0
  clear hv0
  have HS : Hid (szW k b = 2) := by unfold Hid szW; rw [if_neg (by rw [hk]; decide), if_pos (by exact Or.inr (Or.inr ⟨hf, h3⟩))]
  have HK : Hid (_ : Prop) := least_any k ((w.alloc (.cells #[.int .i64 0, .int .u8 0, .int .u8 0] 37)).alloc (.cells #[.int .i64 0, .int .u8 0, .int .u8 0] 37))
  rw [hk] at HK
  have HF : Hid (_ : Prop) := isFixed_any k
  rw [show fxK k = true from hf] at HF
  have g2 : decide (4077 < b) = false := decide_eq_false h2
  have g1 : decide (b < lN k) = false := decide_eq_false h1
  clear h1 h2
  have g3 : (b != lN k) = true := by simp [h3]
  clear hf h3
  generalize hL : lN k = L at *
  clear hk hL
  go_enter Tryz.func7, Tryz.ntmps7
  go_wp2_with fail
  refine Calls.mono HK.out ?_
  rintro e w1 ⟨rfl, hb1⟩
  have HV1 : Hid (VAt w w1 0) := HV0.out.next hb1
  clear hb1
  go_wp2_with fail
  refine Calls.mono (wrong_no 3 (w.heap.size + 1) w1) ?_
  rintro e w2 ⟨rfl, hv2⟩
  have HV2 : Hid (VAt w w2 0) := by rw [hv2]; exact HV1.out
  clear hv2
  go_wp2_with fail
  refine Calls.mono (wrong_no 2 (w.heap.size + 1) w2) ?_
  rintro e w3 ⟨rfl, hv3⟩
  have HV3 : Hid (VAt w w3 0) := by rw [hv3]; exact HV2.out
  clear hv3
  go_wp2_with fail
  refine Calls.mono (HF.out w3) ?_
  rintro e w4 ⟨rfl, hw4⟩
  obtain rfl : w3 = w4 := hw4.symm
  clear hw4
  go_wp2_with fail
  refine Calls.mono (wrong_yes 2 w w3 (by omega) HV3.out) ?_
  rintro e w5 ⟨rfl, hv5⟩
  have HV9 : Hid (VAt w w5 2) := hv5
  clear hv5
  go_wp2_with (first | (refine wpList_load_row rfl 37 _ rfl (w.heap.size + 1) rfl 37 (vdC 2) (0, 0) _ HV9.out.row Tryz.underlying37 rfl size25 ?_) | (refine wpList_store_row rfl 37 _ _ rfl w.heap.size (vdC 2) rfl rfl 37 _ HV9.out.res size25 rfl (one25 2) ?_))
  rw [HS.out]
  refine bodyPost_ret (v := vdV 2) (results_cell_row (P := Tryz.prog) rfl _ _ w.heap.size 37 (vdC 2) (0, 0) _ rfl (row_same _ _ _ _ HV9.out.res) Tryz.underlying37 rfl size25) rfl ⟨rfl, below_setRow HV9.out.bel (Nat.le_refl _) _⟩
set_option maxHeartbeats 1600000 in
theorem sz_z2 (k b : Int) (hk : isK k = true) (h1 : ¬ b < lN k) (h2 : ¬ 4077 < b) (hf : fxK k = true) (h3 : b = lN k) (w : World) : Calls Tryz.prog 7 #[.int .i64 k, .int .i64 b] w fun e w' => e = .returned (vdV (szW k b)) ∧ Below w.heap.size w w' := by
  have hv0 : VAt w ((w.alloc (.cells #[.int .i64 0, .int .u8 0, .int .u8 0] 37)).alloc (.cells #[.int .i64 0, .int .u8 0, .int .u8 0] 37)) 0 :=
    ⟨hp_new (by simp), hp_up (hp_new rfl), ((Below.refl _ _).alloc (Nat.le_refl _) _).alloc (by simp) _⟩
  have HV0 : Hid (VAt _ _ _) := hv0
  clear hv0
  have HS : Hid (szW k b = 0) := by unfold Hid szW; rw [if_neg (by rw [hk]; decide), if_neg (by exact fun h => h.elim h1 (fun h => h.elim h2 (fun h => h.2 h3)))]
  have HK : Hid (_ : Prop) := least_any k ((w.alloc (.cells #[.int .i64 0, .int .u8 0, .int .u8 0] 37)).alloc (.cells #[.int .i64 0, .int .u8 0, .int .u8 0] 37))
  rw [hk] at HK
  have HF : Hid (_ : Prop) := isFixed_any k
  rw [show fxK k = true from hf] at HF
  have g2 : decide (4077 < b) = false := decide_eq_false h2
  have g1 : decide (b < lN k) = false := decide_eq_false h1
  clear h1 h2
  have g3 : (b != lN k) = false := by simp [h3]
  clear hf h3
  generalize hL : lN k = L at *
  clear hk hL
  go_enter Tryz.func7, Tryz.ntmps7
  go_wp2_with fail
  refine Calls.mono HK.out ?_
  rintro e w1 ⟨rfl, hb1⟩
  have HV1 : Hid (VAt w w1 0) := HV0.out.next hb1
  clear hb1
  go_wp2_with fail
  refine Calls.mono (wrong_no 3 (w.heap.size + 1) w1) ?_
  rintro e w2 ⟨rfl, hv2⟩
  have HV2 : Hid (VAt w w2 0) := by rw [hv2]; exact HV1.out
  clear hv2
  go_wp2_with fail
  refine Calls.mono (wrong_no 2 (w.heap.size + 1) w2) ?_
  rintro e w3 ⟨rfl, hv3⟩
  have HV3 : Hid (VAt w w3 0) := by rw [hv3]; exact HV2.out
  clear hv3
  go_wp2_with fail
  refine Calls.mono (HF.out w3) ?_
  rintro e w4 ⟨rfl, hw4⟩
  obtain rfl : w3 = w4 := hw4.symm
  clear hw4
  go_wp2_with fail
  refine Calls.mono (wrong_no 2 (w.heap.size + 1) w3) ?_
  rintro e w5 ⟨rfl, hv5⟩
  have HV9 : Hid (VAt w w5 0) := by rw [hv5]; exact HV3.out
  clear hv5
  go_wp2_with (first | (refine wpList_load_row rfl 37 _ rfl (w.heap.size + 1) rfl 37 (vdC 0) (0, 0) _ HV9.out.row Tryz.underlying37 rfl size25 ?_) | (refine wpList_store_row rfl 37 _ _ rfl w.heap.size (vdC 0) rfl rfl 37 _ HV9.out.res size25 rfl (one25 0) ?_))
  rw [HS.out]
  refine bodyPost_ret (v := vdV 0) (results_cell_row (P := Tryz.prog) rfl _ _ w.heap.size 37 (vdC 0) (0, 0) _ rfl (row_same _ _ _ _ HV9.out.res) Tryz.underlying37 rfl size25) rfl ⟨rfl, below_setRow HV9.out.bel (Nat.le_refl _) _⟩
set_option maxHeartbeats 1600000 in
theorem sz_z3 (k b : Int) (hk : isK k = true) (h1 : ¬ b < lN k) (h2 : ¬ 4077 < b) (hf : fxK k = false) (w : World) : Calls Tryz.prog 7 #[.int .i64 k, .int .i64 b] w fun e w' => e = .returned (vdV (szW k b)) ∧ Below w.heap.size w w' := by
  have hv0 : VAt w ((w.alloc (.cells #[.int .i64 0, .int .u8 0, .int .u8 0] 37)).alloc (.cells #[.int .i64 0, .int .u8 0, .int .u8 0] 37)) 0 :=
    ⟨hp_new (by simp), hp_up (hp_new rfl), ((Below.refl _ _).alloc (Nat.le_refl _) _).alloc (by simp) _⟩
  have HV0 : Hid (VAt _ _ _) := hv0
  clear hv0
  have HS : Hid (szW k b = 0) := by unfold Hid szW; rw [if_neg (by rw [hk]; decide), if_neg (by exact fun h => h.elim h1 (fun h => h.elim h2 (fun h => absurd h.1 (by rw [hf]; decide))))]
  have HK : Hid (_ : Prop) := least_any k ((w.alloc (.cells #[.int .i64 0, .int .u8 0, .int .u8 0] 37)).alloc (.cells #[.int .i64 0, .int .u8 0, .int .u8 0] 37))
  rw [hk] at HK
  have HF : Hid (_ : Prop) := isFixed_any k
  rw [show fxK k = false from hf] at HF
  have g2 : decide (4077 < b) = false := decide_eq_false h2
  have g1 : decide (b < lN k) = false := decide_eq_false h1
  clear hf h1 h2
  generalize hL : lN k = L at *
  clear hk hL
  go_enter Tryz.func7, Tryz.ntmps7
  go_wp2_with fail
  refine Calls.mono HK.out ?_
  rintro e w1 ⟨rfl, hb1⟩
  have HV1 : Hid (VAt w w1 0) := HV0.out.next hb1
  clear hb1
  go_wp2_with fail
  refine Calls.mono (wrong_no 3 (w.heap.size + 1) w1) ?_
  rintro e w2 ⟨rfl, hv2⟩
  have HV2 : Hid (VAt w w2 0) := by rw [hv2]; exact HV1.out
  clear hv2
  go_wp2_with fail
  refine Calls.mono (wrong_no 2 (w.heap.size + 1) w2) ?_
  rintro e w3 ⟨rfl, hv3⟩
  have HV3 : Hid (VAt w w3 0) := by rw [hv3]; exact HV2.out
  clear hv3
  go_wp2_with fail
  refine Calls.mono (HF.out w3) ?_
  rintro e w4 ⟨rfl, hw4⟩
  obtain rfl : w3 = w4 := hw4.symm
  clear hw4
  go_wp2_with fail
  refine Calls.mono (wrong_no 2 (w.heap.size + 1) w3) ?_
  rintro e w5 ⟨rfl, hv5⟩
  have HV9 : Hid (VAt w w5 0) := by rw [hv5]; exact HV3.out
  clear hv5
  go_wp2_with (first | (refine wpList_load_row rfl 37 _ rfl (w.heap.size + 1) rfl 37 (vdC 0) (0, 0) _ HV9.out.row Tryz.underlying37 rfl size25 ?_) | (refine wpList_store_row rfl 37 _ _ rfl w.heap.size (vdC 0) rfl rfl 37 _ HV9.out.res size25 rfl (one25 0) ?_))
  rw [HS.out]
  refine bodyPost_ret (v := vdV 0) (results_cell_row (P := Tryz.prog) rfl _ _ w.heap.size 37 (vdC 0) (0, 0) _ rfl (row_same _ _ _ _ HV9.out.res) Tryz.underlying37 rfl size25) rfl ⟨rfl, below_setRow HV9.out.bel (Nat.le_refl _) _⟩
theorem msize_any (k b : Int) (w : World) : Calls Tryz.prog 7 #[.int .i64 k, .int .i64 b] w fun e w' => e = .returned (vdV (szW k b)) ∧ Below w.heap.size w w' := by
  by_cases h1 : b < lN k
  · cases hk : isK k with
    | false => exact sz_n1 k b hk h1 w
    | true => cases hf : fxK k with
      | true => exact sz_y0t k b hk h1 hf w
      | false => exact sz_y0f k b hk h1 hf w
  · by_cases h2 : 4077 < b
    · cases hk : isK k with
      | false => exact sz_n2 k b hk h1 w
      | true => cases hf : fxK k with
        | true => exact sz_y1t k b hk h1 h2 hf w
        | false => exact sz_y1f k b hk h1 h2 hf w
    · cases hk : isK k with
      | false => exact sz_n2 k b hk h1 w
      | true => cases hf : fxK k with
        | true =>
          by_cases h3 : b = lN k
          · exact sz_z2 k b hk h1 h2 hf h3 w
          · exact sz_z1 k b hk h1 h2 hf h3 w
        | false => exact sz_z3 k b hk h1 h2 hf w
end Go.Proofs.YtfhapjhkjdifjaaGreatDoor.Ms
