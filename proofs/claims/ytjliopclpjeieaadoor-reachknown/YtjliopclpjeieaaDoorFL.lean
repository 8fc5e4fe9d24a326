/-
  ReachKnown's walk.
-/
import Derived.Test.YtjliopclpjeieaaDoorFK
namespace Go.Proofs.YtjliopclpjeieaaDoor
open Go.RowKit
set_option maxRecDepth 100000 in
set_option maxHeartbeats 12800000 in
theorem known_walk (w : World) (h : Tb w) : Calls Tryd.prog 8 #[] w fun e w' => e = .returned (.bool true) ∧ Below w.heap.size w w' := by
  have HT : Hid (∀ W, Below w.heap.size w W → Tb W) := fun W hW => h.below hW
  clear h
  have KA : Hid (∀ W, Below w.heap.size w W → Calls Tryd.prog 9 #[.int .i64 4] W fun e w' => e = .returned (.tuple #[.int .u16 1, .int .u8 128, .bool true]) ∧ Below W.heap.size W w') := fun W hW => afi_any 4 W (HT.out W hW).sizes
  have KB : Hid (∀ W, Below w.heap.size w W → Calls Tryd.prog 9 #[.int .i64 0] W fun e w' => e = .returned (.tuple #[.int .u16 0, .int .u8 0, .bool false]) ∧ Below W.heap.size W w') := fun W hW => afi_any 0 W (HT.out W hW).sizes
  have KC : Hid (∀ W, Below w.heap.size w W → Calls Tryd.prog 11 #[.int .u16 1, .int .u8 4] W fun e w' => e = .returned (.int .i64 3) ∧ Below W.heap.size W w') := fun W hW => fam_any 1 4 W (HT.out W hW).sizes
  have KD : Hid (∀ W, Below w.heap.size w W → Calls Tryd.prog 11 #[.int .u16 3, .int .u8 1] W fun e w' => e = .returned (.int .i64 0) ∧ Below W.heap.size W w') := fun W hW => fam_any 3 1 W (HT.out W hW).sizes
  have KE : Hid (∀ W, Below w.heap.size w W → Calls Tryd.prog 11 #[.int .u16 2, .int .u8 128] W fun e w' => e = .returned (.int .i64 5) ∧ Below W.heap.size W w') := fun W hW => fam_any 2 128 W (HT.out W hW).sizes
  have T1 : Hid (∀ W, Below w.heap.size w W → Calls Tryd.prog 20 #[.string ⟨#[0, 1, 1]⟩, .slice none 0 0] W fun e w' => TakeOk8 (.error 4) W e w') := fun W hW => by have hx := take_any8 [0, 1, 1] (.slice none 0 0) [] W (HT.out W hW).sizes (ints_nil W) (by simp) (by decide); rw [tkA] at hx; exact hx
  have T2 : Hid (∀ W, Below w.heap.size w W → Calls Tryd.prog 20 #[.string ⟨#[0, 3, 1, 0, 0]⟩, .slice none 0 0] W fun e w' => TakeOk8 (.error 5) W e w') := fun W hW => by have hx := take_any8 [0, 3, 1, 0, 0] (.slice none 0 0) [] W (HT.out W hW).sizes (ints_nil W) (by simp) (by decide); rw [tkB] at hx; exact hx
  have T3 : Hid (∀ W, Below w.heap.size w W → Calls Tryd.prog 20 #[.string ⟨#[0, 1]⟩, .slice none 0 0] W fun e w' => TakeOk8 (.error 4) W e w') := fun W hW => by have hx := take_any8 [0, 1] (.slice none 0 0) [] W (HT.out W hW).sizes (ints_nil W) (by simp) (by decide); rw [tkC] at hx; exact hx
  have T4 : Hid (∀ W, Below w.heap.size w W → Calls Tryd.prog 20 #[.string ⟨s2.toArray⟩, .slice none 0 0] W fun e w' => TakeOk8 (.error 4) W e w') := fun W hW => by have hx := take_any8 s2 (.slice none 0 0) [] W (HT.out W hW).sizes (ints_nil W) (by simp) (by decide); rw [tkD] at hx; exact hx
  have T5 : Hid (∀ W, Below w.heap.size w W → Calls Tryd.prog 20 #[.string ⟨t3.toArray⟩, .slice none 0 0] W fun e w' => TakeOk8 (.ok (2, z16, [])) W e w') := fun W hW => by have hx := take_any8 t3 (.slice none 0 0) [] W (HT.out W hW).sizes (ints_nil W) (by simp) (by decide); rw [tkE] at hx; exact hx
  have T6 : Hid (∀ W, Below w.heap.size w W → Calls Tryd.prog 20 #[.string ⟨#[0, 1, 128, 12, 0, 0, 0, 0, 0, 0, 0, 1, 10, 0, 0, 1, 0]⟩, .slice none 0 0] W fun e w' => TakeOk8 (.error 4) W e w') := fun W hW => by have hx := take_any8 [0, 1, 128, 12, 0, 0, 0, 0, 0, 0, 0, 1, 10, 0, 0, 1, 0] (.slice none 0 0) [] W (HT.out W hW).sizes (ints_nil W) (by simp) (by decide); rw [tkF] at hx; exact hx
  have T7 : Hid (∀ W, Below w.heap.size w W → Calls Tryd.prog 20 #[.string ⟨#[0, 1, 128, 12, 0, 0, 0, 0, 0, 0, 0, 0, 10, 0, 0, 1, 0]⟩, .slice none 0 0] W fun e w' => TakeOk8 (.ok (4, [10, 0, 0, 1], [])) W e w') := fun W hW => by have hx := take_any8 [0, 1, 128, 12, 0, 0, 0, 0, 0, 0, 0, 0, 10, 0, 0, 1, 0] (.slice none 0 0) [] W (HT.out W hW).sizes (ints_nil W) (by simp) (by decide); rw [tkG] at hx; exact hx
  have P1 : Hid (∀ W, Below w.heap.size w W → Calls Tryd.prog 15 #[.int .i64 1, .string ⟨z16.toArray⟩, .slice none 0 0, .bool false] W fun e w' => e = .returned (.tuple #[.string ⟨#[]⟩, .int .i64 2]) ∧ Below W.heap.size W w') := fun W hW => put_no 1 z16 _ false W (HT.out W hW).sizes (by kernel_rfl)
  have P2 : Hid (∀ W, Below w.heap.size w W → Calls Tryd.prog 15 #[.int .i64 6, .string ⟨#[10, 0, 0, 1]⟩, .slice none 0 0, .bool false] W fun e w' => e = .returned (.tuple #[.string ⟨#[]⟩, .int .i64 2]) ∧ Below W.heap.size W w') := fun W hW => put_no 6 [10, 0, 0, 1] _ false W (HT.out W hW).sizes (by kernel_rfl)
  have P3 : Hid (∀ W q, Below w.heap.size w W → W.heap[q]? = some (.cells #[.int .i64 1, .int .u64 0, .string ⟨#[10, 0, 0, 0]⟩, .int .i64 8, .int .u32 1, .int .u32 0] 46 (0, 0)) → Calls Tryd.prog 15 #[.int .i64 1, .string ⟨#[10, 0, 0, 1]⟩, .slice (some ⟨q, 0, none⟩) 1 1, .bool false] W fun e w' => e = .returned (.tuple #[.string ⟨#[]⟩, .int .i64 2]) ∧ Below W.heap.size W w') := fun W q hW hh => by have hx := put_any' 1 hT _ false [nI] W rfl (HT.out W hW).sizes (HT.out W hW).rds (one_at (n := nI) hh) wfI (by decide); rw [puI] at hx; exact hx
  have P4 : Hid (∀ W q, Below w.heap.size w W → W.heap[q]? = some (.cells #[.int .i64 3, .int .u64 0, .string ⟨#[10, 0, 0, 0]⟩, .int .i64 8, .int .u32 0, .int .u32 0] 46 (0, 0)) → Calls Tryd.prog 17 #[.int .i64 1, .slice (some ⟨q, 0, none⟩) 1 1, .bool false] W fun e w' => e = .returned (.tuple #[.string ⟨#[]⟩, .int .i64 2]) ∧ Below W.heap.size W w') := fun W q hW hh => by have hx := putGone_yes 1 _ false [nT 3] W rfl (HT.out W hW).sizes (HT.out W hW).rds (one_at (n := nT 3) hh) (wfT 3) (by decide); rw [pgL] at hx; exact hx
  have P5 : Hid (∀ W q, Below w.heap.size w W → W.heap[q]? = some (.cells #[.int .i64 1, .int .u64 0, .string ⟨#[10, 0, 0, 0]⟩, .int .i64 8, .int .u32 0, .int .u32 0] 46 (0, 0)) → Calls Tryd.prog 17 #[.int .i64 1, .slice (some ⟨q, 0, none⟩) 1 1, .bool false] W fun e w' => e = .returned (.tuple #[.string ⟨#[0, 1, 1, 8, 10]⟩, .int .i64 0]) ∧ Below W.heap.size W w') := fun W q hW hh => by have hx := putGone_yes 1 _ false [nT 1] W rfl (HT.out W hW).sizes (HT.out W hW).rds (one_at (n := nT 1) hh) (wfT 1) (by decide); rw [pgT] at hx; exact hx
  have G1 : Hid (∀ W, Below w.heap.size w W → Calls Tryd.prog 23 #[.string ⟨#[0, 1, 1]⟩, .slice none 0 0] W fun e w' => GoneOk (.ok (1, [])) W e w') := fun W hW => by have hx := takeGone_any [0, 1, 1] (.slice none 0 0) [] W (HT.out W hW).sizes (ints_nil W) (by simp) (by decide); rw [tgA] at hx; exact hx
  have G2 : Hid (∀ W, Below w.heap.size w W → Calls Tryd.prog 23 #[.string ⟨#[0, 1, 1, 33]⟩, .slice none 0 0] W fun e w' => GoneOk (.error 4) W e w') := fun W hW => by have hx := takeGone_any [0, 1, 1, 33] (.slice none 0 0) [] W (HT.out W hW).sizes (ints_nil W) (by simp) (by decide); rw [tgB] at hx; exact hx
  have hm16 := made_bytes 16 (by omega)
  have hm16' : ∀ W : World, (Instr.makeSlice 52 (.int .i64 16) (.int .i64 16)).run Tryd.prog W = .ok (.slice (some ⟨W.heap.size, 0, none⟩) 16 16) (W.alloc (.cells (madeCells #[.int .u8 0] 16) 5)) := hm16
  clear hm16
  have a1 : ∀ W : World, (Op.stringOp .add ⟨#[0, 1, 1, 16]⟩ ⟨z16.toArray⟩).run Tryd.prog W = .ok (.string ⟨s1.toArray⟩) W := add_lb [0, 1, 1, 16] z16 (by decide)
  have a2 : ∀ W : World, (Op.stringOp .add ⟨s1.toArray⟩ ⟨#[0]⟩).run Tryd.prog W = .ok (.string ⟨s2.toArray⟩) W := add_lb s1 [0] (by decide)
  have a3 : ∀ W : World, (Op.stringOp .add ⟨#[0, 2, 1, 32]⟩ ⟨z16.toArray⟩).run Tryd.prog W = .ok (.string ⟨t1.toArray⟩) W := add_lb [0, 2, 1, 32] z16 (by decide)
  have a4 : ∀ W : World, (Op.stringOp .add ⟨t1.toArray⟩ ⟨z16.toArray⟩).run Tryd.prog W = .ok (.string ⟨t2.toArray⟩) W := add_lb t1 z16 (by decide)
  have a5 : ∀ W : World, (Op.stringOp .add ⟨t2.toArray⟩ ⟨#[7]⟩).run Tryd.prog W = .ok (.string ⟨t3.toArray⟩) W := add_lb t2 [7] (by decide)
  have HX : Hid (_ ∧ _ ∧ _ ∧ _ ∧ _ ∧ _) := ⟨hm16', a1, a2, a3, a4, a5⟩
  clear hm16' a1 a2 a3 a4 a5
  have B0 : Hid (Below w.heap.size w w) := Below.refl _ _
  go_enter Tryd.func8, Tryd.ntmps8
  go_wp2_with fail
  refine Calls.mono (KA.out _ B0.out) ?_
  rintro e w1 ⟨rfl, hb⟩
  have B1 : Hid (Below w.heap.size w w1) := B0.out.trans (hb.mono B0.out.size)
  clear hb B0
  go_wp2_with fail
  refine Calls.mono (KB.out _ B1.out) ?_
  rintro e w2 ⟨rfl, hb⟩
  have B2 : Hid (Below w.heap.size w w2) := B1.out.trans (hb.mono B1.out.size)
  clear hb B1
  go_wp2_with fail
  refine Calls.mono (KC.out _ B2.out) ?_
  rintro e w3 ⟨rfl, hb⟩
  have B3 : Hid (Below w.heap.size w w3) := B2.out.trans (hb.mono B2.out.size)
  clear hb B2
  go_wp2_with fail
  refine Calls.mono (KD.out _ B3.out) ?_
  rintro e w4 ⟨rfl, hb⟩
  have B4 : Hid (Below w.heap.size w w4) := B3.out.trans (hb.mono B3.out.size)
  clear hb B3
  go_wp2_with fail
  refine Calls.mono (KE.out _ B4.out) ?_
  rintro e w5 ⟨rfl, hb⟩
  have B5 : Hid (Below w.heap.size w w5) := B4.out.trans (hb.mono B4.out.size)
  clear hb B4
  go_wp2_with fail
  refine Calls.mono (T1.out _ B5.out) ?_
  rintro e w6 ⟨hb, rfl⟩
  have B6 : Hid (Below w.heap.size w w6) := B5.out.trans (hb.mono B5.out.size)
  clear hb B5
  go_wp2_with fail
  refine Calls.mono (T2.out _ B6.out) ?_
  rintro e w7 ⟨hb, rfl⟩
  have B7 : Hid (Below w.heap.size w w7) := B6.out.trans (hb.mono B6.out.size)
  clear hb B6
  go_wp2_with fail
  refine Calls.mono (T3.out _ B7.out) ?_
  rintro e w8 ⟨hb, rfl⟩
  have B8 : Hid (Below w.heap.size w w8) := B7.out.trans (hb.mono B7.out.size)
  clear hb B7
  obtain ⟨hm16, a1, a2, a3, a4, a5⟩ := HX.out
  have hcv := six_back w8
  clear HX
  have B8a : Hid (Below w.heap.size w (w8.alloc (.cells (madeCells #[.int .u8 0] 16) 5))) := B8.out.alloc B8.out.size _
  generalize hW16 : w8.alloc (.cells (madeCells #[.int .u8 0] 16) 5) = X16 at *
  have hm16' : (Instr.makeSlice 52 (.int .i64 16) (.int .i64 16)).run Tryd.prog w8 = .ok (.slice (some ⟨w8.heap.size, 0, none⟩) 16 16) X16 := by rw [← hW16]; exact hm16 w8
  clear hm16 hW16
  go_wp2_with fail
  refine Calls.mono (T4.out _ B8a.out) ?_
  rintro e w9 ⟨hb, rfl⟩
  have B9 : Hid (Below w.heap.size w w9) := B8a.out.trans (hb.mono B8a.out.size)
  clear hb B8a B8 hcv hm16'
  go_wp2_with fail
  refine Calls.mono (T5.out _ B9.out) ?_
  rintro e w10 ⟨hb, vx10, rfl, ho⟩
  obtain ⟨ax10, cx10, rfl⟩ := slice_of_owns ho
  simp only [List.length_nil]
  have B10 : Hid (Below w.heap.size w w10) := B9.out.trans (hb.mono B9.out.size)
  clear hb ho B9
  go_wp2_with fail
  refine Calls.mono (T6.out _ B10.out) ?_
  rintro e w11 ⟨hb, rfl⟩
  have B11 : Hid (Below w.heap.size w w11) := B10.out.trans (hb.mono B10.out.size)
  clear hb B10
  go_wp2_with fail
  refine Calls.mono (T7.out _ B11.out) ?_
  rintro e w12 ⟨hb, vx12, rfl, ho⟩
  obtain ⟨ax12, cx12, rfl⟩ := slice_of_owns ho
  simp only [List.length_nil]
  have B12 : Hid (Below w.heap.size w w12) := B11.out.trans (hb.mono B11.out.size)
  clear hb ho B11
  clear T1 T2 T3 T4 T5 T6 T7 KA KB KC KD KE a1 a2 a3 a4 a5
  go_wp2_with fail
  refine Calls.mono (P1.out _ B12.out) ?_
  rintro e w13 ⟨rfl, hb⟩
  have B13 : Hid (Below w.heap.size w w13) := B12.out.trans (hb.mono B12.out.size)
  clear hb B12
  go_wp2_with fail
  refine Calls.mono (P2.out _ B13.out) ?_
  rintro e w14 ⟨rfl, hb⟩
  have B14 : Hid (Below w.heap.size w w14) := B13.out.trans (hb.mono B13.out.size)
  clear hb B13
  go_wp2_with fail
  refine (ten_any 1 w14).mono ?_
  rintro e w15 ⟨rfl, hb⟩
  have B15 : Hid (Below w.heap.size w w15) := B14.out.trans (hb.mono B14.out.size)
  clear hb B14
  have B15a : Hid (Below w.heap.size w ((w15.alloc (.cells #[.int .i64 1, .int .u64 0, .string ⟨#[10, 0, 0, 0]⟩, .int .i64 8, .int .u32 1, .int .u32 0] 46)).alloc (.cells #[.int .i64 1, .int .u64 0, .string ⟨#[10, 0, 0, 0]⟩, .int .i64 8, .int .u32 1, .int .u32 0] 46))) := (B15.out.alloc B15.out.size _).alloc (Nat.le_trans B15.out.size (by simp)) _
  have H15 : Hid (((w15.alloc (.cells #[.int .i64 1, .int .u64 0, .string ⟨#[10, 0, 0, 0]⟩, .int .i64 8, .int .u32 1, .int .u32 0] 46)).alloc (.cells #[.int .i64 1, .int .u64 0, .string ⟨#[10, 0, 0, 0]⟩, .int .i64 8, .int .u32 1, .int .u32 0] 46)).heap[w15.heap.size + 1]? = some (.cells #[.int .i64 1, .int .u64 0, .string ⟨#[10, 0, 0, 0]⟩, .int .i64 8, .int .u32 1, .int .u32 0] 46 (0, 0))) := hp_new (by simp)
  go_wp2_with fail
  refine Calls.mono (P3.out _ _ B15a.out H15.out) ?_
  rintro e w16 ⟨rfl, hb⟩
  have B16 : Hid (Below w.heap.size w w16) := B15a.out.trans (hb.mono B15a.out.size)
  clear hb B15a B15 H15 P1 P2 P3
  go_wp2_with fail
  refine (ten_any 3 w16).mono ?_
  rintro e w17 ⟨rfl, hb⟩
  have B17 : Hid (Below w.heap.size w w17) := B16.out.trans (hb.mono B16.out.size)
  clear hb B16
  have B17a : Hid (Below w.heap.size w (w17.alloc (.cells #[.int .i64 3, .int .u64 0, .string ⟨#[10, 0, 0, 0]⟩, .int .i64 8, .int .u32 0, .int .u32 0] 46))) := B17.out.alloc B17.out.size _
  have H17 : Hid ((w17.alloc (.cells #[.int .i64 3, .int .u64 0, .string ⟨#[10, 0, 0, 0]⟩, .int .i64 8, .int .u32 0, .int .u32 0] 46)).heap[w17.heap.size]? = some (.cells #[.int .i64 3, .int .u64 0, .string ⟨#[10, 0, 0, 0]⟩, .int .i64 8, .int .u32 0, .int .u32 0] 46 (0, 0))) := hp_new rfl
  go_wp2_with fail
  refine Calls.mono (P4.out _ _ B17a.out H17.out) ?_
  rintro e w18 ⟨rfl, hb⟩
  have B18 : Hid (Below w.heap.size w w18) := B17a.out.trans (hb.mono B17a.out.size)
  clear hb B17a B17 H17
  go_wp2_with fail
  refine (ten_any 1 w18).mono ?_
  rintro e w19 ⟨rfl, hb⟩
  have B19 : Hid (Below w.heap.size w w19) := B18.out.trans (hb.mono B18.out.size)
  clear hb B18
  have B19a : Hid (Below w.heap.size w (w19.alloc (.cells #[.int .i64 1, .int .u64 0, .string ⟨#[10, 0, 0, 0]⟩, .int .i64 8, .int .u32 0, .int .u32 0] 46))) := B19.out.alloc B19.out.size _
  have H19 : Hid ((w19.alloc (.cells #[.int .i64 1, .int .u64 0, .string ⟨#[10, 0, 0, 0]⟩, .int .i64 8, .int .u32 0, .int .u32 0] 46)).heap[w19.heap.size]? = some (.cells #[.int .i64 1, .int .u64 0, .string ⟨#[10, 0, 0, 0]⟩, .int .i64 8, .int .u32 0, .int .u32 0] 46 (0, 0))) := hp_new rfl
  go_wp2_with fail
  refine Calls.mono (P5.out _ _ B19a.out H19.out) ?_
  rintro e w20 ⟨rfl, hb⟩
  have B20 : Hid (Below w.heap.size w w20) := B19a.out.trans (hb.mono B19a.out.size)
  clear hb B19a B19 H19
  clear P4 P5
  go_wp2_with fail
  refine Calls.mono (G1.out _ B20.out) ?_
  rintro e w21 ⟨hb, vx21, rfl, ho⟩
  obtain ⟨ax21, cx21, rfl⟩ := slice_of_owns ho
  simp only [List.length_nil]
  have B21 : Hid (Below w.heap.size w w21) := B20.out.trans (hb.mono B20.out.size)
  clear hb ho B20
  go_wp2_with fail
  refine Calls.mono (G2.out _ B21.out) ?_
  rintro e w22 ⟨hb, rfl⟩
  have B22 : Hid (Below w.heap.size w w22) := B21.out.trans (hb.mono B21.out.size)
  clear hb B21
  clear G1 G2
  have hmm := made_many w22
  have HMS : Hid (ManyAt (w22.alloc (.cells (madeCells zN 12300) 46)) w22.heap.size 0) := many_start w22
  have BM : Hid (Below w.heap.size w (w22.alloc (.cells (madeCells zN 12300) 46))) := B22.out.alloc B22.out.size _
  have hqs : w.heap.size ≤ w22.heap.size := B22.out.size
  generalize w22.alloc (.cells (madeCells zN 12300) 46) = XM at *
  go_wp2
  clear hmm
  generalize w22.heap.size = q at *
  go_loopw [54] (fun x wr => ∃ k : Nat, k ≤ 2050 ∧ x = .int .i64 k ∧ ManyAt wr q k ∧ Below w.heap.size w wr) (fun x _ => 2050 - (intOf x).toNat)
  case atStart => exact ⟨0, by omega, rfl, HMS.out, BM.out⟩
  case round =>
    obtain ⟨k, hk, rfl, hm, hb⟩ := hrel
    have HM : Hid (ManyAt wr q k) := hm
    have HB : Hid (Below w.heap.size w wr) := hb
    clear hm hb
    by_cases hlt : k < 2050
    · go_wp2_with fail
      refine (ten_any 1 wr).mono ?_
      rintro e wt ⟨rfl, hbt⟩
      have HMt : Hid (ManyAt wt q k) := HM.out.below hbt
      have HBt : Hid (Below w.heap.size w wt) := HB.out.trans (hbt.mono HB.out.size)
      have ht : wt.there q (k * 6) 6 := fun i hi => by
        have := HMt.out.room (k * 6 + i) (by omega)
        rwa [Nat.zero_add] at this
      have HTH : Hid (wt.there q (k * 6) 6) := ht
      obtain ⟨y0, hy0⟩ := Option.isSome_iff_exists.1 (ht 0 (by omega)).1
      have fz0 : wt.frozen? ⟨q, k * 6, none⟩ = false := (ht 0 (by omega)).2
      have cy0 : wt.cell? ⟨q, k * 6, none⟩ = some y0 := hy0
      clear hy0
      obtain ⟨y1, hy1⟩ := Option.isSome_iff_exists.1 (ht 1 (by omega)).1
      have fz1 : wt.frozen? ⟨q, k * 6 + 1, none⟩ = false := (ht 1 (by omega)).2
      have cy1 : wt.cell? ⟨q, k * 6 + 1, none⟩ = some y1 := hy1
      clear hy1
      obtain ⟨y2, hy2⟩ := Option.isSome_iff_exists.1 (ht 2 (by omega)).1
      have fz2 : wt.frozen? ⟨q, k * 6 + 2, none⟩ = false := (ht 2 (by omega)).2
      have cy2 : wt.cell? ⟨q, k * 6 + 2, none⟩ = some y2 := hy2
      clear hy2
      obtain ⟨y3, hy3⟩ := Option.isSome_iff_exists.1 (ht 3 (by omega)).1
      have fz3 : wt.frozen? ⟨q, k * 6 + 3, none⟩ = false := (ht 3 (by omega)).2
      have cy3 : wt.cell? ⟨q, k * 6 + 3, none⟩ = some y3 := hy3
      clear hy3
      obtain ⟨y4, hy4⟩ := Option.isSome_iff_exists.1 (ht 4 (by omega)).1
      have fz4 : wt.frozen? ⟨q, k * 6 + 4, none⟩ = false := (ht 4 (by omega)).2
      have cy4 : wt.cell? ⟨q, k * 6 + 4, none⟩ = some y4 := hy4
      clear hy4
      obtain ⟨y5, hy5⟩ := Option.isSome_iff_exists.1 (ht 5 (by omega)).1
      have fz5 : wt.frozen? ⟨q, k * 6 + 5, none⟩ = false := (ht 5 (by omega)).2
      have cy5 : wt.cell? ⟨q, k * 6 + 5, none⟩ = some y5 := hy5
      clear hy5
      clear hbt HM HB ht
      have HNX : Hid (ManyAt (wt.setCells q (k * 6) [.int .i64 1, .int .u64 0, .string ⟨#[10, 0, 0, 0]⟩, .int .i64 8, .int .u32 0, .int .u32 0]) q (k + 1)) := HMt.out.next hlt
      have HBX : Hid (Below w.heap.size w (wt.setCells q (k * 6) [.int .i64 1, .int .u64 0, .string ⟨#[10, 0, 0, 0]⟩, .int .i64 8, .int .u32 0, .int .u32 0])) := below_setCells HBt.out hqs _ _
      go_wp2
      go_roundw
      case rel => exact ⟨k + 1, by omega, by go_num, HNX.out, HBX.out⟩
      case measure => simp [intOf]; omega
    · obtain rfl : k = 2050 := by omega
      have M1 : Hid (Calls Tryd.prog 17 #[.int .i64 1, .slice (some ⟨q, 0, none⟩) 2050 2050, .bool false] wr fun e w' => e = .returned (.tuple #[.string ⟨#[]⟩, .int .i64 3]) ∧ Below wr.heap.size wr w') := gone_many 2050 2050 q (by omega) (by omega) _ (many_long (pairL 1) 2050 (by rw [pairL_len]; omega)) wr (HT.out _ HB.out) HM.out
      obtain ⟨SA, hSA⟩ := many_fine (pairL 1) 2036 (by rw [pairL_len]; omega)
      have M2 : Hid (∀ W, Below wr.heap.size wr W → Calls Tryd.prog 17 #[.int .i64 1, .slice (some ⟨q, 0, none⟩) 2036 2050, .bool false] W fun e w' => e = .returned (.tuple #[.string ⟨SA.toArray⟩, .int .i64 0]) ∧ Below W.heap.size W w') := fun W hW => gone_many 2036 2050 q (by omega) (by omega) _ hSA W (HT.out _ (HB.out.trans (hW.mono HB.out.size))) (HM.out.below hW)
      have M3 : Hid (∀ W, Below wr.heap.size wr W → Calls Tryd.prog 15 #[.int .i64 1, .string ⟨#[10, 0, 0, 1]⟩, .slice (some ⟨q, 0, none⟩) 2036 2050, .bool false] W fun e w' => e = .returned (.tuple #[.string ⟨#[]⟩, .int .i64 3]) ∧ Below W.heap.size W w') := fun W hW => put_many 2036 2050 q (by omega) (by omega) _ (many_long (headL 1 hT) 2036 (by rw [hl9]; omega)) W (HT.out _ (HB.out.trans (hW.mono HB.out.size))) (HM.out.below hW)
      obtain ⟨SB, hSB⟩ := many_fine (headL 1 hT) 2034 (by rw [hl9]; omega)
      have M4 : Hid (∀ W, Below wr.heap.size wr W → Calls Tryd.prog 15 #[.int .i64 1, .string ⟨#[10, 0, 0, 1]⟩, .slice (some ⟨q, 0, none⟩) 2034 2050, .bool false] W fun e w' => e = .returned (.tuple #[.string ⟨SB.toArray⟩, .int .i64 0]) ∧ Below W.heap.size W w') := fun W hW => put_many 2034 2050 q (by omega) (by omega) _ hSB W (HT.out _ (HB.out.trans (hW.mono HB.out.size))) (HM.out.below hW)
      clear hSA hSB hlt hk
      go_wp2_with fail
      refine Calls.mono M1.out ?_
      rintro e x1 ⟨rfl, hb1⟩
      have X1 : Hid (Below wr.heap.size wr x1) := hb1
      clear hb1
      go_wp2_with fail
      refine Calls.mono (M2.out _ X1.out) ?_
      rintro e x2 ⟨rfl, hb2⟩
      have X2 : Hid (Below wr.heap.size wr x2) := X1.out.trans (hb2.mono X1.out.size)
      clear hb2 X1
      go_wp2_with fail
      refine Calls.mono (M3.out _ X2.out) ?_
      rintro e x3 ⟨rfl, hb3⟩
      have X3 : Hid (Below wr.heap.size wr x3) := X2.out.trans (hb3.mono X2.out.size)
      clear hb3 X2
      go_wp2_with fail
      refine Calls.mono (M4.out _ X3.out) ?_
      rintro e x4 ⟨rfl, hb4⟩
      have X4 : Hid (Below w.heap.size w x4) := HB.out.trans ((X3.out.trans (hb4.mono X3.out.size)).mono HB.out.size)
      clear hb4 X3
      go_wp2_with fail
      refine (works_any x4 (HT.out _ X4.out)).mono ?_
      rintro e x5 ⟨rfl, hb5⟩
      have X5 : Hid (Below w.heap.size w x5) := X4.out.trans (hb5.mono X4.out.size)
      clear hb5 X4
      go_wp2
      go_ret
      exact ⟨rfl, X5.out⟩
end Go.Proofs.YtjliopclpjeieaaDoor
