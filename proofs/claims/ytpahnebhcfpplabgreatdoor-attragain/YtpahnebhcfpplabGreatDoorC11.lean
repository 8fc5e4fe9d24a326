/-
  The example's attributes: Same.
-/
import Derived.Test.YtpahnebhcfpplabGreatDoorC10
import Derived.Test.YtpahnebhcfpplabGreatDoorC3
namespace Go.Proofs.YtpahnebhcfpplabGreatDoor
open Go.RowKit
theorem eqX_nil (w : World) : Calls Tryz.prog 40 #[.slice none 0 0, .slice none 0 0] w fun e w' => e = .returned (.bool true) ∧ w' = w := by
  go_enter Tryz.func40, Tryz.ntmps40
  go_wp2
  go_loopw [13] (fun i wr => i = .int .i64 0 ∧ wr = w) (fun _ _ => 0)
  case atStart => exact ⟨rfl, rfl⟩
  case round =>
    obtain ⟨rfl, rfl⟩ := hrel
    go_wp2
    go_ret
    exact ⟨rfl, rfl⟩
theorem eqL_nil (w : World) : Calls Tryz.prog 41 #[.slice none 0 0, .slice none 0 0] w fun e w' => e = .returned (.bool true) ∧ w' = w := by
  go_enter Tryz.func41, Tryz.ntmps41
  go_wp2
  go_loopw [13] (fun i wr => i = .int .i64 0 ∧ wr = w) (fun _ _ => 0)
  case atStart => exact ⟨rfl, rfl⟩
  case round =>
    obtain ⟨rfl, rfl⟩ := hrel
    go_wp2
    go_ret
    exact ⟨rfl, rfl⟩
theorem eqU_nil (w : World) : Calls Tryz.prog 39 #[.slice none 0 0, .slice none 0 0] w fun e w' => e = .returned (.bool true) ∧ w' = w := by
  go_enter Tryz.func39, Tryz.ntmps39
  go_wp2
  go_loopw [13] (fun i wr => i = .int .i64 0 ∧ wr = w) (fun _ _ => 0)
  case atStart => exact ⟨rfl, rfl⟩
  case round =>
    obtain ⟨rfl, rfl⟩ := hrel
    go_wp2
    go_ret
    exact ⟨rfl, rfl⟩
theorem two_below (w : World) (o1 o2 : Obj) : Below w.heap.size w ((w.alloc o1).alloc o2) := ((Below.refl _ _).alloc (Nat.le_refl _) _).alloc (by simp) _
set_option maxRecDepth 100000 in
set_option maxHeartbeats 6400000 in
theorem sameF_one (ad ad2 : Option Addr) (n c n2 c2 : Nat) (w : World) :
    Calls Tryz.prog 25 #[.agg (oneC (.slice ad n c)), .agg (oneC (.slice ad2 n2 c2))] w fun e w' => e = .returned (.bool true) ∧ Below w.heap.size w w' := by
  have hb0 := two_below w (.cells (oneC (.slice ad n c)) 39) (.cells (oneC (.slice ad2 n2 c2)) 39)
  have h1 : ((w.alloc (.cells (oneC (.slice ad n c)) 39)).alloc (.cells (oneC (.slice ad2 n2 c2)) 39)).heap[w.heap.size]? = some (.cells (oneC (.slice ad n c)) 39 (0, 0)) := h_up (h_new rfl)
  have h2 : ((w.alloc (.cells (oneC (.slice ad n c)) 39)).alloc (.cells (oneC (.slice ad2 n2 c2)) 39)).heap[w.heap.size + 1]? = some (.cells (oneC (.slice ad2 n2 c2)) 39 (0, 0)) := h_new (by simp)
  have HB : Hid (Below _ _ _) := hb0
  have a0 : _ = some (Value.int .i64 1) := cell_row h1 0 _ rfl
  have b0 : _ = some (Value.int .i64 1) := cell_row h2 0 _ rfl
  have a2 : _ = some (Value.string ⟨#[10, 0, 0, 1]⟩) := cell_row h1 2 _ rfl
  have b2 : _ = some (Value.string ⟨#[10, 0, 0, 1]⟩) := cell_row h2 2 _ rfl
  have a7 : _ = some (Value.bool false) := cell_row h1 7 _ rfl
  have b7 : _ = some (Value.bool false) := cell_row h2 7 _ rfl
  have a3 : _ = some (Value.bool false) := cell_row h1 3 _ rfl
  have b3 : _ = some (Value.bool false) := cell_row h2 3 _ rfl
  have a4 : _ = some (Value.int .u32 0) := cell_row h1 4 _ rfl
  have b4 : _ = some (Value.int .u32 0) := cell_row h2 4 _ rfl
  have a5 : _ = some (Value.bool false) := cell_row h1 5 _ rfl
  have b5 : _ = some (Value.bool false) := cell_row h2 5 _ rfl
  have a6 : _ = some (Value.int .u32 0) := cell_row h1 6 _ rfl
  have b6 : _ = some (Value.int .u32 0) := cell_row h2 6 _ rfl
  have a13 : _ = some (Value.bool false) := cell_row h1 13 _ rfl
  have b13 : _ = some (Value.bool false) := cell_row h2 13 _ rfl
  have a14 : _ = some (Value.int .u32 0) := cell_row h1 14 _ rfl
  have b14 : _ = some (Value.int .u32 0) := cell_row h2 14 _ rfl
  have a8 : _ = some (Value.int .u32 0) := cell_row h1 8 _ rfl
  have b8 : _ = some (Value.int .u32 0) := cell_row h2 8 _ rfl
  have a9 : _ = some (Value.int .u32 0) := cell_row h1 9 _ rfl
  have b9 : _ = some (Value.int .u32 0) := cell_row h2 9 _ rfl
  clear hb0 h1 h2
  unfold oneC at HB a0 b0 a2 b2 a7 b7 a3 b3 a4 b4 a5 b5 a6 b6 a13 b13 a14 b14 a8 b8 a9 b9 ⊢
  go_enter Tryz.func25, Tryz.ntmps25
  go_wp2
  go_ret
  exact ⟨rfl, HB.out⟩
set_option maxRecDepth 100000 in
set_option maxHeartbeats 6400000 in
theorem sameL_one (ad ad2 : Option Addr) (n c n2 c2 : Nat) (w : World) (hp : PathAt w (.slice ad n c) [(2, [1])]) (hq : PathAt w (.slice ad2 n2 c2) [(2, [1])]) :
    Calls Tryz.prog 26 #[.agg (oneC (.slice ad n c)), .agg (oneC (.slice ad2 n2 c2))] w fun e w' => e = .returned (.bool true) ∧ Below w.heap.size w w' := by
  have hb0 := two_below w (.cells (oneC (.slice ad n c)) 39) (.cells (oneC (.slice ad2 n2 c2)) 39)
  have h1 : ((w.alloc (.cells (oneC (.slice ad n c)) 39)).alloc (.cells (oneC (.slice ad2 n2 c2)) 39)).heap[w.heap.size]? = some (.cells (oneC (.slice ad n c)) 39 (0, 0)) := h_up (h_new rfl)
  have h2 : ((w.alloc (.cells (oneC (.slice ad n c)) 39)).alloc (.cells (oneC (.slice ad2 n2 c2)) 39)).heap[w.heap.size + 1]? = some (.cells (oneC (.slice ad2 n2 c2)) 39 (0, 0)) := h_new (by simp)
  have HB : Hid (Below _ _ _) := hb0
  have HP : Hid (PathAt _ _ _) := hp.below hb0
  have HQ : Hid (PathAt _ _ _) := hq.below hb0
  have H1 : Hid (_ = _) := h1
  have H2 : Hid (_ = _) := h2
  have a1 : _ = some (Value.slice ad n c) := cell_row h1 1 _ rfl
  have b1 : _ = some (Value.slice ad2 n2 c2) := cell_row h2 1 _ rfl
  clear hb0 h1 h2 hp hq
  unfold oneC at HB HP HQ H1 H2 a1 b1 ⊢
  go_enter Tryz.func26, Tryz.ntmps26
  go_wp2_with fail
  generalize (w.alloc (.cells #[.int .i64 1, .slice ad n c, .string ⟨#[10, 0, 0, 1]⟩, .bool false, .int .u32 0, .bool false, .int .u32 0, .bool false, .int .u32 0, .int .u32 0, .slice none 0 0, .slice none 0 0, .slice none 0 0, .bool false, .int .u32 0, .slice none 0 0] 39)).alloc (.cells #[.int .i64 1, .slice ad2 n2 c2, .string ⟨#[10, 0, 0, 1]⟩, .bool false, .int .u32 0, .bool false, .int .u32 0, .bool false, .int .u32 0, .int .u32 0, .slice none 0 0, .slice none 0 0, .slice none 0 0, .bool false, .int .u32 0, .slice none 0 0] 39) = W0 at *
  generalize hpp : w.heap.size = p at *
  refine (same_any _ _ _ _ W0 HP.out HQ.out).mono ?_
  rintro e w1 ⟨rfl, hb1⟩
  rw [show decide ([((2 : Int), [1])] = [(2, [1])]) = true by decide]
  have HR1 : Hid (w1.heap[p]? = _) := (hb1.block p (Array.getElem?_eq_some_iff.mp H1.out).1).trans H1.out
  have HR2 : Hid (w1.heap[p + 1]? = _) := (hb1.block (p + 1) (Array.getElem?_eq_some_iff.mp H2.out).1).trans H2.out
  have HB1 : Hid (Below p w w1) := HB.out.trans (hb1.mono (Nat.le_of_lt (Array.getElem?_eq_some_iff.mp H1.out).1))
  have c10 : w1.cell? ⟨p, 10, none⟩ = some (.slice none 0 0) := cell_row HR1.out 10 _ rfl
  have d10 : w1.cell? ⟨p + 1, 10, none⟩ = some (.slice none 0 0) := cell_row HR2.out 10 _ rfl
  have c11 : w1.cell? ⟨p, 11, none⟩ = some (.slice none 0 0) := cell_row HR1.out 11 _ rfl
  have d11 : w1.cell? ⟨p + 1, 11, none⟩ = some (.slice none 0 0) := cell_row HR2.out 11 _ rfl
  have c12 : w1.cell? ⟨p, 12, none⟩ = some (.slice none 0 0) := cell_row HR1.out 12 _ rfl
  have d12 : w1.cell? ⟨p + 1, 12, none⟩ = some (.slice none 0 0) := cell_row HR2.out 12 _ rfl
  have c15 : w1.cell? ⟨p, 15, none⟩ = some (.slice none 0 0) := cell_row HR1.out 15 _ rfl
  have d15 : w1.cell? ⟨p + 1, 15, none⟩ = some (.slice none 0 0) := cell_row HR2.out 15 _ rfl
  clear hb1 HP HQ H1 H2 a1 b1 HB
  go_wp2_with fail
  refine (eqU_nil w1).mono ?_
  rintro e w2 ⟨rfl, rfl⟩
  go_wp2_with fail
  refine (eqX_nil _).mono ?_
  rintro e w3 ⟨rfl, rfl⟩
  go_wp2_with fail
  refine (eqL_nil _).mono ?_
  rintro e w4 ⟨rfl, rfl⟩
  go_wp2_with fail
  refine (eqU_nil _).mono ?_
  rintro e w5 ⟨rfl, rfl⟩
  go_wp2
  go_ret
  exact ⟨rfl, by rw [hpp]; exact HB1.out⟩
set_option maxRecDepth 100000 in
set_option maxHeartbeats 6400000 in
theorem same_one (ad ad2 : Option Addr) (n c n2 c2 : Nat) (w : World) (hp : PathAt w (.slice ad n c) [(2, [1])]) (hq : PathAt w (.slice ad2 n2 c2) [(2, [1])]) :
    Calls Tryz.prog 11 #[.agg (oneC (.slice ad n c)), .agg (oneC (.slice ad2 n2 c2))] w fun e w' => e = .returned (.bool true) ∧ Below w.heap.size w w' := by
  have hb0 := two_below w (.cells (oneC (.slice ad n c)) 39) (.cells (oneC (.slice ad2 n2 c2)) 39)
  have h1 : ((w.alloc (.cells (oneC (.slice ad n c)) 39)).alloc (.cells (oneC (.slice ad2 n2 c2)) 39)).heap[w.heap.size]? = some (.cells (oneC (.slice ad n c)) 39 (0, 0)) := h_up (h_new rfl)
  have h2 : ((w.alloc (.cells (oneC (.slice ad n c)) 39)).alloc (.cells (oneC (.slice ad2 n2 c2)) 39)).heap[w.heap.size + 1]? = some (.cells (oneC (.slice ad2 n2 c2)) 39 (0, 0)) := h_new (by simp)
  have HB : Hid (Below _ _ _) := hb0
  have HP : Hid (PathAt _ _ _) := hp.below hb0
  have HQ : Hid (PathAt _ _ _) := hq.below hb0
  have H1 : Hid (_ = _) := h1
  have H2 : Hid (_ = _) := h2
  have HF : Hid (∀ W, Calls Tryz.prog 25 #[.agg (oneC (.slice ad n c)), .agg (oneC (.slice ad2 n2 c2))] W fun e w' => e = .returned (.bool true) ∧ Below W.heap.size W w') := fun W => sameF_one ad ad2 n c n2 c2 W
  have HL : Hid (∀ W, PathAt W (.slice ad n c) [(2, [1])] → PathAt W (.slice ad2 n2 c2) [(2, [1])] → Calls Tryz.prog 26 #[.agg (oneC (.slice ad n c)), .agg (oneC (.slice ad2 n2 c2))] W fun e w' => e = .returned (.bool true) ∧ Below W.heap.size W w') := fun W h1 h2 => sameL_one ad ad2 n c n2 c2 W h1 h2
  have a0 : _ = some (Value.int .i64 1) := cell_row h1 0 _ rfl
  have b0 : _ = some (Value.int .i64 1) := cell_row h2 0 _ rfl
  have a1 : _ = some (Value.slice ad n c) := cell_row h1 1 _ rfl
  have b1 : _ = some (Value.slice ad2 n2 c2) := cell_row h2 1 _ rfl
  have a2 : _ = some (Value.string ⟨#[10, 0, 0, 1]⟩) := cell_row h1 2 _ rfl
  have b2 : _ = some (Value.string ⟨#[10, 0, 0, 1]⟩) := cell_row h2 2 _ rfl
  have a3 : _ = some (Value.bool false) := cell_row h1 3 _ rfl
  have b3 : _ = some (Value.bool false) := cell_row h2 3 _ rfl
  have a4 : _ = some (Value.int .u32 0) := cell_row h1 4 _ rfl
  have b4 : _ = some (Value.int .u32 0) := cell_row h2 4 _ rfl
  have a5 : _ = some (Value.bool false) := cell_row h1 5 _ rfl
  have b5 : _ = some (Value.bool false) := cell_row h2 5 _ rfl
  have a6 : _ = some (Value.int .u32 0) := cell_row h1 6 _ rfl
  have b6 : _ = some (Value.int .u32 0) := cell_row h2 6 _ rfl
  have a7 : _ = some (Value.bool false) := cell_row h1 7 _ rfl
  have b7 : _ = some (Value.bool false) := cell_row h2 7 _ rfl
  have a8 : _ = some (Value.int .u32 0) := cell_row h1 8 _ rfl
  have b8 : _ = some (Value.int .u32 0) := cell_row h2 8 _ rfl
  have a9 : _ = some (Value.int .u32 0) := cell_row h1 9 _ rfl
  have b9 : _ = some (Value.int .u32 0) := cell_row h2 9 _ rfl
  have a10 : _ = some (Value.slice none 0 0) := cell_row h1 10 _ rfl
  have b10 : _ = some (Value.slice none 0 0) := cell_row h2 10 _ rfl
  have a11 : _ = some (Value.slice none 0 0) := cell_row h1 11 _ rfl
  have b11 : _ = some (Value.slice none 0 0) := cell_row h2 11 _ rfl
  have a12 : _ = some (Value.slice none 0 0) := cell_row h1 12 _ rfl
  have b12 : _ = some (Value.slice none 0 0) := cell_row h2 12 _ rfl
  have a13 : _ = some (Value.bool false) := cell_row h1 13 _ rfl
  have b13 : _ = some (Value.bool false) := cell_row h2 13 _ rfl
  have a14 : _ = some (Value.int .u32 0) := cell_row h1 14 _ rfl
  have b14 : _ = some (Value.int .u32 0) := cell_row h2 14 _ rfl
  have a15 : _ = some (Value.slice none 0 0) := cell_row h1 15 _ rfl
  have b15 : _ = some (Value.slice none 0 0) := cell_row h2 15 _ rfl
  clear hb0 h1 h2 hp hq
  unfold oneC at HB HP HQ H1 H2 HF HL a0 b0 a1 b1 a2 b2 a3 b3 a4 b4 a5 b5 a6 b6 a7 b7 a8 b8 a9 b9 a10 b10 a11 b11 a12 b12 a13 b13 a14 b14 a15 b15 ⊢
  go_enter Tryz.func11, Tryz.ntmps11
  go_wp2_with fail
  clear a0 b0 a1 b1 a2 b2 a3 b3 a4 b4 a5 b5 a6 b6 a7 b7 a8 b8 a9 b9 a10 b10 a11 b11 a12 b12 a13 b13 a14 b14 a15 b15
  generalize (w.alloc (.cells #[.int .i64 1, .slice ad n c, .string ⟨#[10, 0, 0, 1]⟩, .bool false, .int .u32 0, .bool false, .int .u32 0, .bool false, .int .u32 0, .int .u32 0, .slice none 0 0, .slice none 0 0, .slice none 0 0, .bool false, .int .u32 0, .slice none 0 0] 39)).alloc (.cells #[.int .i64 1, .slice ad2 n2 c2, .string ⟨#[10, 0, 0, 1]⟩, .bool false, .int .u32 0, .bool false, .int .u32 0, .bool false, .int .u32 0, .int .u32 0, .slice none 0 0, .slice none 0 0, .slice none 0 0, .bool false, .int .u32 0, .slice none 0 0] 39) = W0 at *
  generalize hpp : w.heap.size = p at *
  refine (HF.out W0).mono ?_
  rintro e w1 ⟨rfl, hb1⟩
  have HR1 : Hid (w1.heap[p]? = _) := (hb1.block p (Array.getElem?_eq_some_iff.mp H1.out).1).trans H1.out
  have HR2 : Hid (w1.heap[p + 1]? = _) := (hb1.block (p + 1) (Array.getElem?_eq_some_iff.mp H2.out).1).trans H2.out
  have HB1 : Hid (Below p w w1) := HB.out.trans (hb1.mono (Nat.le_of_lt (Array.getElem?_eq_some_iff.mp H1.out).1))
  have HP1 : Hid (PathAt _ _ _) := HP.out.below hb1
  have HQ1 : Hid (PathAt _ _ _) := HQ.out.below hb1
  have a0 : w1.cell? ⟨p, 0, none⟩ = some (.int .i64 1) := cell_row HR1.out 0 _ rfl
  have b0 : w1.cell? ⟨p + 1, 0, none⟩ = some (.int .i64 1) := cell_row HR2.out 0 _ rfl
  have a1 : w1.cell? ⟨p, 1, none⟩ = some (.slice ad n c) := cell_row HR1.out 1 _ rfl
  have b1 : w1.cell? ⟨p + 1, 1, none⟩ = some (.slice ad2 n2 c2) := cell_row HR2.out 1 _ rfl
  have a2 : w1.cell? ⟨p, 2, none⟩ = some (.string ⟨#[10, 0, 0, 1]⟩) := cell_row HR1.out 2 _ rfl
  have b2 : w1.cell? ⟨p + 1, 2, none⟩ = some (.string ⟨#[10, 0, 0, 1]⟩) := cell_row HR2.out 2 _ rfl
  have a3 : w1.cell? ⟨p, 3, none⟩ = some (.bool false) := cell_row HR1.out 3 _ rfl
  have b3 : w1.cell? ⟨p + 1, 3, none⟩ = some (.bool false) := cell_row HR2.out 3 _ rfl
  have a4 : w1.cell? ⟨p, 4, none⟩ = some (.int .u32 0) := cell_row HR1.out 4 _ rfl
  have b4 : w1.cell? ⟨p + 1, 4, none⟩ = some (.int .u32 0) := cell_row HR2.out 4 _ rfl
  have a5 : w1.cell? ⟨p, 5, none⟩ = some (.bool false) := cell_row HR1.out 5 _ rfl
  have b5 : w1.cell? ⟨p + 1, 5, none⟩ = some (.bool false) := cell_row HR2.out 5 _ rfl
  have a6 : w1.cell? ⟨p, 6, none⟩ = some (.int .u32 0) := cell_row HR1.out 6 _ rfl
  have b6 : w1.cell? ⟨p + 1, 6, none⟩ = some (.int .u32 0) := cell_row HR2.out 6 _ rfl
  have a7 : w1.cell? ⟨p, 7, none⟩ = some (.bool false) := cell_row HR1.out 7 _ rfl
  have b7 : w1.cell? ⟨p + 1, 7, none⟩ = some (.bool false) := cell_row HR2.out 7 _ rfl
  have a8 : w1.cell? ⟨p, 8, none⟩ = some (.int .u32 0) := cell_row HR1.out 8 _ rfl
  have b8 : w1.cell? ⟨p + 1, 8, none⟩ = some (.int .u32 0) := cell_row HR2.out 8 _ rfl
  have a9 : w1.cell? ⟨p, 9, none⟩ = some (.int .u32 0) := cell_row HR1.out 9 _ rfl
  have b9 : w1.cell? ⟨p + 1, 9, none⟩ = some (.int .u32 0) := cell_row HR2.out 9 _ rfl
  have a10 : w1.cell? ⟨p, 10, none⟩ = some (.slice none 0 0) := cell_row HR1.out 10 _ rfl
  have b10 : w1.cell? ⟨p + 1, 10, none⟩ = some (.slice none 0 0) := cell_row HR2.out 10 _ rfl
  have a11 : w1.cell? ⟨p, 11, none⟩ = some (.slice none 0 0) := cell_row HR1.out 11 _ rfl
  have b11 : w1.cell? ⟨p + 1, 11, none⟩ = some (.slice none 0 0) := cell_row HR2.out 11 _ rfl
  have a12 : w1.cell? ⟨p, 12, none⟩ = some (.slice none 0 0) := cell_row HR1.out 12 _ rfl
  have b12 : w1.cell? ⟨p + 1, 12, none⟩ = some (.slice none 0 0) := cell_row HR2.out 12 _ rfl
  have a13 : w1.cell? ⟨p, 13, none⟩ = some (.bool false) := cell_row HR1.out 13 _ rfl
  have b13 : w1.cell? ⟨p + 1, 13, none⟩ = some (.bool false) := cell_row HR2.out 13 _ rfl
  have a14 : w1.cell? ⟨p, 14, none⟩ = some (.int .u32 0) := cell_row HR1.out 14 _ rfl
  have b14 : w1.cell? ⟨p + 1, 14, none⟩ = some (.int .u32 0) := cell_row HR2.out 14 _ rfl
  have a15 : w1.cell? ⟨p, 15, none⟩ = some (.slice none 0 0) := cell_row HR1.out 15 _ rfl
  have b15 : w1.cell? ⟨p + 1, 15, none⟩ = some (.slice none 0 0) := cell_row HR2.out 15 _ rfl
  clear hb1 H1 H2 HP HQ HB HF
  go_wp2_with fail
  clear a0 b0 a1 b1 a2 b2 a3 b3 a4 b4 a5 b5 a6 b6 a7 b7 a8 b8 a9 b9 a10 b10 a11 b11 a12 b12 a13 b13 a14 b14 a15 b15
  refine (HL.out w1 HP1.out HQ1.out).mono ?_
  rintro e w2 ⟨rfl, hb2⟩
  have HB2 : Hid (Below p w w2) := HB1.out.trans (hb2.mono (Nat.le_of_lt (Array.getElem?_eq_some_iff.mp HR1.out).1))
  clear hb2 HB1
  go_wp2
  go_ret
  exact ⟨rfl, by rw [hpp]; exact HB2.out⟩
end Go.Proofs.YtpahnebhcfpplabGreatDoor
