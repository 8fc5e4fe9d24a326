/-
  The example's attributes: one, Check, Same.
-/
import Derived.Test.YtpahnebhcfpplabGreatDoorB8b
namespace Go.Proofs.YtpahnebhcfpplabGreatDoor
open Go.RowKit
def oneC (v : Value) : Array Value := #[.int .i64 1, v, .string ⟨#[10, 0, 0, 1]⟩, .bool false, .int .u32 0, .bool false, .int .u32 0, .bool false, .int .u32 0, .int .u32 0, .slice none 0 0, .slice none 0 0, .slice none 0 0, .bool false, .int .u32 0, .slice none 0 0]
theorem csN3 (v : Value) : csN v 3 = oneC v := by kernel_rfl
set_option maxRecDepth 100000 in
set_option maxHeartbeats 6400000 in
theorem one_any (w : World) :
    Calls Tryz.prog 15 #[] w fun e w' => ∃ ad n c, e = .returned (.agg (oneC (.slice ad n c))) ∧ PathAt w' (.slice ad n c) [(2, [1])] ∧ Below w.heap.size w w' := by
  go_enter Tryz.func15, Tryz.ntmps15
  go_wp2
  have hb : ∀ o1 o2 o3 : Obj, Below w.heap.size w (((w.alloc o1).alloc o2).alloc o3) := fun o1 o2 o3 => (((Below.refl _ _).alloc (Nat.le_refl _) _).alloc (by simp) _).alloc (by simp; omega) _
  have h1 : ∀ o1 o2 o3 : Obj, (((w.alloc o1).alloc o2).alloc o3).heap[w.heap.size]? = some o1 := fun o1 o2 o3 => h_up (h_up (h_new rfl))
  have h2 : ∀ o1 o2 o3 : Obj, (((w.alloc o1).alloc o2).alloc o3).heap[w.heap.size + 1]? = some o2 := fun o1 o2 o3 => h_up (h_new (by simp))
  have h3 : ∀ o1 o2 o3 : Obj, (((w.alloc o1).alloc o2).alloc o3).heap[w.heap.size + 1 + 1]? = some o3 := fun o1 o2 o3 => h_new (by simp)
  have hP : PathAt (((w.alloc (.cells #[.int .i64 1, .slice (some ⟨w.heap.size + 1 + 1, 0, none⟩) 1 1, .string ⟨#[10, 0, 0, 1]⟩, .bool false, .int .u32 0, .bool false, .int .u32 0, .bool false, .int .u32 0, .int .u32 0, .slice none 0 0, .slice none 0 0, .slice none 0 0, .bool false, .int .u32 0, .slice none 0 0] 39)).alloc (.cells #[.int .u32 1] 34)).alloc (.cells #[.int .i64 2, .slice (some ⟨w.heap.size + 1, 0, none⟩) 1 1] 54)) (.slice (some ⟨w.heap.size + 1 + 1, 0, none⟩) 1 1) [(2, [1])] := by
    refine ⟨some ⟨w.heap.size + 1 + 1, 0, none⟩, w.heap.size + 1 + 1, 0, 1, rfl, Or.inl rfl, by decide, fun i hi => ?_⟩
    rcases i with _ | i
    · refine ⟨cell_row (h3 _ _ _) 0 _ rfl, _, cell_row (h3 _ _ _) 1 _ rfl, some ⟨w.heap.size + 1, 0, none⟩, w.heap.size + 1, 0, 1, rfl, Or.inl rfl, by simp, fun j hj => ?_⟩
      rcases j with _ | j
      · exact ⟨cell_row (h2 _ _ _) 0 _ rfl, by simp⟩
      · exact absurd hj (by simp)
    · exact absurd hi (by simp)
  have hB := hb (.cells #[.int .i64 1, .slice (some ⟨w.heap.size + 1 + 1, 0, none⟩) 1 1, .string ⟨#[10, 0, 0, 1]⟩, .bool false, .int .u32 0, .bool false, .int .u32 0, .bool false, .int .u32 0, .int .u32 0, .slice none 0 0, .slice none 0 0, .slice none 0 0, .bool false, .int .u32 0, .slice none 0 0] 39) (.cells #[.int .u32 1] 34) (.cells #[.int .i64 2, .slice (some ⟨w.heap.size + 1, 0, none⟩) 1 1] 54)
  have hR := h1 (.cells #[.int .i64 1, .slice (some ⟨w.heap.size + 1 + 1, 0, none⟩) 1 1, .string ⟨#[10, 0, 0, 1]⟩, .bool false, .int .u32 0, .bool false, .int .u32 0, .bool false, .int .u32 0, .int .u32 0, .slice none 0 0, .slice none 0 0, .slice none 0 0, .bool false, .int .u32 0, .slice none 0 0] 39) (.cells #[.int .u32 1] 34) (.cells #[.int .i64 2, .slice (some ⟨w.heap.size + 1, 0, none⟩) 1 1] 54)
  clear h1 h2 h3 hb
  generalize ((w.alloc (.cells #[.int .i64 1, .slice (some ⟨w.heap.size + 1 + 1, 0, none⟩) 1 1, .string ⟨#[10, 0, 0, 1]⟩, .bool false, .int .u32 0, .bool false, .int .u32 0, .bool false, .int .u32 0, .int .u32 0, .slice none 0 0, .slice none 0 0, .slice none 0 0, .bool false, .int .u32 0, .slice none 0 0] 39)).alloc (.cells #[.int .u32 1] 34)).alloc (.cells #[.int .i64 2, .slice (some ⟨w.heap.size + 1, 0, none⟩) 1 1] 54) = W at *
  have k0 := cell_row hR 0 _ rfl
  have k1 := cell_row hR 1 _ rfl
  have k2 := cell_row hR 2 _ rfl
  have k3 := cell_row hR 3 _ rfl
  have k4 := cell_row hR 4 _ rfl
  have k5 := cell_row hR 5 _ rfl
  have k6 := cell_row hR 6 _ rfl
  have k7 := cell_row hR 7 _ rfl
  have k8 := cell_row hR 8 _ rfl
  have k9 := cell_row hR 9 _ rfl
  have k10 := cell_row hR 10 _ rfl
  have k11 := cell_row hR 11 _ rfl
  have k12 := cell_row hR 12 _ rfl
  have k13 := cell_row hR 13 _ rfl
  have k14 := cell_row hR 14 _ rfl
  have k15 := cell_row hR 15 _ rfl
  refine bodyPost_ret (v := .agg (oneC (.slice (some ⟨w.heap.size + 1 + 1, 0, none⟩) 1 1))) (by simp [results, Tryz.results15, go_sem, oneC, k0, k1, k2, k3, k4, k5, k6, k7, k8, k9, k10, k11, k12, k13, k14, k15]) rfl ?_
  exact ⟨_, _, _, rfl, hP, hB⟩
set_option maxRecDepth 100000 in
set_option maxHeartbeats 6400000 in
theorem mayF_one (ad : Option Addr) (n c : Nat) (w : World) :
    Calls Tryz.prog 27 #[.agg (oneC (.slice ad n c))] w fun e w' => e = .returned (.bool true) ∧ Below w.heap.size w w' := by
  unfold oneC
  go_enter Tryz.func27, Tryz.ntmps27
  go_wp2
  go_ret
  exact ⟨rfl, (Below.refl _ _).alloc (Nat.le_refl _) _⟩
theorem nil_at (w : World) : PlainAt w (.slice none 0 0) [] := ⟨none, 0, 0, 0, rfl, Or.inr rfl, by decide, fun j hj => absurd hj (by simp)⟩
theorem nil_ex (w : World) : ExtsAt w (.slice none 0 0) [] := ⟨none, 0, 0, 0, rfl, Or.inr rfl, by decide, fun j hj => absurd hj (by simp)⟩
theorem nil_la (w : World) : LargesAt w (.slice none 0 0) [] := ⟨none, 0, 0, 0, rfl, Or.inr rfl, by decide, fun j hj => absurd hj (by simp)⟩
def one2 : List Sg := [(2, [1])]
theorem one_ok : okPath one2 = true := by decide +kernel
set_option maxRecDepth 100000 in
set_option maxHeartbeats 6400000 in
theorem mayL_one (ad : Option Addr) (n c : Nat) (w : World) (h : PathAt w (.slice ad n c) [(2, [1])]) :
    Calls Tryz.prog 28 #[.agg (oneC (.slice ad n c))] w fun e w' => e = .returned (.bool true) ∧ Below w.heap.size w w' := by
  have hb0 : Below w.heap.size w (w.alloc (.cells (oneC (.slice ad n c)) 39)) := (Below.refl _ _).alloc (Nat.le_refl _) _
  have hR : (w.alloc (.cells (oneC (.slice ad n c)) 39)).heap[w.heap.size]? = some (.cells (oneC (.slice ad n c)) 39 (0, 0)) := heap_new _ _
  have HP : Hid (PathAt _ _ _) := h.below hb0
  have HB0 : Hid (Below _ _ _) := hb0
  have HR : Hid (_ = _) := hR
  clear h hb0 hR
  unfold oneC at HR HP HB0 ⊢
  go_enter Tryz.func28, Tryz.ntmps28
  go_wp2_with fail
  generalize w.alloc (.cells #[.int .i64 1, .slice ad n c, .string ⟨#[10, 0, 0, 1]⟩, .bool false, .int .u32 0, .bool false, .int .u32 0, .bool false, .int .u32 0, .int .u32 0, .slice none 0 0, .slice none 0 0, .slice none 0 0, .bool false, .int .u32 0, .slice none 0 0] 39) = W0 at *
  generalize hpp : w.heap.size = p at *
  refine (check_any _ _ W0 HP.out).mono ?_
  rintro e w1 ⟨rfl, hb1⟩
  rw [show chkOf [(2, [1])] = 0 by decide +kernel]
  have HR1 : Hid (w1.heap[p]? = some (.cells #[.int .i64 1, .slice ad n c, .string ⟨#[10, 0, 0, 1]⟩, .bool false, .int .u32 0, .bool false, .int .u32 0, .bool false, .int .u32 0, .int .u32 0, .slice none 0 0, .slice none 0 0, .slice none 0 0, .bool false, .int .u32 0, .slice none 0 0] 39 (0, 0))) := (hb1.block p (Array.getElem?_eq_some_iff.mp HR.out).1).trans HR.out
  have HB1 : Hid (Below p w w1) := HB0.out.trans (hb1.mono (by rw [← hpp]; rw [← hpp] at HB0; exact HB0.out.size))
  have c0 : w1.cell? ⟨p, 10, none⟩ = some (.slice none 0 0) := cell_row HR1.out 10 _ rfl
  clear hb1 HP HR HB0
  go_wp2_with fail
  refine (mayU2 _ [] w1 (nil_at _)).mono ?_
  rintro e w2 ⟨rfl, hb2⟩
  rw [show mayL ltN [] = true by rfl]
  have HR2 : Hid (w2.heap[p]? = some (.cells #[.int .i64 1, .slice ad n c, .string ⟨#[10, 0, 0, 1]⟩, .bool false, .int .u32 0, .bool false, .int .u32 0, .bool false, .int .u32 0, .int .u32 0, .slice none 0 0, .slice none 0 0, .slice none 0 0, .bool false, .int .u32 0, .slice none 0 0] 39 (0, 0))) := (hb2.block p (Array.getElem?_eq_some_iff.mp HR1.out).1).trans HR1.out
  have HB2 : Hid (Below p w w2) := HB1.out.trans (hb2.mono (Nat.le_of_lt (Array.getElem?_eq_some_iff.mp HR1.out).1))
  have c1 : w2.cell? ⟨p, 11, none⟩ = some (.slice none 0 0) := cell_row HR2.out 11 _ rfl
  clear hb2 c0 HR1 HB1
  go_wp2_with fail
  refine (mayX2 _ [] w2 (nil_ex _)).mono ?_
  rintro e w3 ⟨rfl, hb3⟩
  rw [show mayL ltN [] = true by rfl]
  have HR3 : Hid (w3.heap[p]? = some (.cells #[.int .i64 1, .slice ad n c, .string ⟨#[10, 0, 0, 1]⟩, .bool false, .int .u32 0, .bool false, .int .u32 0, .bool false, .int .u32 0, .int .u32 0, .slice none 0 0, .slice none 0 0, .slice none 0 0, .bool false, .int .u32 0, .slice none 0 0] 39 (0, 0))) := (hb3.block p (Array.getElem?_eq_some_iff.mp HR2.out).1).trans HR2.out
  have HB3 : Hid (Below p w w3) := HB2.out.trans (hb3.mono (Nat.le_of_lt (Array.getElem?_eq_some_iff.mp HR2.out).1))
  have c2 : w3.cell? ⟨p, 12, none⟩ = some (.slice none 0 0) := cell_row HR3.out 12 _ rfl
  clear hb3 c1 HR2 HB2
  go_wp2_with fail
  refine (mayLg2 _ [] w3 (nil_la _)).mono ?_
  rintro e w4 ⟨rfl, hb4⟩
  rw [show mayL ltL [] = true by rfl]
  have HR4 : Hid (w4.heap[p]? = some (.cells #[.int .i64 1, .slice ad n c, .string ⟨#[10, 0, 0, 1]⟩, .bool false, .int .u32 0, .bool false, .int .u32 0, .bool false, .int .u32 0, .int .u32 0, .slice none 0 0, .slice none 0 0, .slice none 0 0, .bool false, .int .u32 0, .slice none 0 0] 39 (0, 0))) := (hb4.block p (Array.getElem?_eq_some_iff.mp HR3.out).1).trans HR3.out
  have HB4 : Hid (Below p w w4) := HB3.out.trans (hb4.mono (Nat.le_of_lt (Array.getElem?_eq_some_iff.mp HR3.out).1))
  have c3 : w4.cell? ⟨p, 15, none⟩ = some (.slice none 0 0) := cell_row HR4.out 15 _ rfl
  clear hb4 c2 HR3 HB3
  go_wp2
  go_ret
  exact ⟨rfl, by rw [hpp]; exact HB4.out⟩
set_option maxRecDepth 100000 in
set_option maxHeartbeats 6400000 in
theorem check_one (ad : Option Addr) (n c : Nat) (w : World) (h : PathAt w (.slice ad n c) [(2, [1])]) :
    Calls Tryz.prog 12 #[.agg (oneC (.slice ad n c))] w fun e w' => e = .returned (.int .i64 0) ∧ Below w.heap.size w w' := by
  have hb0 : Below w.heap.size w (w.alloc (.cells (oneC (.slice ad n c)) 39)) := (Below.refl _ _).alloc (Nat.le_refl _) _
  have hR : (w.alloc (.cells (oneC (.slice ad n c)) 39)).heap[w.heap.size]? = some (.cells (oneC (.slice ad n c)) 39 (0, 0)) := heap_new _ _
  have HP : Hid (PathAt _ _ _) := h.below hb0
  have HB0 : Hid (Below _ _ _) := hb0
  have HR : Hid (_ = _) := hR
  have HF : Hid (∀ W, Calls Tryz.prog 27 #[.agg (oneC (.slice ad n c))] W fun e w' => e = .returned (.bool true) ∧ Below W.heap.size W w') := fun W => mayF_one ad n c W
  have HL : Hid (∀ W, PathAt W (.slice ad n c) [(2, [1])] → Calls Tryz.prog 28 #[.agg (oneC (.slice ad n c))] W fun e w' => e = .returned (.bool true) ∧ Below W.heap.size W w') := fun W hW => mayL_one ad n c W hW
  clear h hb0 hR
  unfold oneC at HR HP HB0 HF HL ⊢
  go_enter Tryz.func12, Tryz.ntmps12
  go_wp2_with fail
  generalize w.alloc (.cells #[.int .i64 1, .slice ad n c, .string ⟨#[10, 0, 0, 1]⟩, .bool false, .int .u32 0, .bool false, .int .u32 0, .bool false, .int .u32 0, .int .u32 0, .slice none 0 0, .slice none 0 0, .slice none 0 0, .bool false, .int .u32 0, .slice none 0 0] 39) = W0 at *
  generalize hpp : w.heap.size = p at *
  refine (HF.out W0).mono ?_
  rintro e w1 ⟨rfl, hb1⟩
  have HR1 : Hid (w1.heap[p]? = some (.cells #[.int .i64 1, .slice ad n c, .string ⟨#[10, 0, 0, 1]⟩, .bool false, .int .u32 0, .bool false, .int .u32 0, .bool false, .int .u32 0, .int .u32 0, .slice none 0 0, .slice none 0 0, .slice none 0 0, .bool false, .int .u32 0, .slice none 0 0] 39 (0, 0))) := (hb1.block p (Array.getElem?_eq_some_iff.mp HR.out).1).trans HR.out
  have HP1 : Hid (PathAt _ _ _) := HP.out.below hb1
  have HB1 : Hid (Below p w w1) := HB0.out.trans (hb1.mono (Nat.le_of_lt (Array.getElem?_eq_some_iff.mp HR.out).1))
  have k0 := cell_row HR1.out 0 _ rfl
  have k1 := cell_row HR1.out 1 _ rfl
  have k2 := cell_row HR1.out 2 _ rfl
  have k3 := cell_row HR1.out 3 _ rfl
  have k4 := cell_row HR1.out 4 _ rfl
  have k5 := cell_row HR1.out 5 _ rfl
  have k6 := cell_row HR1.out 6 _ rfl
  have k7 := cell_row HR1.out 7 _ rfl
  have k8 := cell_row HR1.out 8 _ rfl
  have k9 := cell_row HR1.out 9 _ rfl
  have k10 := cell_row HR1.out 10 _ rfl
  have k11 := cell_row HR1.out 11 _ rfl
  have k12 := cell_row HR1.out 12 _ rfl
  have k13 := cell_row HR1.out 13 _ rfl
  have k14 := cell_row HR1.out 14 _ rfl
  have k15 := cell_row HR1.out 15 _ rfl
  clear hb1 HP HR HB0
  go_wp2_with fail
  refine (HL.out w1 HP1.out).mono ?_
  rintro e w2 ⟨rfl, hb2⟩
  have HB2 : Hid (Below p w w2) := HB1.out.trans (hb2.mono (Nat.le_of_lt (Array.getElem?_eq_some_iff.mp HR1.out).1))
  clear hb2 HB1 HR1 k0 k1 k2 k3 k4 k5 k6 k7 k8 k9 k10 k11 k12 k13 k14 k15
  go_wp2
  go_ret
  exact ⟨rfl, by rw [hpp]; exact HB2.out⟩
end Go.Proofs.YtpahnebhcfpplabGreatDoor
