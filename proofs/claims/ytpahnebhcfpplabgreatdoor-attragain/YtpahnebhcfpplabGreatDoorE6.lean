/-
  rowOf: the row of each known type.
-/
import Derived.Test.YtpahnebhcfpplabGreatDoorE4
namespace Go.Proofs.YtpahnebhcfpplabGreatDoor
open Go.RowKit
theorem row1 (four : Bool) (w : World) :
    Calls Tryz.prog 29 #[.int .u8 1, .bool four] w fun e w' => e = .returned (.tuple #[.agg #[.int .u8 64, .int .i64 2, .func (.func 49) #[] #[], .func (.func 50) #[] #[]], .bool true]) ∧ Below w.heap.size w w' := by
  go_enter Tryz.func29, Tryz.ntmps29
  go_wp2
  refine bodyPost_ret (v := .tuple #[.agg #[.int .u8 64, .int .i64 2, .func (.func 49) #[] #[], .func (.func 50) #[] #[]], .bool true]) (by simp [results, Tryz.results29, go_sem]) rfl ?_
  exact ⟨rfl, (Below.refl _ _).alloc (Nat.le_refl _) _⟩
theorem row2 (four : Bool) (w : World) :
    Calls Tryz.prog 29 #[.int .u8 2, .bool four] w fun e w' => ∃ q : Nat, e = .returned (.tuple #[.agg #[.int .u8 64, .int .i64 2, .func (.func 86) #[] #[.pointer (some ⟨q, 0, none⟩)], .func (.func 88) #[] #[.pointer (some ⟨q, 0, none⟩)]], .bool true]) ∧ (w'.cell? ⟨q, 0, none⟩ = some (.bool four)) ∧ Below w.heap.size w w' := by
  have HR : Hid (R4 _ _) := R4.start w
  have HB : Hid (Below _ _ _) := (Below.refl w.heap.size w).alloc (Nat.le_refl _) (.cells #[.int .u8 0, .int .i64 0, .nilFunc, .nilFunc] 84)
  have HS : Hid (w.heap.size < (w.alloc (.cells #[.int .u8 0, .int .i64 0, .nilFunc, .nilFunc] 84)).heap.size) := by unfold Hid; simp
  go_enter Tryz.func29, Tryz.ntmps29
  go_wp2_with fail
  generalize w.alloc (.cells #[.int .u8 0, .int .i64 0, .nilFunc, .nilFunc] 84) = w1 at *
  refine (pathRow four _).mono ?_
  rintro e w2 ⟨rfl, hc0, hb⟩
  have HR2 : Hid (R4 _ _) := HR.out.below hb
  have HB2 : Hid (Below w.heap.size w w2) := HB.out.trans (hb.mono HB.out.size)
  obtain ⟨z0, z1, z2, z3, g0, g1, g2, g3⟩ := HR2.out
  have Hhc0 : Hid (_ = _) := hc0;
  clear hb hc0
  go_wp2
  have hg := HR2.out.got (.int .u8 64) (.int .i64 2) (.func (.func 86) #[] #[.pointer (some ⟨w1.heap.size, 0, none⟩)]) (.func (.func 88) #[] #[.pointer (some ⟨w1.heap.size, 0, none⟩)])
  unfold put4 at hg
  refine bodyPost_ret (v := .tuple #[.agg #[.int .u8 64, .int .i64 2, .func (.func 86) #[] #[.pointer (some ⟨w1.heap.size, 0, none⟩)], .func (.func 88) #[] #[.pointer (some ⟨w1.heap.size, 0, none⟩)]], .bool true]) (by simp [results, Tryz.results29, go_sem, hg.1, hg.2.1, hg.2.2.1, hg.2.2.2]) rfl ?_
  refine ⟨w1.heap.size, rfl, ?_, put4_below HB2.out (Nat.le_refl _) _ _ _ _⟩
  exact put4_cell Hhc0.out (by have := HS.out; omega) _ _ _ _
theorem row3 (four : Bool) (w : World) :
    Calls Tryz.prog 29 #[.int .u8 3, .bool four] w fun e w' => e = .returned (.tuple #[.agg #[.int .u8 64, .int .i64 2, .func (.func 52) #[] #[], .func (.func 53) #[] #[]], .bool true]) ∧ Below w.heap.size w w' := by
  go_enter Tryz.func29, Tryz.ntmps29
  go_wp2
  refine bodyPost_ret (v := .tuple #[.agg #[.int .u8 64, .int .i64 2, .func (.func 52) #[] #[], .func (.func 53) #[] #[]], .bool true]) (by simp [results, Tryz.results29, go_sem]) rfl ?_
  exact ⟨rfl, (Below.refl _ _).alloc (Nat.le_refl _) _⟩
theorem row4 (four : Bool) (w : World) :
    Calls Tryz.prog 29 #[.int .u8 4, .bool four] w fun e w' => ∃ q : Nat, e = .returned (.tuple #[.agg #[.int .u8 128, .int .i64 2, .func (.func 90) #[] #[.pointer (some ⟨q, 0, none⟩)], .func (.func 91) #[] #[.pointer (some ⟨q, 0, none⟩)]], .bool true]) ∧ (w'.cell? ⟨q, 0, none⟩ = some (.func (.func 55) #[] #[])) ∧ Below w.heap.size w w' := by
  have HR : Hid (R4 _ _) := R4.start w
  have HB : Hid (Below _ _ _) := (Below.refl w.heap.size w).alloc (Nat.le_refl _) (.cells #[.int .u8 0, .int .i64 0, .nilFunc, .nilFunc] 84)
  have HS : Hid (w.heap.size < (w.alloc (.cells #[.int .u8 0, .int .i64 0, .nilFunc, .nilFunc] 84)).heap.size) := by unfold Hid; simp
  go_enter Tryz.func29, Tryz.ntmps29
  go_wp2_with fail
  generalize w.alloc (.cells #[.int .u8 0, .int .i64 0, .nilFunc, .nilFunc] 84) = w1 at *
  refine (numberRow 128 55 _).mono ?_
  rintro e w2 ⟨rfl, hc0, hb⟩
  have HR2 : Hid (R4 _ _) := HR.out.below hb
  have HB2 : Hid (Below w.heap.size w w2) := HB.out.trans (hb.mono HB.out.size)
  obtain ⟨z0, z1, z2, z3, g0, g1, g2, g3⟩ := HR2.out
  have Hhc0 : Hid (_ = _) := hc0;
  clear hb hc0
  go_wp2
  have hg := HR2.out.got (.int .u8 128) (.int .i64 2) (.func (.func 90) #[] #[.pointer (some ⟨w1.heap.size, 0, none⟩)]) (.func (.func 91) #[] #[.pointer (some ⟨w1.heap.size, 0, none⟩)])
  unfold put4 at hg
  refine bodyPost_ret (v := .tuple #[.agg #[.int .u8 128, .int .i64 2, .func (.func 90) #[] #[.pointer (some ⟨w1.heap.size, 0, none⟩)], .func (.func 91) #[] #[.pointer (some ⟨w1.heap.size, 0, none⟩)]], .bool true]) (by simp [results, Tryz.results29, go_sem, hg.1, hg.2.1, hg.2.2.1, hg.2.2.2]) rfl ?_
  refine ⟨w1.heap.size, rfl, ?_, put4_below HB2.out (Nat.le_refl _) _ _ _ _⟩
  exact put4_cell Hhc0.out (by have := HS.out; omega) _ _ _ _
theorem row5 (four : Bool) (w : World) :
    Calls Tryz.prog 29 #[.int .u8 5, .bool four] w fun e w' => ∃ q : Nat, e = .returned (.tuple #[.agg #[.int .u8 64, .int .i64 2, .func (.func 90) #[] #[.pointer (some ⟨q, 0, none⟩)], .func (.func 91) #[] #[.pointer (some ⟨q, 0, none⟩)]], .bool true]) ∧ (w'.cell? ⟨q, 0, none⟩ = some (.func (.func 56) #[] #[])) ∧ Below w.heap.size w w' := by
  have HR : Hid (R4 _ _) := R4.start w
  have HB : Hid (Below _ _ _) := (Below.refl w.heap.size w).alloc (Nat.le_refl _) (.cells #[.int .u8 0, .int .i64 0, .nilFunc, .nilFunc] 84)
  have HS : Hid (w.heap.size < (w.alloc (.cells #[.int .u8 0, .int .i64 0, .nilFunc, .nilFunc] 84)).heap.size) := by unfold Hid; simp
  go_enter Tryz.func29, Tryz.ntmps29
  go_wp2_with fail
  generalize w.alloc (.cells #[.int .u8 0, .int .i64 0, .nilFunc, .nilFunc] 84) = w1 at *
  refine (numberRow 64 56 _).mono ?_
  rintro e w2 ⟨rfl, hc0, hb⟩
  have HR2 : Hid (R4 _ _) := HR.out.below hb
  have HB2 : Hid (Below w.heap.size w w2) := HB.out.trans (hb.mono HB.out.size)
  obtain ⟨z0, z1, z2, z3, g0, g1, g2, g3⟩ := HR2.out
  have Hhc0 : Hid (_ = _) := hc0;
  clear hb hc0
  go_wp2
  have hg := HR2.out.got (.int .u8 64) (.int .i64 2) (.func (.func 90) #[] #[.pointer (some ⟨w1.heap.size, 0, none⟩)]) (.func (.func 91) #[] #[.pointer (some ⟨w1.heap.size, 0, none⟩)])
  unfold put4 at hg
  refine bodyPost_ret (v := .tuple #[.agg #[.int .u8 64, .int .i64 2, .func (.func 90) #[] #[.pointer (some ⟨w1.heap.size, 0, none⟩)], .func (.func 91) #[] #[.pointer (some ⟨w1.heap.size, 0, none⟩)]], .bool true]) (by simp [results, Tryz.results29, go_sem, hg.1, hg.2.1, hg.2.2.1, hg.2.2.2]) rfl ?_
  refine ⟨w1.heap.size, rfl, ?_, put4_below HB2.out (Nat.le_refl _) _ _ _ _⟩
  exact put4_cell Hhc0.out (by have := HS.out; omega) _ _ _ _
theorem row6 (four : Bool) (w : World) :
    Calls Tryz.prog 29 #[.int .u8 6, .bool four] w fun e w' => e = .returned (.tuple #[.agg #[.int .u8 64, .int .i64 1, .func (.func 57) #[] #[], .func (.func 58) #[] #[]], .bool true]) ∧ Below w.heap.size w w' := by
  go_enter Tryz.func29, Tryz.ntmps29
  go_wp2
  refine bodyPost_ret (v := .tuple #[.agg #[.int .u8 64, .int .i64 1, .func (.func 57) #[] #[], .func (.func 58) #[] #[]], .bool true]) (by simp [results, Tryz.results29, go_sem]) rfl ?_
  exact ⟨rfl, (Below.refl _ _).alloc (Nat.le_refl _) _⟩
theorem row7_true (w : World) :
    Calls Tryz.prog 29 #[.int .u8 7, .bool true] w fun e w' => ∃ q : Nat, e = .returned (.tuple #[.agg #[.int .u8 192, .int .i64 1, .func (.func 92) #[] #[.pointer (some ⟨q, 0, none⟩), .pointer (some ⟨q + 1 + 1, 0, none⟩)], .func (.func 93) #[] #[.pointer (some ⟨q + 1 + 1, 0, none⟩)]], .bool true]) ∧ (w'.cell? ⟨q, 0, none⟩ = some (.bool true) ∧ w'.cell? ⟨q + 1 + 1, 0, none⟩ = some (.int .i64 4)) ∧ Below w.heap.size w w' := by
  have HR : Hid (R4 _ _) := R4.start w
  have HB : Hid (Below _ _ _) := (Below.refl w.heap.size w).alloc (Nat.le_refl _) (.cells #[.int .u8 0, .int .i64 0, .nilFunc, .nilFunc] 84)
  have HS : Hid (w.heap.size < (w.alloc (.cells #[.int .u8 0, .int .i64 0, .nilFunc, .nilFunc] 84)).heap.size) := by unfold Hid; simp
  go_enter Tryz.func29, Tryz.ntmps29
  go_wp2_with fail
  generalize w.alloc (.cells #[.int .u8 0, .int .i64 0, .nilFunc, .nilFunc] 84) = w1 at *
  refine (aggRow_true _).mono ?_
  rintro e w2 ⟨rfl, hc0, hc1, hb⟩
  have HR2 : Hid (R4 _ _) := HR.out.below hb
  have HB2 : Hid (Below w.heap.size w w2) := HB.out.trans (hb.mono HB.out.size)
  obtain ⟨z0, z1, z2, z3, g0, g1, g2, g3⟩ := HR2.out
  have Hhc0 : Hid (_ = _) := hc0; have Hhc1 : Hid (_ = _) := hc1;
  clear hb hc0 hc1
  go_wp2
  have hg := HR2.out.got (.int .u8 192) (.int .i64 1) (.func (.func 92) #[] #[.pointer (some ⟨w1.heap.size, 0, none⟩), .pointer (some ⟨w1.heap.size + 1 + 1, 0, none⟩)]) (.func (.func 93) #[] #[.pointer (some ⟨w1.heap.size + 1 + 1, 0, none⟩)])
  unfold put4 at hg
  refine bodyPost_ret (v := .tuple #[.agg #[.int .u8 192, .int .i64 1, .func (.func 92) #[] #[.pointer (some ⟨w1.heap.size, 0, none⟩), .pointer (some ⟨w1.heap.size + 1 + 1, 0, none⟩)], .func (.func 93) #[] #[.pointer (some ⟨w1.heap.size + 1 + 1, 0, none⟩)]], .bool true]) (by simp [results, Tryz.results29, go_sem, hg.1, hg.2.1, hg.2.2.1, hg.2.2.2]) rfl ?_
  refine ⟨w1.heap.size, rfl, ?_, put4_below HB2.out (Nat.le_refl _) _ _ _ _⟩
  exact ⟨put4_cell Hhc0.out (by have := HS.out; omega) _ _ _ _, put4_cell Hhc1.out (by have := HS.out; omega) _ _ _ _⟩
theorem row7_false (w : World) :
    Calls Tryz.prog 29 #[.int .u8 7, .bool false] w fun e w' => ∃ q : Nat, e = .returned (.tuple #[.agg #[.int .u8 192, .int .i64 1, .func (.func 92) #[] #[.pointer (some ⟨q, 0, none⟩), .pointer (some ⟨q + 1 + 1, 0, none⟩)], .func (.func 93) #[] #[.pointer (some ⟨q + 1 + 1, 0, none⟩)]], .bool true]) ∧ (w'.cell? ⟨q, 0, none⟩ = some (.bool false) ∧ w'.cell? ⟨q + 1 + 1, 0, none⟩ = some (.int .i64 2)) ∧ Below w.heap.size w w' := by
  have HR : Hid (R4 _ _) := R4.start w
  have HB : Hid (Below _ _ _) := (Below.refl w.heap.size w).alloc (Nat.le_refl _) (.cells #[.int .u8 0, .int .i64 0, .nilFunc, .nilFunc] 84)
  have HS : Hid (w.heap.size < (w.alloc (.cells #[.int .u8 0, .int .i64 0, .nilFunc, .nilFunc] 84)).heap.size) := by unfold Hid; simp
  go_enter Tryz.func29, Tryz.ntmps29
  go_wp2_with fail
  generalize w.alloc (.cells #[.int .u8 0, .int .i64 0, .nilFunc, .nilFunc] 84) = w1 at *
  refine (aggRow_false _).mono ?_
  rintro e w2 ⟨rfl, hc0, hc1, hb⟩
  have HR2 : Hid (R4 _ _) := HR.out.below hb
  have HB2 : Hid (Below w.heap.size w w2) := HB.out.trans (hb.mono HB.out.size)
  obtain ⟨z0, z1, z2, z3, g0, g1, g2, g3⟩ := HR2.out
  have Hhc0 : Hid (_ = _) := hc0; have Hhc1 : Hid (_ = _) := hc1;
  clear hb hc0 hc1
  go_wp2
  have hg := HR2.out.got (.int .u8 192) (.int .i64 1) (.func (.func 92) #[] #[.pointer (some ⟨w1.heap.size, 0, none⟩), .pointer (some ⟨w1.heap.size + 1 + 1, 0, none⟩)]) (.func (.func 93) #[] #[.pointer (some ⟨w1.heap.size + 1 + 1, 0, none⟩)])
  unfold put4 at hg
  refine bodyPost_ret (v := .tuple #[.agg #[.int .u8 192, .int .i64 1, .func (.func 92) #[] #[.pointer (some ⟨w1.heap.size, 0, none⟩), .pointer (some ⟨w1.heap.size + 1 + 1, 0, none⟩)], .func (.func 93) #[] #[.pointer (some ⟨w1.heap.size + 1 + 1, 0, none⟩)]], .bool true]) (by simp [results, Tryz.results29, go_sem, hg.1, hg.2.1, hg.2.2.1, hg.2.2.2]) rfl ?_
  refine ⟨w1.heap.size, rfl, ?_, put4_below HB2.out (Nat.le_refl _) _ _ _ _⟩
  exact ⟨put4_cell Hhc0.out (by have := HS.out; omega) _ _ _ _, put4_cell Hhc1.out (by have := HS.out; omega) _ _ _ _⟩
theorem row8 (four : Bool) (w : World) :
    Calls Tryz.prog 29 #[.int .u8 8, .bool four] w fun e w' => ∃ q : Nat, e = .returned (.tuple #[.agg #[.int .u8 192, .int .i64 2, .func (.func 94) #[] #[.pointer (some ⟨q + 1, 0, none⟩), .pointer (some ⟨q, 0, none⟩)], .func (.func 95) #[] #[.pointer (some ⟨q + 1 + 1, 0, none⟩), .pointer (some ⟨q, 0, none⟩)]], .bool true]) ∧ (w'.cell? ⟨q, 0, none⟩ = some (.func (.func 61) #[] #[]) ∧ w'.cell? ⟨q + 1, 0, none⟩ = some (.func (.func 62) #[] #[]) ∧ w'.cell? ⟨q + 1 + 1, 0, none⟩ = some (.func (.func 63) #[] #[])) ∧ Below w.heap.size w w' := by
  have HR : Hid (R4 _ _) := R4.start w
  have HB : Hid (Below _ _ _) := (Below.refl w.heap.size w).alloc (Nat.le_refl _) (.cells #[.int .u8 0, .int .i64 0, .nilFunc, .nilFunc] 84)
  have HS : Hid (w.heap.size < (w.alloc (.cells #[.int .u8 0, .int .i64 0, .nilFunc, .nilFunc] 84)).heap.size) := by unfold Hid; simp
  go_enter Tryz.func29, Tryz.ntmps29
  go_wp2_with fail
  generalize w.alloc (.cells #[.int .u8 0, .int .i64 0, .nilFunc, .nilFunc] 84) = w1 at *
  refine (listRow69 192 61 62 63 _).mono ?_
  rintro e w2 ⟨rfl, hc0, hc1, hc2, hb⟩
  have HR2 : Hid (R4 _ _) := HR.out.below hb
  have HB2 : Hid (Below w.heap.size w w2) := HB.out.trans (hb.mono HB.out.size)
  obtain ⟨z0, z1, z2, z3, g0, g1, g2, g3⟩ := HR2.out
  have Hhc0 : Hid (_ = _) := hc0; have Hhc1 : Hid (_ = _) := hc1; have Hhc2 : Hid (_ = _) := hc2;
  clear hb hc0 hc1 hc2
  go_wp2
  have hg := HR2.out.got (.int .u8 192) (.int .i64 2) (.func (.func 94) #[] #[.pointer (some ⟨w1.heap.size + 1, 0, none⟩), .pointer (some ⟨w1.heap.size, 0, none⟩)]) (.func (.func 95) #[] #[.pointer (some ⟨w1.heap.size + 1 + 1, 0, none⟩), .pointer (some ⟨w1.heap.size, 0, none⟩)])
  unfold put4 at hg
  refine bodyPost_ret (v := .tuple #[.agg #[.int .u8 192, .int .i64 2, .func (.func 94) #[] #[.pointer (some ⟨w1.heap.size + 1, 0, none⟩), .pointer (some ⟨w1.heap.size, 0, none⟩)], .func (.func 95) #[] #[.pointer (some ⟨w1.heap.size + 1 + 1, 0, none⟩), .pointer (some ⟨w1.heap.size, 0, none⟩)]], .bool true]) (by simp [results, Tryz.results29, go_sem, hg.1, hg.2.1, hg.2.2.1, hg.2.2.2]) rfl ?_
  refine ⟨w1.heap.size, rfl, ?_, put4_below HB2.out (Nat.le_refl _) _ _ _ _⟩
  exact ⟨put4_cell Hhc0.out (by have := HS.out; omega) _ _ _ _, put4_cell Hhc1.out (by have := HS.out; omega) _ _ _ _, put4_cell Hhc2.out (by have := HS.out; omega) _ _ _ _⟩
theorem row9 (four : Bool) (w : World) :
    Calls Tryz.prog 29 #[.int .u8 9, .bool four] w fun e w' => ∃ q : Nat, e = .returned (.tuple #[.agg #[.int .u8 128, .int .i64 2, .func (.func 90) #[] #[.pointer (some ⟨q, 0, none⟩)], .func (.func 91) #[] #[.pointer (some ⟨q, 0, none⟩)]], .bool true]) ∧ (w'.cell? ⟨q, 0, none⟩ = some (.func (.func 64) #[] #[])) ∧ Below w.heap.size w w' := by
  have HR : Hid (R4 _ _) := R4.start w
  have HB : Hid (Below _ _ _) := (Below.refl w.heap.size w).alloc (Nat.le_refl _) (.cells #[.int .u8 0, .int .i64 0, .nilFunc, .nilFunc] 84)
  have HS : Hid (w.heap.size < (w.alloc (.cells #[.int .u8 0, .int .i64 0, .nilFunc, .nilFunc] 84)).heap.size) := by unfold Hid; simp
  go_enter Tryz.func29, Tryz.ntmps29
  go_wp2_with fail
  generalize w.alloc (.cells #[.int .u8 0, .int .i64 0, .nilFunc, .nilFunc] 84) = w1 at *
  refine (numberRow 128 64 _).mono ?_
  rintro e w2 ⟨rfl, hc0, hb⟩
  have HR2 : Hid (R4 _ _) := HR.out.below hb
  have HB2 : Hid (Below w.heap.size w w2) := HB.out.trans (hb.mono HB.out.size)
  obtain ⟨z0, z1, z2, z3, g0, g1, g2, g3⟩ := HR2.out
  have Hhc0 : Hid (_ = _) := hc0;
  clear hb hc0
  go_wp2
  have hg := HR2.out.got (.int .u8 128) (.int .i64 2) (.func (.func 90) #[] #[.pointer (some ⟨w1.heap.size, 0, none⟩)]) (.func (.func 91) #[] #[.pointer (some ⟨w1.heap.size, 0, none⟩)])
  unfold put4 at hg
  refine bodyPost_ret (v := .tuple #[.agg #[.int .u8 128, .int .i64 2, .func (.func 90) #[] #[.pointer (some ⟨w1.heap.size, 0, none⟩)], .func (.func 91) #[] #[.pointer (some ⟨w1.heap.size, 0, none⟩)]], .bool true]) (by simp [results, Tryz.results29, go_sem, hg.1, hg.2.1, hg.2.2.1, hg.2.2.2]) rfl ?_
  refine ⟨w1.heap.size, rfl, ?_, put4_below HB2.out (Nat.le_refl _) _ _ _ _⟩
  exact put4_cell Hhc0.out (by have := HS.out; omega) _ _ _ _
theorem row10 (four : Bool) (w : World) :
    Calls Tryz.prog 29 #[.int .u8 10, .bool four] w fun e w' => ∃ q : Nat, e = .returned (.tuple #[.agg #[.int .u8 128, .int .i64 2, .func (.func 94) #[] #[.pointer (some ⟨q + 1, 0, none⟩), .pointer (some ⟨q, 0, none⟩)], .func (.func 95) #[] #[.pointer (some ⟨q + 1 + 1, 0, none⟩), .pointer (some ⟨q, 0, none⟩)]], .bool true]) ∧ (w'.cell? ⟨q, 0, none⟩ = some (.func (.func 65) #[] #[]) ∧ w'.cell? ⟨q + 1, 0, none⟩ = some (.func (.func 66) #[] #[]) ∧ w'.cell? ⟨q + 1 + 1, 0, none⟩ = some (.func (.func 67) #[] #[])) ∧ Below w.heap.size w w' := by
  have HR : Hid (R4 _ _) := R4.start w
  have HB : Hid (Below _ _ _) := (Below.refl w.heap.size w).alloc (Nat.le_refl _) (.cells #[.int .u8 0, .int .i64 0, .nilFunc, .nilFunc] 84)
  have HS : Hid (w.heap.size < (w.alloc (.cells #[.int .u8 0, .int .i64 0, .nilFunc, .nilFunc] 84)).heap.size) := by unfold Hid; simp
  go_enter Tryz.func29, Tryz.ntmps29
  go_wp2_with fail
  generalize w.alloc (.cells #[.int .u8 0, .int .i64 0, .nilFunc, .nilFunc] 84) = w1 at *
  refine (listRow69 128 65 66 67 _).mono ?_
  rintro e w2 ⟨rfl, hc0, hc1, hc2, hb⟩
  have HR2 : Hid (R4 _ _) := HR.out.below hb
  have HB2 : Hid (Below w.heap.size w w2) := HB.out.trans (hb.mono HB.out.size)
  obtain ⟨z0, z1, z2, z3, g0, g1, g2, g3⟩ := HR2.out
  have Hhc0 : Hid (_ = _) := hc0; have Hhc1 : Hid (_ = _) := hc1; have Hhc2 : Hid (_ = _) := hc2;
  clear hb hc0 hc1 hc2
  go_wp2
  have hg := HR2.out.got (.int .u8 128) (.int .i64 2) (.func (.func 94) #[] #[.pointer (some ⟨w1.heap.size + 1, 0, none⟩), .pointer (some ⟨w1.heap.size, 0, none⟩)]) (.func (.func 95) #[] #[.pointer (some ⟨w1.heap.size + 1 + 1, 0, none⟩), .pointer (some ⟨w1.heap.size, 0, none⟩)])
  unfold put4 at hg
  refine bodyPost_ret (v := .tuple #[.agg #[.int .u8 128, .int .i64 2, .func (.func 94) #[] #[.pointer (some ⟨w1.heap.size + 1, 0, none⟩), .pointer (some ⟨w1.heap.size, 0, none⟩)], .func (.func 95) #[] #[.pointer (some ⟨w1.heap.size + 1 + 1, 0, none⟩), .pointer (some ⟨w1.heap.size, 0, none⟩)]], .bool true]) (by simp [results, Tryz.results29, go_sem, hg.1, hg.2.1, hg.2.2.1, hg.2.2.2]) rfl ?_
  refine ⟨w1.heap.size, rfl, ?_, put4_below HB2.out (Nat.le_refl _) _ _ _ _⟩
  exact ⟨put4_cell Hhc0.out (by have := HS.out; omega) _ _ _ _, put4_cell Hhc1.out (by have := HS.out; omega) _ _ _ _, put4_cell Hhc2.out (by have := HS.out; omega) _ _ _ _⟩
theorem row16 (four : Bool) (w : World) :
    Calls Tryz.prog 29 #[.int .u8 16, .bool four] w fun e w' => ∃ q : Nat, e = .returned (.tuple #[.agg #[.int .u8 192, .int .i64 2, .func (.func 102) #[] #[.pointer (some ⟨q + 1, 0, none⟩), .pointer (some ⟨q, 0, none⟩)], .func (.func 103) #[] #[.pointer (some ⟨q + 1 + 1, 0, none⟩), .pointer (some ⟨q, 0, none⟩)]], .bool true]) ∧ (w'.cell? ⟨q, 0, none⟩ = some (.func (.func 69) #[] #[]) ∧ w'.cell? ⟨q + 1, 0, none⟩ = some (.func (.func 70) #[] #[]) ∧ w'.cell? ⟨q + 1 + 1, 0, none⟩ = some (.func (.func 71) #[] #[])) ∧ Below w.heap.size w w' := by
  have HR : Hid (R4 _ _) := R4.start w
  have HB : Hid (Below _ _ _) := (Below.refl w.heap.size w).alloc (Nat.le_refl _) (.cells #[.int .u8 0, .int .i64 0, .nilFunc, .nilFunc] 84)
  have HS : Hid (w.heap.size < (w.alloc (.cells #[.int .u8 0, .int .i64 0, .nilFunc, .nilFunc] 84)).heap.size) := by unfold Hid; simp
  go_enter Tryz.func29, Tryz.ntmps29
  go_wp2_with fail
  generalize w.alloc (.cells #[.int .u8 0, .int .i64 0, .nilFunc, .nilFunc] 84) = w1 at *
  refine (listRow77 192 69 70 71 _).mono ?_
  rintro e w2 ⟨rfl, hc0, hc1, hc2, hb⟩
  have HR2 : Hid (R4 _ _) := HR.out.below hb
  have HB2 : Hid (Below w.heap.size w w2) := HB.out.trans (hb.mono HB.out.size)
  obtain ⟨z0, z1, z2, z3, g0, g1, g2, g3⟩ := HR2.out
  have Hhc0 : Hid (_ = _) := hc0; have Hhc1 : Hid (_ = _) := hc1; have Hhc2 : Hid (_ = _) := hc2;
  clear hb hc0 hc1 hc2
  go_wp2
  have hg := HR2.out.got (.int .u8 192) (.int .i64 2) (.func (.func 102) #[] #[.pointer (some ⟨w1.heap.size + 1, 0, none⟩), .pointer (some ⟨w1.heap.size, 0, none⟩)]) (.func (.func 103) #[] #[.pointer (some ⟨w1.heap.size + 1 + 1, 0, none⟩), .pointer (some ⟨w1.heap.size, 0, none⟩)])
  unfold put4 at hg
  refine bodyPost_ret (v := .tuple #[.agg #[.int .u8 192, .int .i64 2, .func (.func 102) #[] #[.pointer (some ⟨w1.heap.size + 1, 0, none⟩), .pointer (some ⟨w1.heap.size, 0, none⟩)], .func (.func 103) #[] #[.pointer (some ⟨w1.heap.size + 1 + 1, 0, none⟩), .pointer (some ⟨w1.heap.size, 0, none⟩)]], .bool true]) (by simp [results, Tryz.results29, go_sem, hg.1, hg.2.1, hg.2.2.1, hg.2.2.2]) rfl ?_
  refine ⟨w1.heap.size, rfl, ?_, put4_below HB2.out (Nat.le_refl _) _ _ _ _⟩
  exact ⟨put4_cell Hhc0.out (by have := HS.out; omega) _ _ _ _, put4_cell Hhc1.out (by have := HS.out; omega) _ _ _ _, put4_cell Hhc2.out (by have := HS.out; omega) _ _ _ _⟩
theorem row32 (four : Bool) (w : World) :
    Calls Tryz.prog 29 #[.int .u8 32, .bool four] w fun e w' => ∃ q : Nat, e = .returned (.tuple #[.agg #[.int .u8 192, .int .i64 2, .func (.func 108) #[] #[.pointer (some ⟨q + 1, 0, none⟩), .pointer (some ⟨q, 0, none⟩)], .func (.func 109) #[] #[.pointer (some ⟨q + 1 + 1, 0, none⟩), .pointer (some ⟨q, 0, none⟩)]], .bool true]) ∧ (w'.cell? ⟨q, 0, none⟩ = some (.func (.func 73) #[] #[]) ∧ w'.cell? ⟨q + 1, 0, none⟩ = some (.func (.func 74) #[] #[]) ∧ w'.cell? ⟨q + 1 + 1, 0, none⟩ = some (.func (.func 75) #[] #[])) ∧ Below w.heap.size w w' := by
  have HR : Hid (R4 _ _) := R4.start w
  have HB : Hid (Below _ _ _) := (Below.refl w.heap.size w).alloc (Nat.le_refl _) (.cells #[.int .u8 0, .int .i64 0, .nilFunc, .nilFunc] 84)
  have HS : Hid (w.heap.size < (w.alloc (.cells #[.int .u8 0, .int .i64 0, .nilFunc, .nilFunc] 84)).heap.size) := by unfold Hid; simp
  go_enter Tryz.func29, Tryz.ntmps29
  go_wp2_with fail
  generalize w.alloc (.cells #[.int .u8 0, .int .i64 0, .nilFunc, .nilFunc] 84) = w1 at *
  refine (listRow81 192 73 74 75 _).mono ?_
  rintro e w2 ⟨rfl, hc0, hc1, hc2, hb⟩
  have HR2 : Hid (R4 _ _) := HR.out.below hb
  have HB2 : Hid (Below w.heap.size w w2) := HB.out.trans (hb.mono HB.out.size)
  obtain ⟨z0, z1, z2, z3, g0, g1, g2, g3⟩ := HR2.out
  have Hhc0 : Hid (_ = _) := hc0; have Hhc1 : Hid (_ = _) := hc1; have Hhc2 : Hid (_ = _) := hc2;
  clear hb hc0 hc1 hc2
  go_wp2
  have hg := HR2.out.got (.int .u8 192) (.int .i64 2) (.func (.func 108) #[] #[.pointer (some ⟨w1.heap.size + 1, 0, none⟩), .pointer (some ⟨w1.heap.size, 0, none⟩)]) (.func (.func 109) #[] #[.pointer (some ⟨w1.heap.size + 1 + 1, 0, none⟩), .pointer (some ⟨w1.heap.size, 0, none⟩)])
  unfold put4 at hg
  refine bodyPost_ret (v := .tuple #[.agg #[.int .u8 192, .int .i64 2, .func (.func 108) #[] #[.pointer (some ⟨w1.heap.size + 1, 0, none⟩), .pointer (some ⟨w1.heap.size, 0, none⟩)], .func (.func 109) #[] #[.pointer (some ⟨w1.heap.size + 1 + 1, 0, none⟩), .pointer (some ⟨w1.heap.size, 0, none⟩)]], .bool true]) (by simp [results, Tryz.results29, go_sem, hg.1, hg.2.1, hg.2.2.1, hg.2.2.2]) rfl ?_
  refine ⟨w1.heap.size, rfl, ?_, put4_below HB2.out (Nat.le_refl _) _ _ _ _⟩
  exact ⟨put4_cell Hhc0.out (by have := HS.out; omega) _ _ _ _, put4_cell Hhc1.out (by have := HS.out; omega) _ _ _ _, put4_cell Hhc2.out (by have := HS.out; omega) _ _ _ _⟩
end Go.Proofs.YtpahnebhcfpplabGreatDoor
