/-
  Actions read, whatever the words are.
-/
import Derived.Test.YthaebbmekonacaaGreatDoorRX
set_option linter.unusedVariables false
set_option linter.unusedSimpArgs false
set_option maxRecDepth 100000
namespace Go.Proofs.YthaebbmekonacaaGreatDoor
open Go.RowKit
set_option maxHeartbeats 2000000 in
theorem ra4x (x : List UInt8) (t r : List (List UInt8)) (hx : t.headD [32] = x) (htr : t.tail = r) (pl ps : Nat) (W0 w : World) (hk : nmO x = none) (hxl : x.length ≤ 281474976710656) (hEr : ErrsAt W0) (h0 : Std0 W0 w pl ps) (hr : Rd w pl ps ([109, 101, 100] :: t)) : Calls Tryz.prog 91 #[clo pl ps] w fun e w' => Pan w w' pl ps e := by
  have hl := hr.lt
  obtain ⟨W1, hW1⟩ : ∃ W1, w.alloc (.cells #[.int .i64 0, .string ⟨#[]⟩, .int .u32 0, .string ⟨#[]⟩] 40) = W1 := ⟨_, rfl⟩
  have bb1 : Below w.heap.size w W1 := by rw [← hW1]; exact (Below.refl _ _).alloc (Nat.le_refl _) _
  have hlt : w.heap.size < W1.heap.size := by rw [← hW1]; simp
  have b1 : Bs2 pl ps w W1 := Bs2.of_below bb1
  have r1 : Rd W1 pl ps ([109, 101, 100] :: t) := hr.below bb1
  have d1 : C4 W1 w.heap.size (.int .i64 0) (.string ⟨#[]⟩) (.int .u32 0) (.string ⟨#[]⟩) := by rw [← hW1]; exact C4.new w 40 _ _ _ _
  have HNl : Hid (w.heap.size ≠ pl ∧ w.heap.size ≠ ps) := ⟨by omega, by omega⟩
  have HS : Hid (Std0 W0 w pl ps) := h0
  have HB1 : Hid (Bs2 pl ps w W1) := b1
  have HR1 : Hid (Rd W1 pl ps ([109, 101, 100] :: t)) := r1
  have HD1 : Hid (C4 W1 w.heap.size _ _ _ _) := d1
  have HLt : Hid (w.heap.size < W1.heap.size) := hlt
  have HX : Hid (t.headD [32] = x) := hx
  have HT0 : Hid (t.tail = r) := htr
  have HK : Hid (nmO x = none) := hk
  have HXl : Hid (x.length ≤ 281474976710656) := hxl
  have HEr : Hid (ErrsAt W0) := hEr
  clear h0 hr hl bb1 b1 r1 d1 hlt hx htr hk hxl hEr
  unfold clo
  go_enter Tryz.func91, Tryz.ntmps91
  go_wp2_with fail
  have HRl : Hid (pl < W1.heap.size ∧ ps < W1.heap.size) := HR1.out.lt
  refine Calls.mono (aw_any W1) ?_
  rintro e W2 ⟨rfl, ht2⟩
  have hb2 := ht2.2
  have HT : Hid (∀ q, q < awL.length → W2.cell? ⟨W1.heap.size, q, none⟩ = some (.string ⟨(awL.getD q []).toArray⟩)) := ht2.1
  clear ht2
  have HR2 : Hid (_ : Prop) := HR1.out.below hb2
  have HB2 : Hid (Bs2 pl ps w W2) := HB1.out.trans (Bs2.of_below hb2)
  have HD2 : Hid (_ : Prop) := HD1.out.below hb2
  clear hb2 HR1 HB1 HD1
  have HTl : Hid (W1.heap.size ≠ pl ∧ W1.heap.size ≠ ps) := ⟨by have := HRl.out; omega, by have := HRl.out; omega⟩
  go_wp2_with fail
  refine Calls.mono (next_yes pl ps [109, 101, 100] _ W2 HR2.out (HS.out.bs2 HB2.out).max) ?_
  rintro e W3 ⟨rfl, hr3, hb3⟩
  have HR3 : Hid (_ : Prop) := hr3
  have HB3 : Hid (Bs2 pl ps w W3) := HB2.out.trans hb3
  have HD3 : Hid (_ : Prop) := HD2.out.bs2 hb3 HNl.out.1 HNl.out.2
  have HT2 : Hid (∀ q, q < awL.length → W3.cell? ⟨W1.heap.size, q, none⟩ = some (.string ⟨(awL.getD q []).toArray⟩)) := fun q hq => hb3.cell (HT.out q hq) HTl.out.1 HTl.out.2
  clear hr3 hb3 HR2 HB2 HD2
  go_wp2_with fail
  refine Calls.mono (place_yes W1.heap.size 11 awL [109, 101, 100] 4 W3 rfl (by decide) (by decide) (by decide) HT2.out) ?_
  rintro e Wq ⟨rfl, hq⟩
  subst Wq
  clear HT HT2 HRl HTl
  go_wp2_with fail
  have HL3 : Hid (pl < W3.heap.size ∧ ps < W3.heap.size) := HR3.out.lt
  have HSz : Hid (w.heap.size < W3.heap.size) := lt_of_cell HD3.out.c0
  have HCb : Hid (w.heap.size ≤ W3.heap.size ∧ W3.heap.size ≠ w.heap.size) := by have := HSz.out; exact ⟨by omega, by omega⟩
  have HNc : Hid (W3.heap.size ≠ pl ∧ W3.heap.size ≠ ps) := by have := HL3.out; exact ⟨by omega, by omega⟩
  have hbA : Below W3.heap.size W3 (W3.alloc (.cells #[.int .i64 4, .string ⟨#[]⟩, .int .u32 0, .string ⟨#[]⟩] 40)) := (Below.refl _ _).alloc (Nat.le_refl _) _
  have HR4 : Hid (Rd (W3.alloc (.cells #[.int .i64 4, .string ⟨#[]⟩, .int .u32 0, .string ⟨#[]⟩] 40)) pl ps (t)) := HR3.out.below hbA
  have HB4 : Hid (Bs2 pl ps w (W3.alloc (.cells #[.int .i64 4, .string ⟨#[]⟩, .int .u32 0, .string ⟨#[]⟩] 40))) := HB3.out.trans (Bs2.of_below hbA)
  have HD4 : Hid (C4 (W3.alloc (.cells #[.int .i64 4, .string ⟨#[]⟩, .int .u32 0, .string ⟨#[]⟩] 40)) w.heap.size (.int .i64 0) (.string ⟨#[]⟩) (.int .u32 0) (.string ⟨#[]⟩)) := HD3.out.below hbA
  have HC4 : Hid (C4 (W3.alloc (.cells #[.int .i64 4, .string ⟨#[]⟩, .int .u32 0, .string ⟨#[]⟩] 40)) W3.heap.size (.int .i64 4) (.string ⟨#[]⟩) (.int .u32 0) (.string ⟨#[]⟩)) := C4.new _ 40 _ _ _ _
  clear hbA HL3 HSz HR3 HB3 HD3
  generalize W3.alloc (.cells #[.int .i64 4, .string ⟨#[]⟩, .int .u32 0, .string ⟨#[]⟩] 40) = W4 at *
  generalize W3.heap.size = cb at *
  refine Calls.mono (next_gen pl ps x r t HX.out HT0.out W4 HR4.out (HS.out.bs2 HB4.out).max) ?_
  rintro e W5 ⟨rfl, hr5, hb5⟩
  have HR5 : Hid (_ : Prop) := hr5
  have HB5 : Hid (Bs2 pl ps w W5) := HB4.out.trans hb5
  have HD5 : Hid (_ : Prop) := HD4.out.bs2 hb5 HNl.out.1 HNl.out.2
  have HC5 : Hid (_ : Prop) := HC4.out.bs2 hb5 HNc.out.1 HNc.out.2
  clear hr5 hb5 HR4 HB4 HD4 HC4
  go_wp2_with fail
  refine Calls.mono (number_none x HK.out HXl.out W5 (HEr.out.below ((HS.out.bs2 HB5.out).b)) (HS.out.bs2 HB5.out).env.e.p) ?_
  rintro e W6 ⟨rfl, hb6⟩
  have HB6 : Hid (Bs2 pl ps w W6) := HB5.out.trans (Bs2.of_below hb6)
  clear hb6
  have HZ : Hid (Pan w W6 pl ps (.panicked PAN)) := ⟨rfl, HB6.out⟩
  go_wp2_with fail
  exact ⟨rfl, HZ.out⟩
set_option maxHeartbeats 2000000 in
theorem ra8 (x : List UInt8) (t r : List (List UInt8)) (hx : t.headD [32] = x) (htr : t.tail = r) (pl ps : Nat) (W0 w : World) (n : Nat) (hn : n < 4294967296) (hk : nmO x = some n) (hxl : x.length ≤ 281474976710656) (hEr : ErrsAt W0) (h0 : Std0 W0 w pl ps) (hr : Rd w pl ps ([112, 114, 101, 112, 101, 110, 100] :: t)) : Calls Tryz.prog 91 #[clo pl ps] w fun e w' => e = .returned (acV ⟨8, ⟨#[]⟩, n, ⟨#[]⟩⟩) ∧ Left w w' pl ps r := by
  have hl := hr.lt
  obtain ⟨W1, hW1⟩ : ∃ W1, w.alloc (.cells #[.int .i64 0, .string ⟨#[]⟩, .int .u32 0, .string ⟨#[]⟩] 40) = W1 := ⟨_, rfl⟩
  have bb1 : Below w.heap.size w W1 := by rw [← hW1]; exact (Below.refl _ _).alloc (Nat.le_refl _) _
  have hlt : w.heap.size < W1.heap.size := by rw [← hW1]; simp
  have b1 : Bs2 pl ps w W1 := Bs2.of_below bb1
  have r1 : Rd W1 pl ps ([112, 114, 101, 112, 101, 110, 100] :: t) := hr.below bb1
  have d1 : C4 W1 w.heap.size (.int .i64 0) (.string ⟨#[]⟩) (.int .u32 0) (.string ⟨#[]⟩) := by rw [← hW1]; exact C4.new w 40 _ _ _ _
  have HNl : Hid (w.heap.size ≠ pl ∧ w.heap.size ≠ ps) := ⟨by omega, by omega⟩
  have HS : Hid (Std0 W0 w pl ps) := h0
  have HB1 : Hid (Bs2 pl ps w W1) := b1
  have HR1 : Hid (Rd W1 pl ps ([112, 114, 101, 112, 101, 110, 100] :: t)) := r1
  have HD1 : Hid (C4 W1 w.heap.size _ _ _ _) := d1
  have HLt : Hid (w.heap.size < W1.heap.size) := hlt
  have HX : Hid (t.headD [32] = x) := hx
  have HT0 : Hid (t.tail = r) := htr
  have HK : Hid (nmO x = some n) := hk
  have HXl : Hid (x.length ≤ 281474976710656) := hxl
  have HEr : Hid (ErrsAt W0) := hEr
  clear h0 hr hl bb1 b1 r1 d1 hlt hx htr hk hxl hEr
  unfold clo
  go_enter Tryz.func91, Tryz.ntmps91
  go_wp2_with fail
  have HRl : Hid (pl < W1.heap.size ∧ ps < W1.heap.size) := HR1.out.lt
  refine Calls.mono (aw_any W1) ?_
  rintro e W2 ⟨rfl, ht2⟩
  have hb2 := ht2.2
  have HT : Hid (∀ q, q < awL.length → W2.cell? ⟨W1.heap.size, q, none⟩ = some (.string ⟨(awL.getD q []).toArray⟩)) := ht2.1
  clear ht2
  have HR2 : Hid (_ : Prop) := HR1.out.below hb2
  have HB2 : Hid (Bs2 pl ps w W2) := HB1.out.trans (Bs2.of_below hb2)
  have HD2 : Hid (_ : Prop) := HD1.out.below hb2
  clear hb2 HR1 HB1 HD1
  have HTl : Hid (W1.heap.size ≠ pl ∧ W1.heap.size ≠ ps) := ⟨by have := HRl.out; omega, by have := HRl.out; omega⟩
  go_wp2_with fail
  refine Calls.mono (next_yes pl ps [112, 114, 101, 112, 101, 110, 100] _ W2 HR2.out (HS.out.bs2 HB2.out).max) ?_
  rintro e W3 ⟨rfl, hr3, hb3⟩
  have HR3 : Hid (_ : Prop) := hr3
  have HB3 : Hid (Bs2 pl ps w W3) := HB2.out.trans hb3
  have HD3 : Hid (_ : Prop) := HD2.out.bs2 hb3 HNl.out.1 HNl.out.2
  have HT2 : Hid (∀ q, q < awL.length → W3.cell? ⟨W1.heap.size, q, none⟩ = some (.string ⟨(awL.getD q []).toArray⟩)) := fun q hq => hb3.cell (HT.out q hq) HTl.out.1 HTl.out.2
  clear hr3 hb3 HR2 HB2 HD2
  go_wp2_with fail
  refine Calls.mono (place_yes W1.heap.size 11 awL [112, 114, 101, 112, 101, 110, 100] 8 W3 rfl (by decide) (by decide) (by decide) HT2.out) ?_
  rintro e Wq ⟨rfl, hq⟩
  subst Wq
  clear HT HT2 HRl HTl
  go_wp2_with fail
  have HL3 : Hid (pl < W3.heap.size ∧ ps < W3.heap.size) := HR3.out.lt
  have HSz : Hid (w.heap.size < W3.heap.size) := lt_of_cell HD3.out.c0
  have HCb : Hid (w.heap.size ≤ W3.heap.size ∧ W3.heap.size ≠ w.heap.size) := by have := HSz.out; exact ⟨by omega, by omega⟩
  have HNc : Hid (W3.heap.size ≠ pl ∧ W3.heap.size ≠ ps) := by have := HL3.out; exact ⟨by omega, by omega⟩
  have hbA : Below W3.heap.size W3 (W3.alloc (.cells #[.int .i64 8, .string ⟨#[]⟩, .int .u32 0, .string ⟨#[]⟩] 40)) := (Below.refl _ _).alloc (Nat.le_refl _) _
  have HR4 : Hid (Rd (W3.alloc (.cells #[.int .i64 8, .string ⟨#[]⟩, .int .u32 0, .string ⟨#[]⟩] 40)) pl ps (t)) := HR3.out.below hbA
  have HB4 : Hid (Bs2 pl ps w (W3.alloc (.cells #[.int .i64 8, .string ⟨#[]⟩, .int .u32 0, .string ⟨#[]⟩] 40))) := HB3.out.trans (Bs2.of_below hbA)
  have HD4 : Hid (C4 (W3.alloc (.cells #[.int .i64 8, .string ⟨#[]⟩, .int .u32 0, .string ⟨#[]⟩] 40)) w.heap.size (.int .i64 0) (.string ⟨#[]⟩) (.int .u32 0) (.string ⟨#[]⟩)) := HD3.out.below hbA
  have HC4 : Hid (C4 (W3.alloc (.cells #[.int .i64 8, .string ⟨#[]⟩, .int .u32 0, .string ⟨#[]⟩] 40)) W3.heap.size (.int .i64 8) (.string ⟨#[]⟩) (.int .u32 0) (.string ⟨#[]⟩)) := C4.new _ 40 _ _ _ _
  clear hbA HL3 HSz HR3 HB3 HD3
  generalize W3.alloc (.cells #[.int .i64 8, .string ⟨#[]⟩, .int .u32 0, .string ⟨#[]⟩] 40) = W4 at *
  generalize W3.heap.size = cb at *
  refine Calls.mono (next_gen pl ps x r t HX.out HT0.out W4 HR4.out (HS.out.bs2 HB4.out).max) ?_
  rintro e W5 ⟨rfl, hr5, hb5⟩
  have HR5 : Hid (_ : Prop) := hr5
  have HB5 : Hid (Bs2 pl ps w W5) := HB4.out.trans hb5
  have HD5 : Hid (_ : Prop) := HD4.out.bs2 hb5 HNl.out.1 HNl.out.2
  have HC5 : Hid (_ : Prop) := HC4.out.bs2 hb5 HNc.out.1 HNc.out.2
  clear hr5 hb5 HR4 HB4 HD4 HC4
  go_wp2_with fail
  refine Calls.mono (number_some x n HK.out HXl.out W5 (HEr.out.below ((HS.out.bs2 HB5.out).b)) (HS.out.bs2 HB5.out).env.e.p) ?_
  rintro e W6 ⟨rfl, hb6⟩
  have HR6 : Hid (_ : Prop) := HR5.out.below hb6
  have HB6 : Hid (Bs2 pl ps w W6) := HB5.out.trans (Bs2.of_below hb6)
  have HD6 : Hid (_ : Prop) := HD5.out.below hb6
  have HC6 : Hid (_ : Prop) := HC5.out.below hb6
  clear hb6 HR5 HB5 HD5 HC5
  obtain ⟨W7, hW7⟩ : ∃ W, W6.setCell ⟨cb, 2, none⟩ (.int .u32 (n : Int)) = W := ⟨_, rfl⟩
  have HR7 : Hid (Rd W7 pl ps (r)) := by unfold Hid; rw [← hW7]; exact HR6.out.set HNc.out.1 HNc.out.2
  have HB7 : Hid (Bs2 pl ps w W7) := by unfold Hid; rw [← hW7]; exact HB6.out.set HCb.out.1
  have HD7 : Hid (C4 W7 w.heap.size (.int .i64 0) (.string ⟨#[]⟩) (.int .u32 0) (.string ⟨#[]⟩)) := by unfold Hid; rw [← hW7]; exact HD6.out.other HCb.out.2
  have HC7 : Hid (C4 W7 cb (.int .i64 8) (.string ⟨#[]⟩) (.int .u32 (n : Int)) (.string ⟨#[]⟩)) := by unfold Hid; rw [← hW7]; exact HC6.out.set2
  have z0 := HC6.out.c2
  have z1 := HC6.out.f 2
  clear HR6 HB6 HD6 HC6
  have y0 := HC7.out.c0
  have y1 := HC7.out.c1
  have y2 := HC7.out.c2
  have y3 := HC7.out.c3
  have x0 := HD7.out.c0
  have x1 := HD7.out.c1
  have x2 := HD7.out.c2
  have x3 := HD7.out.c3
  have f0 := HD7.out.f 0
  have f1 := HD7.out.f 1
  have f2 := HD7.out.f 2
  have f3 := HD7.out.f 3
  have HF : Hid (C4 ((((W7.setCell ⟨w.heap.size, 0, none⟩ (.int .i64 8)).setCell ⟨w.heap.size, 1, none⟩ (.string ⟨#[]⟩)).setCell ⟨w.heap.size, 2, none⟩ (.int .u32 (n : Int))).setCell ⟨w.heap.size, 3, none⟩ (.string ⟨#[]⟩)) w.heap.size (.int .i64 8) (.string ⟨#[]⟩) (.int .u32 (n : Int)) (.string ⟨#[]⟩)) := HD7.out.set0.set1.set2.set3
  have HLf : Hid (Left w ((((W7.setCell ⟨w.heap.size, 0, none⟩ (.int .i64 8)).setCell ⟨w.heap.size, 1, none⟩ (.string ⟨#[]⟩)).setCell ⟨w.heap.size, 2, none⟩ (.int .u32 (n : Int))).setCell ⟨w.heap.size, 3, none⟩ (.string ⟨#[]⟩)) pl ps r) := ⟨(((HR7.out.set HNl.out.1 HNl.out.2).set HNl.out.1 HNl.out.2).set HNl.out.1 HNl.out.2).set HNl.out.1 HNl.out.2, (((HB7.out.set (Nat.le_refl _)).set (Nat.le_refl _)).set (Nat.le_refl _)).set (Nat.le_refl _)⟩
  go_wp2_with fail
  generalize ((((W7.setCell ⟨w.heap.size, 0, none⟩ (.int .i64 8)).setCell ⟨w.heap.size, 1, none⟩ (.string ⟨#[]⟩)).setCell ⟨w.heap.size, 2, none⟩ (.int .u32 (n : Int))).setCell ⟨w.heap.size, 3, none⟩ (.string ⟨#[]⟩)) = WF at *
  have e0 := HF.out.c0
  have e1 := HF.out.c1
  have e2 := HF.out.c2
  have e3 := HF.out.c3
  refine bodyPost_ret (v := .agg #[.int .i64 8, .string ⟨#[]⟩, .int .u32 (n : Int), .string ⟨#[]⟩]) (by simp [results, Tryz.results91, go_sem, e0, e1, e2, e3]) rfl ?_
  exact ⟨rfl, HLf.out⟩
set_option maxHeartbeats 2000000 in
theorem ra8x (x : List UInt8) (t r : List (List UInt8)) (hx : t.headD [32] = x) (htr : t.tail = r) (pl ps : Nat) (W0 w : World) (hk : nmO x = none) (hxl : x.length ≤ 281474976710656) (hEr : ErrsAt W0) (h0 : Std0 W0 w pl ps) (hr : Rd w pl ps ([112, 114, 101, 112, 101, 110, 100] :: t)) : Calls Tryz.prog 91 #[clo pl ps] w fun e w' => Pan w w' pl ps e := by
  have hl := hr.lt
  obtain ⟨W1, hW1⟩ : ∃ W1, w.alloc (.cells #[.int .i64 0, .string ⟨#[]⟩, .int .u32 0, .string ⟨#[]⟩] 40) = W1 := ⟨_, rfl⟩
  have bb1 : Below w.heap.size w W1 := by rw [← hW1]; exact (Below.refl _ _).alloc (Nat.le_refl _) _
  have hlt : w.heap.size < W1.heap.size := by rw [← hW1]; simp
  have b1 : Bs2 pl ps w W1 := Bs2.of_below bb1
  have r1 : Rd W1 pl ps ([112, 114, 101, 112, 101, 110, 100] :: t) := hr.below bb1
  have d1 : C4 W1 w.heap.size (.int .i64 0) (.string ⟨#[]⟩) (.int .u32 0) (.string ⟨#[]⟩) := by rw [← hW1]; exact C4.new w 40 _ _ _ _
  have HNl : Hid (w.heap.size ≠ pl ∧ w.heap.size ≠ ps) := ⟨by omega, by omega⟩
  have HS : Hid (Std0 W0 w pl ps) := h0
  have HB1 : Hid (Bs2 pl ps w W1) := b1
  have HR1 : Hid (Rd W1 pl ps ([112, 114, 101, 112, 101, 110, 100] :: t)) := r1
  have HD1 : Hid (C4 W1 w.heap.size _ _ _ _) := d1
  have HLt : Hid (w.heap.size < W1.heap.size) := hlt
  have HX : Hid (t.headD [32] = x) := hx
  have HT0 : Hid (t.tail = r) := htr
  have HK : Hid (nmO x = none) := hk
  have HXl : Hid (x.length ≤ 281474976710656) := hxl
  have HEr : Hid (ErrsAt W0) := hEr
  clear h0 hr hl bb1 b1 r1 d1 hlt hx htr hk hxl hEr
  unfold clo
  go_enter Tryz.func91, Tryz.ntmps91
  go_wp2_with fail
  have HRl : Hid (pl < W1.heap.size ∧ ps < W1.heap.size) := HR1.out.lt
  refine Calls.mono (aw_any W1) ?_
  rintro e W2 ⟨rfl, ht2⟩
  have hb2 := ht2.2
  have HT : Hid (∀ q, q < awL.length → W2.cell? ⟨W1.heap.size, q, none⟩ = some (.string ⟨(awL.getD q []).toArray⟩)) := ht2.1
  clear ht2
  have HR2 : Hid (_ : Prop) := HR1.out.below hb2
  have HB2 : Hid (Bs2 pl ps w W2) := HB1.out.trans (Bs2.of_below hb2)
  have HD2 : Hid (_ : Prop) := HD1.out.below hb2
  clear hb2 HR1 HB1 HD1
  have HTl : Hid (W1.heap.size ≠ pl ∧ W1.heap.size ≠ ps) := ⟨by have := HRl.out; omega, by have := HRl.out; omega⟩
  go_wp2_with fail
  refine Calls.mono (next_yes pl ps [112, 114, 101, 112, 101, 110, 100] _ W2 HR2.out (HS.out.bs2 HB2.out).max) ?_
  rintro e W3 ⟨rfl, hr3, hb3⟩
  have HR3 : Hid (_ : Prop) := hr3
  have HB3 : Hid (Bs2 pl ps w W3) := HB2.out.trans hb3
  have HD3 : Hid (_ : Prop) := HD2.out.bs2 hb3 HNl.out.1 HNl.out.2
  have HT2 : Hid (∀ q, q < awL.length → W3.cell? ⟨W1.heap.size, q, none⟩ = some (.string ⟨(awL.getD q []).toArray⟩)) := fun q hq => hb3.cell (HT.out q hq) HTl.out.1 HTl.out.2
  clear hr3 hb3 HR2 HB2 HD2
  go_wp2_with fail
  refine Calls.mono (place_yes W1.heap.size 11 awL [112, 114, 101, 112, 101, 110, 100] 8 W3 rfl (by decide) (by decide) (by decide) HT2.out) ?_
  rintro e Wq ⟨rfl, hq⟩
  subst Wq
  clear HT HT2 HRl HTl
  go_wp2_with fail
  have HL3 : Hid (pl < W3.heap.size ∧ ps < W3.heap.size) := HR3.out.lt
  have HSz : Hid (w.heap.size < W3.heap.size) := lt_of_cell HD3.out.c0
  have HCb : Hid (w.heap.size ≤ W3.heap.size ∧ W3.heap.size ≠ w.heap.size) := by have := HSz.out; exact ⟨by omega, by omega⟩
  have HNc : Hid (W3.heap.size ≠ pl ∧ W3.heap.size ≠ ps) := by have := HL3.out; exact ⟨by omega, by omega⟩
  have hbA : Below W3.heap.size W3 (W3.alloc (.cells #[.int .i64 8, .string ⟨#[]⟩, .int .u32 0, .string ⟨#[]⟩] 40)) := (Below.refl _ _).alloc (Nat.le_refl _) _
  have HR4 : Hid (Rd (W3.alloc (.cells #[.int .i64 8, .string ⟨#[]⟩, .int .u32 0, .string ⟨#[]⟩] 40)) pl ps (t)) := HR3.out.below hbA
  have HB4 : Hid (Bs2 pl ps w (W3.alloc (.cells #[.int .i64 8, .string ⟨#[]⟩, .int .u32 0, .string ⟨#[]⟩] 40))) := HB3.out.trans (Bs2.of_below hbA)
  have HD4 : Hid (C4 (W3.alloc (.cells #[.int .i64 8, .string ⟨#[]⟩, .int .u32 0, .string ⟨#[]⟩] 40)) w.heap.size (.int .i64 0) (.string ⟨#[]⟩) (.int .u32 0) (.string ⟨#[]⟩)) := HD3.out.below hbA
  have HC4 : Hid (C4 (W3.alloc (.cells #[.int .i64 8, .string ⟨#[]⟩, .int .u32 0, .string ⟨#[]⟩] 40)) W3.heap.size (.int .i64 8) (.string ⟨#[]⟩) (.int .u32 0) (.string ⟨#[]⟩)) := C4.new _ 40 _ _ _ _
  clear hbA HL3 HSz HR3 HB3 HD3
  generalize W3.alloc (.cells #[.int .i64 8, .string ⟨#[]⟩, .int .u32 0, .string ⟨#[]⟩] 40) = W4 at *
  generalize W3.heap.size = cb at *
  refine Calls.mono (next_gen pl ps x r t HX.out HT0.out W4 HR4.out (HS.out.bs2 HB4.out).max) ?_
  rintro e W5 ⟨rfl, hr5, hb5⟩
  have HR5 : Hid (_ : Prop) := hr5
  have HB5 : Hid (Bs2 pl ps w W5) := HB4.out.trans hb5
  have HD5 : Hid (_ : Prop) := HD4.out.bs2 hb5 HNl.out.1 HNl.out.2
  have HC5 : Hid (_ : Prop) := HC4.out.bs2 hb5 HNc.out.1 HNc.out.2
  clear hr5 hb5 HR4 HB4 HD4 HC4
  go_wp2_with fail
  refine Calls.mono (number_none x HK.out HXl.out W5 (HEr.out.below ((HS.out.bs2 HB5.out).b)) (HS.out.bs2 HB5.out).env.e.p) ?_
  rintro e W6 ⟨rfl, hb6⟩
  have HB6 : Hid (Bs2 pl ps w W6) := HB5.out.trans (Bs2.of_below hb6)
  clear hb6
  have HZ : Hid (Pan w W6 pl ps (.panicked PAN)) := ⟨rfl, HB6.out⟩
  go_wp2_with fail
  exact ⟨rfl, HZ.out⟩
end Go.Proofs.YthaebbmekonacaaGreatDoor
set_option linter.unusedVariables false
set_option linter.unusedSimpArgs false
set_option maxRecDepth 100000
namespace Go.Proofs.YthaebbmekonacaaGreatDoor
open Go.RowKit
set_option maxHeartbeats 2000000 in
theorem ra10 (x : List UInt8) (t r : List (List UInt8)) (hx : t.headD [32] = x) (htr : t.tail = r) (pl ps : Nat) (W0 w : World) (n : Nat) (hn : n ≤ 100) (hk : plc owL x = some n) (h0 : Std0 W0 w pl ps) (hr : Rd w pl ps ([111, 114, 105, 103, 105, 110] :: t)) : Calls Tryz.prog 91 #[clo pl ps] w fun e w' => e = .returned (acV ⟨10, ⟨#[]⟩, n, ⟨#[]⟩⟩) ∧ Left w w' pl ps r := by
  have hl := hr.lt
  obtain ⟨W1, hW1⟩ : ∃ W1, w.alloc (.cells #[.int .i64 0, .string ⟨#[]⟩, .int .u32 0, .string ⟨#[]⟩] 40) = W1 := ⟨_, rfl⟩
  have bb1 : Below w.heap.size w W1 := by rw [← hW1]; exact (Below.refl _ _).alloc (Nat.le_refl _) _
  have hlt : w.heap.size < W1.heap.size := by rw [← hW1]; simp
  have b1 : Bs2 pl ps w W1 := Bs2.of_below bb1
  have r1 : Rd W1 pl ps ([111, 114, 105, 103, 105, 110] :: t) := hr.below bb1
  have d1 : C4 W1 w.heap.size (.int .i64 0) (.string ⟨#[]⟩) (.int .u32 0) (.string ⟨#[]⟩) := by rw [← hW1]; exact C4.new w 40 _ _ _ _
  have HNl : Hid (w.heap.size ≠ pl ∧ w.heap.size ≠ ps) := ⟨by omega, by omega⟩
  have HS : Hid (Std0 W0 w pl ps) := h0
  have HB1 : Hid (Bs2 pl ps w W1) := b1
  have HR1 : Hid (Rd W1 pl ps ([111, 114, 105, 103, 105, 110] :: t)) := r1
  have HD1 : Hid (C4 W1 w.heap.size _ _ _ _) := d1
  have HLt : Hid (w.heap.size < W1.heap.size) := hlt
  have HX : Hid (t.headD [32] = x) := hx
  have HT0 : Hid (t.tail = r) := htr
  have HK : Hid (plc owL x = some n) := hk
  clear h0 hr hl bb1 b1 r1 d1 hlt hx htr hk
  unfold clo
  go_enter Tryz.func91, Tryz.ntmps91
  go_wp2_with fail
  have HRl : Hid (pl < W1.heap.size ∧ ps < W1.heap.size) := HR1.out.lt
  refine Calls.mono (aw_any W1) ?_
  rintro e W2 ⟨rfl, ht2⟩
  have hb2 := ht2.2
  have HT : Hid (∀ q, q < awL.length → W2.cell? ⟨W1.heap.size, q, none⟩ = some (.string ⟨(awL.getD q []).toArray⟩)) := ht2.1
  clear ht2
  have HR2 : Hid (_ : Prop) := HR1.out.below hb2
  have HB2 : Hid (Bs2 pl ps w W2) := HB1.out.trans (Bs2.of_below hb2)
  have HD2 : Hid (_ : Prop) := HD1.out.below hb2
  clear hb2 HR1 HB1 HD1
  have HTl : Hid (W1.heap.size ≠ pl ∧ W1.heap.size ≠ ps) := ⟨by have := HRl.out; omega, by have := HRl.out; omega⟩
  go_wp2_with fail
  refine Calls.mono (next_yes pl ps [111, 114, 105, 103, 105, 110] _ W2 HR2.out (HS.out.bs2 HB2.out).max) ?_
  rintro e W3 ⟨rfl, hr3, hb3⟩
  have HR3 : Hid (_ : Prop) := hr3
  have HB3 : Hid (Bs2 pl ps w W3) := HB2.out.trans hb3
  have HD3 : Hid (_ : Prop) := HD2.out.bs2 hb3 HNl.out.1 HNl.out.2
  have HT2 : Hid (∀ q, q < awL.length → W3.cell? ⟨W1.heap.size, q, none⟩ = some (.string ⟨(awL.getD q []).toArray⟩)) := fun q hq => hb3.cell (HT.out q hq) HTl.out.1 HTl.out.2
  clear hr3 hb3 HR2 HB2 HD2
  go_wp2_with fail
  refine Calls.mono (place_yes W1.heap.size 11 awL [111, 114, 105, 103, 105, 110] 10 W3 rfl (by decide) (by decide) (by decide) HT2.out) ?_
  rintro e Wq ⟨rfl, hq⟩
  subst Wq
  clear HT HT2 HRl HTl
  go_wp2_with fail
  have HL3 : Hid (pl < W3.heap.size ∧ ps < W3.heap.size) := HR3.out.lt
  have HSz : Hid (w.heap.size < W3.heap.size) := lt_of_cell HD3.out.c0
  have HCb : Hid (w.heap.size ≤ W3.heap.size ∧ W3.heap.size ≠ w.heap.size) := by have := HSz.out; exact ⟨by omega, by omega⟩
  have HNc : Hid (W3.heap.size ≠ pl ∧ W3.heap.size ≠ ps) := by have := HL3.out; exact ⟨by omega, by omega⟩
  have hbA : Below W3.heap.size W3 (W3.alloc (.cells #[.int .i64 10, .string ⟨#[]⟩, .int .u32 0, .string ⟨#[]⟩] 40)) := (Below.refl _ _).alloc (Nat.le_refl _) _
  have HR4 : Hid (Rd (W3.alloc (.cells #[.int .i64 10, .string ⟨#[]⟩, .int .u32 0, .string ⟨#[]⟩] 40)) pl ps (t)) := HR3.out.below hbA
  have HB4 : Hid (Bs2 pl ps w (W3.alloc (.cells #[.int .i64 10, .string ⟨#[]⟩, .int .u32 0, .string ⟨#[]⟩] 40))) := HB3.out.trans (Bs2.of_below hbA)
  have HD4 : Hid (C4 (W3.alloc (.cells #[.int .i64 10, .string ⟨#[]⟩, .int .u32 0, .string ⟨#[]⟩] 40)) w.heap.size (.int .i64 0) (.string ⟨#[]⟩) (.int .u32 0) (.string ⟨#[]⟩)) := HD3.out.below hbA
  have HC4 : Hid (C4 (W3.alloc (.cells #[.int .i64 10, .string ⟨#[]⟩, .int .u32 0, .string ⟨#[]⟩] 40)) W3.heap.size (.int .i64 10) (.string ⟨#[]⟩) (.int .u32 0) (.string ⟨#[]⟩)) := C4.new _ 40 _ _ _ _
  clear hbA HL3 HSz HR3 HB3 HD3
  generalize W3.alloc (.cells #[.int .i64 10, .string ⟨#[]⟩, .int .u32 0, .string ⟨#[]⟩] 40) = W4 at *
  generalize W3.heap.size = cb at *
  have HRl : Hid (pl < W4.heap.size ∧ ps < W4.heap.size) := HR4.out.lt
  refine Calls.mono (ow_any W4) ?_
  rintro e W5 ⟨rfl, ht5⟩
  have hb5 := ht5.2
  have HT : Hid (∀ q, q < owL.length → W5.cell? ⟨W4.heap.size, q, none⟩ = some (.string ⟨(owL.getD q []).toArray⟩)) := ht5.1
  clear ht5
  have HR5 : Hid (_ : Prop) := HR4.out.below hb5
  have HB5 : Hid (Bs2 pl ps w W5) := HB4.out.trans (Bs2.of_below hb5)
  have HD5 : Hid (_ : Prop) := HD4.out.below hb5
  have HC5 : Hid (_ : Prop) := HC4.out.below hb5
  clear hb5 HR4 HB4 HD4 HC4
  have HTl : Hid (W4.heap.size ≠ pl ∧ W4.heap.size ≠ ps) := ⟨by have := HRl.out; omega, by have := HRl.out; omega⟩
  go_wp2_with fail
  refine Calls.mono (next_gen pl ps x r t HX.out HT0.out W5 HR5.out (HS.out.bs2 HB5.out).max) ?_
  rintro e W6 ⟨rfl, hr6, hb6⟩
  have HR6 : Hid (_ : Prop) := hr6
  have HB6 : Hid (Bs2 pl ps w W6) := HB5.out.trans hb6
  have HD6 : Hid (_ : Prop) := HD5.out.bs2 hb6 HNl.out.1 HNl.out.2
  have HC6 : Hid (_ : Prop) := HC5.out.bs2 hb6 HNc.out.1 HNc.out.2
  have HT2 : Hid (∀ q, q < owL.length → W6.cell? ⟨W4.heap.size, q, none⟩ = some (.string ⟨(owL.getD q []).toArray⟩)) := fun q hq => hb6.cell (HT.out q hq) HTl.out.1 HTl.out.2
  clear hr6 hb6 HR5 HB5 HD5 HC5
  go_wp2_with fail
  refine Calls.mono (place_some W4.heap.size 3 owL x n W6 rfl (by decide) HK.out HT2.out) ?_
  rintro e Wq ⟨rfl, hq⟩
  subst Wq
  clear HT HT2 HRl HTl
  have hwn : IntKind.u32.wrap (n : Int) = n := by rw [IntKind.wrap_u32]; omega
  obtain ⟨W7, hW7⟩ : ∃ W, W6.setCell ⟨cb, 2, none⟩ (.int .u32 (n : Int)) = W := ⟨_, rfl⟩
  have HR7 : Hid (Rd W7 pl ps (r)) := by unfold Hid; rw [← hW7]; exact HR6.out.set HNc.out.1 HNc.out.2
  have HB7 : Hid (Bs2 pl ps w W7) := by unfold Hid; rw [← hW7]; exact HB6.out.set HCb.out.1
  have HD7 : Hid (C4 W7 w.heap.size (.int .i64 0) (.string ⟨#[]⟩) (.int .u32 0) (.string ⟨#[]⟩)) := by unfold Hid; rw [← hW7]; exact HD6.out.other HCb.out.2
  have HC7 : Hid (C4 W7 cb (.int .i64 10) (.string ⟨#[]⟩) (.int .u32 (n : Int)) (.string ⟨#[]⟩)) := by unfold Hid; rw [← hW7]; exact HC6.out.set2
  have z0 := HC6.out.c2
  have z1 := HC6.out.f 2
  clear HR6 HB6 HD6 HC6
  have y0 := HC7.out.c0
  have y1 := HC7.out.c1
  have y2 := HC7.out.c2
  have y3 := HC7.out.c3
  have x0 := HD7.out.c0
  have x1 := HD7.out.c1
  have x2 := HD7.out.c2
  have x3 := HD7.out.c3
  have f0 := HD7.out.f 0
  have f1 := HD7.out.f 1
  have f2 := HD7.out.f 2
  have f3 := HD7.out.f 3
  have HF : Hid (C4 ((((W7.setCell ⟨w.heap.size, 0, none⟩ (.int .i64 10)).setCell ⟨w.heap.size, 1, none⟩ (.string ⟨#[]⟩)).setCell ⟨w.heap.size, 2, none⟩ (.int .u32 (n : Int))).setCell ⟨w.heap.size, 3, none⟩ (.string ⟨#[]⟩)) w.heap.size (.int .i64 10) (.string ⟨#[]⟩) (.int .u32 (n : Int)) (.string ⟨#[]⟩)) := HD7.out.set0.set1.set2.set3
  have HLf : Hid (Left w ((((W7.setCell ⟨w.heap.size, 0, none⟩ (.int .i64 10)).setCell ⟨w.heap.size, 1, none⟩ (.string ⟨#[]⟩)).setCell ⟨w.heap.size, 2, none⟩ (.int .u32 (n : Int))).setCell ⟨w.heap.size, 3, none⟩ (.string ⟨#[]⟩)) pl ps r) := ⟨(((HR7.out.set HNl.out.1 HNl.out.2).set HNl.out.1 HNl.out.2).set HNl.out.1 HNl.out.2).set HNl.out.1 HNl.out.2, (((HB7.out.set (Nat.le_refl _)).set (Nat.le_refl _)).set (Nat.le_refl _)).set (Nat.le_refl _)⟩
  go_wp2_with fail
  generalize ((((W7.setCell ⟨w.heap.size, 0, none⟩ (.int .i64 10)).setCell ⟨w.heap.size, 1, none⟩ (.string ⟨#[]⟩)).setCell ⟨w.heap.size, 2, none⟩ (.int .u32 (n : Int))).setCell ⟨w.heap.size, 3, none⟩ (.string ⟨#[]⟩)) = WF at *
  have e0 := HF.out.c0
  have e1 := HF.out.c1
  have e2 := HF.out.c2
  have e3 := HF.out.c3
  refine bodyPost_ret (v := .agg #[.int .i64 10, .string ⟨#[]⟩, .int .u32 (n : Int), .string ⟨#[]⟩]) (by simp [results, Tryz.results91, go_sem, e0, e1, e2, e3]) rfl ?_
  exact ⟨rfl, HLf.out⟩
set_option maxHeartbeats 2000000 in
theorem ra10x (x : List UInt8) (t r : List (List UInt8)) (hx : t.headD [32] = x) (htr : t.tail = r) (pl ps : Nat) (W0 w : World) (hk : plc owL x = none) (h0 : Std0 W0 w pl ps) (hr : Rd w pl ps ([111, 114, 105, 103, 105, 110] :: t)) : Calls Tryz.prog 91 #[clo pl ps] w fun e w' => Pan w w' pl ps e := by
  have hl := hr.lt
  obtain ⟨W1, hW1⟩ : ∃ W1, w.alloc (.cells #[.int .i64 0, .string ⟨#[]⟩, .int .u32 0, .string ⟨#[]⟩] 40) = W1 := ⟨_, rfl⟩
  have bb1 : Below w.heap.size w W1 := by rw [← hW1]; exact (Below.refl _ _).alloc (Nat.le_refl _) _
  have hlt : w.heap.size < W1.heap.size := by rw [← hW1]; simp
  have b1 : Bs2 pl ps w W1 := Bs2.of_below bb1
  have r1 : Rd W1 pl ps ([111, 114, 105, 103, 105, 110] :: t) := hr.below bb1
  have d1 : C4 W1 w.heap.size (.int .i64 0) (.string ⟨#[]⟩) (.int .u32 0) (.string ⟨#[]⟩) := by rw [← hW1]; exact C4.new w 40 _ _ _ _
  have HNl : Hid (w.heap.size ≠ pl ∧ w.heap.size ≠ ps) := ⟨by omega, by omega⟩
  have HS : Hid (Std0 W0 w pl ps) := h0
  have HB1 : Hid (Bs2 pl ps w W1) := b1
  have HR1 : Hid (Rd W1 pl ps ([111, 114, 105, 103, 105, 110] :: t)) := r1
  have HD1 : Hid (C4 W1 w.heap.size _ _ _ _) := d1
  have HLt : Hid (w.heap.size < W1.heap.size) := hlt
  have HX : Hid (t.headD [32] = x) := hx
  have HT0 : Hid (t.tail = r) := htr
  have HK : Hid (plc owL x = none) := hk
  clear h0 hr hl bb1 b1 r1 d1 hlt hx htr hk
  unfold clo
  go_enter Tryz.func91, Tryz.ntmps91
  go_wp2_with fail
  have HRl : Hid (pl < W1.heap.size ∧ ps < W1.heap.size) := HR1.out.lt
  refine Calls.mono (aw_any W1) ?_
  rintro e W2 ⟨rfl, ht2⟩
  have hb2 := ht2.2
  have HT : Hid (∀ q, q < awL.length → W2.cell? ⟨W1.heap.size, q, none⟩ = some (.string ⟨(awL.getD q []).toArray⟩)) := ht2.1
  clear ht2
  have HR2 : Hid (_ : Prop) := HR1.out.below hb2
  have HB2 : Hid (Bs2 pl ps w W2) := HB1.out.trans (Bs2.of_below hb2)
  have HD2 : Hid (_ : Prop) := HD1.out.below hb2
  clear hb2 HR1 HB1 HD1
  have HTl : Hid (W1.heap.size ≠ pl ∧ W1.heap.size ≠ ps) := ⟨by have := HRl.out; omega, by have := HRl.out; omega⟩
  go_wp2_with fail
  refine Calls.mono (next_yes pl ps [111, 114, 105, 103, 105, 110] _ W2 HR2.out (HS.out.bs2 HB2.out).max) ?_
  rintro e W3 ⟨rfl, hr3, hb3⟩
  have HR3 : Hid (_ : Prop) := hr3
  have HB3 : Hid (Bs2 pl ps w W3) := HB2.out.trans hb3
  have HD3 : Hid (_ : Prop) := HD2.out.bs2 hb3 HNl.out.1 HNl.out.2
  have HT2 : Hid (∀ q, q < awL.length → W3.cell? ⟨W1.heap.size, q, none⟩ = some (.string ⟨(awL.getD q []).toArray⟩)) := fun q hq => hb3.cell (HT.out q hq) HTl.out.1 HTl.out.2
  clear hr3 hb3 HR2 HB2 HD2
  go_wp2_with fail
  refine Calls.mono (place_yes W1.heap.size 11 awL [111, 114, 105, 103, 105, 110] 10 W3 rfl (by decide) (by decide) (by decide) HT2.out) ?_
  rintro e Wq ⟨rfl, hq⟩
  subst Wq
  clear HT HT2 HRl HTl
  go_wp2_with fail
  have HL3 : Hid (pl < W3.heap.size ∧ ps < W3.heap.size) := HR3.out.lt
  have HSz : Hid (w.heap.size < W3.heap.size) := lt_of_cell HD3.out.c0
  have HCb : Hid (w.heap.size ≤ W3.heap.size ∧ W3.heap.size ≠ w.heap.size) := by have := HSz.out; exact ⟨by omega, by omega⟩
  have HNc : Hid (W3.heap.size ≠ pl ∧ W3.heap.size ≠ ps) := by have := HL3.out; exact ⟨by omega, by omega⟩
  have hbA : Below W3.heap.size W3 (W3.alloc (.cells #[.int .i64 10, .string ⟨#[]⟩, .int .u32 0, .string ⟨#[]⟩] 40)) := (Below.refl _ _).alloc (Nat.le_refl _) _
  have HR4 : Hid (Rd (W3.alloc (.cells #[.int .i64 10, .string ⟨#[]⟩, .int .u32 0, .string ⟨#[]⟩] 40)) pl ps (t)) := HR3.out.below hbA
  have HB4 : Hid (Bs2 pl ps w (W3.alloc (.cells #[.int .i64 10, .string ⟨#[]⟩, .int .u32 0, .string ⟨#[]⟩] 40))) := HB3.out.trans (Bs2.of_below hbA)
  have HD4 : Hid (C4 (W3.alloc (.cells #[.int .i64 10, .string ⟨#[]⟩, .int .u32 0, .string ⟨#[]⟩] 40)) w.heap.size (.int .i64 0) (.string ⟨#[]⟩) (.int .u32 0) (.string ⟨#[]⟩)) := HD3.out.below hbA
  have HC4 : Hid (C4 (W3.alloc (.cells #[.int .i64 10, .string ⟨#[]⟩, .int .u32 0, .string ⟨#[]⟩] 40)) W3.heap.size (.int .i64 10) (.string ⟨#[]⟩) (.int .u32 0) (.string ⟨#[]⟩)) := C4.new _ 40 _ _ _ _
  clear hbA HL3 HSz HR3 HB3 HD3
  generalize W3.alloc (.cells #[.int .i64 10, .string ⟨#[]⟩, .int .u32 0, .string ⟨#[]⟩] 40) = W4 at *
  generalize W3.heap.size = cb at *
  have HRl : Hid (pl < W4.heap.size ∧ ps < W4.heap.size) := HR4.out.lt
  refine Calls.mono (ow_any W4) ?_
  rintro e W5 ⟨rfl, ht5⟩
  have hb5 := ht5.2
  have HT : Hid (∀ q, q < owL.length → W5.cell? ⟨W4.heap.size, q, none⟩ = some (.string ⟨(owL.getD q []).toArray⟩)) := ht5.1
  clear ht5
  have HR5 : Hid (_ : Prop) := HR4.out.below hb5
  have HB5 : Hid (Bs2 pl ps w W5) := HB4.out.trans (Bs2.of_below hb5)
  have HD5 : Hid (_ : Prop) := HD4.out.below hb5
  have HC5 : Hid (_ : Prop) := HC4.out.below hb5
  clear hb5 HR4 HB4 HD4 HC4
  have HTl : Hid (W4.heap.size ≠ pl ∧ W4.heap.size ≠ ps) := ⟨by have := HRl.out; omega, by have := HRl.out; omega⟩
  go_wp2_with fail
  refine Calls.mono (next_gen pl ps x r t HX.out HT0.out W5 HR5.out (HS.out.bs2 HB5.out).max) ?_
  rintro e W6 ⟨rfl, hr6, hb6⟩
  have HR6 : Hid (_ : Prop) := hr6
  have HB6 : Hid (Bs2 pl ps w W6) := HB5.out.trans hb6
  have HD6 : Hid (_ : Prop) := HD5.out.bs2 hb6 HNl.out.1 HNl.out.2
  have HC6 : Hid (_ : Prop) := HC5.out.bs2 hb6 HNc.out.1 HNc.out.2
  have HT2 : Hid (∀ q, q < owL.length → W6.cell? ⟨W4.heap.size, q, none⟩ = some (.string ⟨(owL.getD q []).toArray⟩)) := fun q hq => hb6.cell (HT.out q hq) HTl.out.1 HTl.out.2
  clear hr6 hb6 HR5 HB5 HD5 HC5
  go_wp2_with fail
  refine Calls.mono (place_none W4.heap.size 3 owL x W6 rfl (by decide) HK.out HT2.out) ?_
  rintro e Wq ⟨rfl, hq⟩
  subst Wq
  have HZ : Hid (Pan w W6 pl ps (.panicked PAN)) := ⟨rfl, HB6.out⟩
  go_wp2_with fail
  exact ⟨rfl, HZ.out⟩
set_option maxHeartbeats 2000000 in
theorem ra6 (x : List UInt8) (t r : List (List UInt8)) (hx : t.headD [32] = x) (htr : t.tail = r) (pl ps : Nat) (W0 w : World) (n : Nat) (hn : n < 4294967296) (hk : x = comT n) (h0 : Std0 W0 w pl ps) (hr : Rd w pl ps ([97, 100, 100] :: t)) : Calls Tryz.prog 91 #[clo pl ps] w fun e w' => e = .returned (acV ⟨6, ⟨#[]⟩, n, ⟨#[]⟩⟩) ∧ Left w w' pl ps r := by
  have hl := hr.lt
  obtain ⟨W1, hW1⟩ : ∃ W1, w.alloc (.cells #[.int .i64 0, .string ⟨#[]⟩, .int .u32 0, .string ⟨#[]⟩] 40) = W1 := ⟨_, rfl⟩
  have bb1 : Below w.heap.size w W1 := by rw [← hW1]; exact (Below.refl _ _).alloc (Nat.le_refl _) _
  have hlt : w.heap.size < W1.heap.size := by rw [← hW1]; simp
  have b1 : Bs2 pl ps w W1 := Bs2.of_below bb1
  have r1 : Rd W1 pl ps ([97, 100, 100] :: t) := hr.below bb1
  have d1 : C4 W1 w.heap.size (.int .i64 0) (.string ⟨#[]⟩) (.int .u32 0) (.string ⟨#[]⟩) := by rw [← hW1]; exact C4.new w 40 _ _ _ _
  have HNl : Hid (w.heap.size ≠ pl ∧ w.heap.size ≠ ps) := ⟨by omega, by omega⟩
  have HS : Hid (Std0 W0 w pl ps) := h0
  have HB1 : Hid (Bs2 pl ps w W1) := b1
  have HR1 : Hid (Rd W1 pl ps ([97, 100, 100] :: t)) := r1
  have HD1 : Hid (C4 W1 w.heap.size _ _ _ _) := d1
  have HLt : Hid (w.heap.size < W1.heap.size) := hlt
  have HX : Hid (t.headD [32] = x) := hx
  have HT0 : Hid (t.tail = r) := htr
  have HK : Hid (x = comT n) := hk
  have HNn : Hid (n < 4294967296) := hn
  clear h0 hr hl bb1 b1 r1 d1 hlt hx htr hk hn
  unfold clo
  go_enter Tryz.func91, Tryz.ntmps91
  go_wp2_with fail
  have HRl : Hid (pl < W1.heap.size ∧ ps < W1.heap.size) := HR1.out.lt
  refine Calls.mono (aw_any W1) ?_
  rintro e W2 ⟨rfl, ht2⟩
  have hb2 := ht2.2
  have HT : Hid (∀ q, q < awL.length → W2.cell? ⟨W1.heap.size, q, none⟩ = some (.string ⟨(awL.getD q []).toArray⟩)) := ht2.1
  clear ht2
  have HR2 : Hid (_ : Prop) := HR1.out.below hb2
  have HB2 : Hid (Bs2 pl ps w W2) := HB1.out.trans (Bs2.of_below hb2)
  have HD2 : Hid (_ : Prop) := HD1.out.below hb2
  clear hb2 HR1 HB1 HD1
  have HTl : Hid (W1.heap.size ≠ pl ∧ W1.heap.size ≠ ps) := ⟨by have := HRl.out; omega, by have := HRl.out; omega⟩
  go_wp2_with fail
  refine Calls.mono (next_yes pl ps [97, 100, 100] _ W2 HR2.out (HS.out.bs2 HB2.out).max) ?_
  rintro e W3 ⟨rfl, hr3, hb3⟩
  have HR3 : Hid (_ : Prop) := hr3
  have HB3 : Hid (Bs2 pl ps w W3) := HB2.out.trans hb3
  have HD3 : Hid (_ : Prop) := HD2.out.bs2 hb3 HNl.out.1 HNl.out.2
  have HT2 : Hid (∀ q, q < awL.length → W3.cell? ⟨W1.heap.size, q, none⟩ = some (.string ⟨(awL.getD q []).toArray⟩)) := fun q hq => hb3.cell (HT.out q hq) HTl.out.1 HTl.out.2
  clear hr3 hb3 HR2 HB2 HD2
  go_wp2_with fail
  refine Calls.mono (place_yes W1.heap.size 11 awL [97, 100, 100] 6 W3 rfl (by decide) (by decide) (by decide) HT2.out) ?_
  rintro e Wq ⟨rfl, hq⟩
  subst Wq
  clear HT HT2 HRl HTl
  go_wp2_with fail
  have HL3 : Hid (pl < W3.heap.size ∧ ps < W3.heap.size) := HR3.out.lt
  have HSz : Hid (w.heap.size < W3.heap.size) := lt_of_cell HD3.out.c0
  have HCb : Hid (w.heap.size ≤ W3.heap.size ∧ W3.heap.size ≠ w.heap.size) := by have := HSz.out; exact ⟨by omega, by omega⟩
  have HNc : Hid (W3.heap.size ≠ pl ∧ W3.heap.size ≠ ps) := by have := HL3.out; exact ⟨by omega, by omega⟩
  have hbA : Below W3.heap.size W3 (W3.alloc (.cells #[.int .i64 6, .string ⟨#[]⟩, .int .u32 0, .string ⟨#[]⟩] 40)) := (Below.refl _ _).alloc (Nat.le_refl _) _
  have HR4 : Hid (Rd (W3.alloc (.cells #[.int .i64 6, .string ⟨#[]⟩, .int .u32 0, .string ⟨#[]⟩] 40)) pl ps (t)) := HR3.out.below hbA
  have HB4 : Hid (Bs2 pl ps w (W3.alloc (.cells #[.int .i64 6, .string ⟨#[]⟩, .int .u32 0, .string ⟨#[]⟩] 40))) := HB3.out.trans (Bs2.of_below hbA)
  have HD4 : Hid (C4 (W3.alloc (.cells #[.int .i64 6, .string ⟨#[]⟩, .int .u32 0, .string ⟨#[]⟩] 40)) w.heap.size (.int .i64 0) (.string ⟨#[]⟩) (.int .u32 0) (.string ⟨#[]⟩)) := HD3.out.below hbA
  have HC4 : Hid (C4 (W3.alloc (.cells #[.int .i64 6, .string ⟨#[]⟩, .int .u32 0, .string ⟨#[]⟩] 40)) W3.heap.size (.int .i64 6) (.string ⟨#[]⟩) (.int .u32 0) (.string ⟨#[]⟩)) := C4.new _ 40 _ _ _ _
  clear hbA HL3 HSz HR3 HB3 HD3
  generalize W3.alloc (.cells #[.int .i64 6, .string ⟨#[]⟩, .int .u32 0, .string ⟨#[]⟩] 40) = W4 at *
  generalize W3.heap.size = cb at *
  refine Calls.mono (next_gen pl ps x r t HX.out HT0.out W4 HR4.out (HS.out.bs2 HB4.out).max) ?_
  rintro e W5 ⟨rfl, hr5, hb5⟩
  have HR5 : Hid (_ : Prop) := hr5
  have HB5 : Hid (Bs2 pl ps w W5) := HB4.out.trans hb5
  have HD5 : Hid (_ : Prop) := HD4.out.bs2 hb5 HNl.out.1 HNl.out.2
  have HC5 : Hid (_ : Prop) := HC4.out.bs2 hb5 HNc.out.1 HNc.out.2
  clear hr5 hb5 HR4 HB4 HD4 HC4
  go_wp2_with fail
  refine Calls.mono (comParse n x HK.out HNn.out W5 (HS.out.bs2 HB5.out).env) ?_
  rintro e W6 ⟨rfl, hb6⟩
  have HR6 : Hid (_ : Prop) := HR5.out.below hb6
  have HB6 : Hid (Bs2 pl ps w W6) := HB5.out.trans (Bs2.of_below hb6)
  have HD6 : Hid (_ : Prop) := HD5.out.below hb6
  have HC6 : Hid (_ : Prop) := HC5.out.below hb6
  clear hb6 HR5 HB5 HD5 HC5
  go_wp2_with fail
  refine Calls.mono (takenU (n : Int) W6) ?_
  rintro e Wq ⟨rfl, hq⟩
  subst Wq
  obtain ⟨W7, hW7⟩ : ∃ W, W6.setCell ⟨cb, 2, none⟩ (.int .u32 (n : Int)) = W := ⟨_, rfl⟩
  have HR7 : Hid (Rd W7 pl ps (r)) := by unfold Hid; rw [← hW7]; exact HR6.out.set HNc.out.1 HNc.out.2
  have HB7 : Hid (Bs2 pl ps w W7) := by unfold Hid; rw [← hW7]; exact HB6.out.set HCb.out.1
  have HD7 : Hid (C4 W7 w.heap.size (.int .i64 0) (.string ⟨#[]⟩) (.int .u32 0) (.string ⟨#[]⟩)) := by unfold Hid; rw [← hW7]; exact HD6.out.other HCb.out.2
  have HC7 : Hid (C4 W7 cb (.int .i64 6) (.string ⟨#[]⟩) (.int .u32 (n : Int)) (.string ⟨#[]⟩)) := by unfold Hid; rw [← hW7]; exact HC6.out.set2
  have z0 := HC6.out.c2
  have z1 := HC6.out.f 2
  clear HR6 HB6 HD6 HC6
  have y0 := HC7.out.c0
  have y1 := HC7.out.c1
  have y2 := HC7.out.c2
  have y3 := HC7.out.c3
  have x0 := HD7.out.c0
  have x1 := HD7.out.c1
  have x2 := HD7.out.c2
  have x3 := HD7.out.c3
  have f0 := HD7.out.f 0
  have f1 := HD7.out.f 1
  have f2 := HD7.out.f 2
  have f3 := HD7.out.f 3
  have HF : Hid (C4 ((((W7.setCell ⟨w.heap.size, 0, none⟩ (.int .i64 6)).setCell ⟨w.heap.size, 1, none⟩ (.string ⟨#[]⟩)).setCell ⟨w.heap.size, 2, none⟩ (.int .u32 (n : Int))).setCell ⟨w.heap.size, 3, none⟩ (.string ⟨#[]⟩)) w.heap.size (.int .i64 6) (.string ⟨#[]⟩) (.int .u32 (n : Int)) (.string ⟨#[]⟩)) := HD7.out.set0.set1.set2.set3
  have HLf : Hid (Left w ((((W7.setCell ⟨w.heap.size, 0, none⟩ (.int .i64 6)).setCell ⟨w.heap.size, 1, none⟩ (.string ⟨#[]⟩)).setCell ⟨w.heap.size, 2, none⟩ (.int .u32 (n : Int))).setCell ⟨w.heap.size, 3, none⟩ (.string ⟨#[]⟩)) pl ps r) := ⟨(((HR7.out.set HNl.out.1 HNl.out.2).set HNl.out.1 HNl.out.2).set HNl.out.1 HNl.out.2).set HNl.out.1 HNl.out.2, (((HB7.out.set (Nat.le_refl _)).set (Nat.le_refl _)).set (Nat.le_refl _)).set (Nat.le_refl _)⟩
  go_wp2_with fail
  generalize ((((W7.setCell ⟨w.heap.size, 0, none⟩ (.int .i64 6)).setCell ⟨w.heap.size, 1, none⟩ (.string ⟨#[]⟩)).setCell ⟨w.heap.size, 2, none⟩ (.int .u32 (n : Int))).setCell ⟨w.heap.size, 3, none⟩ (.string ⟨#[]⟩)) = WF at *
  have e0 := HF.out.c0
  have e1 := HF.out.c1
  have e2 := HF.out.c2
  have e3 := HF.out.c3
  refine bodyPost_ret (v := .agg #[.int .i64 6, .string ⟨#[]⟩, .int .u32 (n : Int), .string ⟨#[]⟩]) (by simp [results, Tryz.results91, go_sem, e0, e1, e2, e3]) rfl ?_
  exact ⟨rfl, HLf.out⟩
end Go.Proofs.YthaebbmekonacaaGreatDoor
set_option linter.unusedVariables false
set_option linter.unusedSimpArgs false
set_option maxRecDepth 100000
namespace Go.Proofs.YthaebbmekonacaaGreatDoor
open Go.RowKit
set_option maxHeartbeats 2000000 in
theorem ra6x (x : List UInt8) (t r : List (List UInt8)) (hx : t.headD [32] = x) (htr : t.tail = r) (pl ps : Nat) (W0 w : World) (hk : ∀ c, c < 4294967296 → ¬ (comT c = x)) (hxl : x.length < 140737488351233) (hEr : ErrsAt W0) (h0 : Std0 W0 w pl ps) (hr : Rd w pl ps ([97, 100, 100] :: t)) : Calls Tryz.prog 91 #[clo pl ps] w fun e w' => Pan w w' pl ps e := by
  have hl := hr.lt
  obtain ⟨W1, hW1⟩ : ∃ W1, w.alloc (.cells #[.int .i64 0, .string ⟨#[]⟩, .int .u32 0, .string ⟨#[]⟩] 40) = W1 := ⟨_, rfl⟩
  have bb1 : Below w.heap.size w W1 := by rw [← hW1]; exact (Below.refl _ _).alloc (Nat.le_refl _) _
  have hlt : w.heap.size < W1.heap.size := by rw [← hW1]; simp
  have b1 : Bs2 pl ps w W1 := Bs2.of_below bb1
  have r1 : Rd W1 pl ps ([97, 100, 100] :: t) := hr.below bb1
  have d1 : C4 W1 w.heap.size (.int .i64 0) (.string ⟨#[]⟩) (.int .u32 0) (.string ⟨#[]⟩) := by rw [← hW1]; exact C4.new w 40 _ _ _ _
  have HNl : Hid (w.heap.size ≠ pl ∧ w.heap.size ≠ ps) := ⟨by omega, by omega⟩
  have HS : Hid (Std0 W0 w pl ps) := h0
  have HB1 : Hid (Bs2 pl ps w W1) := b1
  have HR1 : Hid (Rd W1 pl ps ([97, 100, 100] :: t)) := r1
  have HD1 : Hid (C4 W1 w.heap.size _ _ _ _) := d1
  have HLt : Hid (w.heap.size < W1.heap.size) := hlt
  have HX : Hid (t.headD [32] = x) := hx
  have HT0 : Hid (t.tail = r) := htr
  have HK : Hid (∀ c, c < 4294967296 → ¬ (comT c = x)) := hk
  have HXl : Hid (x.length < 140737488351233) := hxl
  have HEr : Hid (ErrsAt W0) := hEr
  clear h0 hr hl bb1 b1 r1 d1 hlt hx htr hk hxl hEr
  unfold clo
  go_enter Tryz.func91, Tryz.ntmps91
  go_wp2_with fail
  have HRl : Hid (pl < W1.heap.size ∧ ps < W1.heap.size) := HR1.out.lt
  refine Calls.mono (aw_any W1) ?_
  rintro e W2 ⟨rfl, ht2⟩
  have hb2 := ht2.2
  have HT : Hid (∀ q, q < awL.length → W2.cell? ⟨W1.heap.size, q, none⟩ = some (.string ⟨(awL.getD q []).toArray⟩)) := ht2.1
  clear ht2
  have HR2 : Hid (_ : Prop) := HR1.out.below hb2
  have HB2 : Hid (Bs2 pl ps w W2) := HB1.out.trans (Bs2.of_below hb2)
  have HD2 : Hid (_ : Prop) := HD1.out.below hb2
  clear hb2 HR1 HB1 HD1
  have HTl : Hid (W1.heap.size ≠ pl ∧ W1.heap.size ≠ ps) := ⟨by have := HRl.out; omega, by have := HRl.out; omega⟩
  go_wp2_with fail
  refine Calls.mono (next_yes pl ps [97, 100, 100] _ W2 HR2.out (HS.out.bs2 HB2.out).max) ?_
  rintro e W3 ⟨rfl, hr3, hb3⟩
  have HR3 : Hid (_ : Prop) := hr3
  have HB3 : Hid (Bs2 pl ps w W3) := HB2.out.trans hb3
  have HD3 : Hid (_ : Prop) := HD2.out.bs2 hb3 HNl.out.1 HNl.out.2
  have HT2 : Hid (∀ q, q < awL.length → W3.cell? ⟨W1.heap.size, q, none⟩ = some (.string ⟨(awL.getD q []).toArray⟩)) := fun q hq => hb3.cell (HT.out q hq) HTl.out.1 HTl.out.2
  clear hr3 hb3 HR2 HB2 HD2
  go_wp2_with fail
  refine Calls.mono (place_yes W1.heap.size 11 awL [97, 100, 100] 6 W3 rfl (by decide) (by decide) (by decide) HT2.out) ?_
  rintro e Wq ⟨rfl, hq⟩
  subst Wq
  clear HT HT2 HRl HTl
  go_wp2_with fail
  have HL3 : Hid (pl < W3.heap.size ∧ ps < W3.heap.size) := HR3.out.lt
  have HSz : Hid (w.heap.size < W3.heap.size) := lt_of_cell HD3.out.c0
  have HCb : Hid (w.heap.size ≤ W3.heap.size ∧ W3.heap.size ≠ w.heap.size) := by have := HSz.out; exact ⟨by omega, by omega⟩
  have HNc : Hid (W3.heap.size ≠ pl ∧ W3.heap.size ≠ ps) := by have := HL3.out; exact ⟨by omega, by omega⟩
  have hbA : Below W3.heap.size W3 (W3.alloc (.cells #[.int .i64 6, .string ⟨#[]⟩, .int .u32 0, .string ⟨#[]⟩] 40)) := (Below.refl _ _).alloc (Nat.le_refl _) _
  have HR4 : Hid (Rd (W3.alloc (.cells #[.int .i64 6, .string ⟨#[]⟩, .int .u32 0, .string ⟨#[]⟩] 40)) pl ps (t)) := HR3.out.below hbA
  have HB4 : Hid (Bs2 pl ps w (W3.alloc (.cells #[.int .i64 6, .string ⟨#[]⟩, .int .u32 0, .string ⟨#[]⟩] 40))) := HB3.out.trans (Bs2.of_below hbA)
  have HD4 : Hid (C4 (W3.alloc (.cells #[.int .i64 6, .string ⟨#[]⟩, .int .u32 0, .string ⟨#[]⟩] 40)) w.heap.size (.int .i64 0) (.string ⟨#[]⟩) (.int .u32 0) (.string ⟨#[]⟩)) := HD3.out.below hbA
  have HC4 : Hid (C4 (W3.alloc (.cells #[.int .i64 6, .string ⟨#[]⟩, .int .u32 0, .string ⟨#[]⟩] 40)) W3.heap.size (.int .i64 6) (.string ⟨#[]⟩) (.int .u32 0) (.string ⟨#[]⟩)) := C4.new _ 40 _ _ _ _
  clear hbA HL3 HSz HR3 HB3 HD3
  generalize W3.alloc (.cells #[.int .i64 6, .string ⟨#[]⟩, .int .u32 0, .string ⟨#[]⟩] 40) = W4 at *
  generalize W3.heap.size = cb at *
  refine Calls.mono (next_gen pl ps x r t HX.out HT0.out W4 HR4.out (HS.out.bs2 HB4.out).max) ?_
  rintro e W5 ⟨rfl, hr5, hb5⟩
  have HR5 : Hid (_ : Prop) := hr5
  have HB5 : Hid (Bs2 pl ps w W5) := HB4.out.trans hb5
  have HD5 : Hid (_ : Prop) := HD4.out.bs2 hb5 HNl.out.1 HNl.out.2
  have HC5 : Hid (_ : Prop) := HC4.out.bs2 hb5 HNc.out.1 HNc.out.2
  clear hr5 hb5 HR4 HB4 HD4 HC4
  go_wp2_with fail
  refine Calls.mono (comParse_no x HK.out HXl.out W5 (HS.out.bs2 HB5.out).env (HEr.out.below ((HS.out.bs2 HB5.out).b))) ?_
  rintro e W6 ⟨rfl, hb6⟩
  have HB6 : Hid (Bs2 pl ps w W6) := HB5.out.trans (Bs2.of_below hb6)
  clear hb6
  go_wp2_with fail
  refine Calls.mono (takenU_no 0 4 rfl W6) ?_
  rintro e Wq ⟨rfl, hq⟩
  subst Wq
  have HZ : Hid (Pan w W6 pl ps (.panicked PAN)) := ⟨rfl, HB6.out⟩
  go_wp2_with fail
  exact ⟨rfl, HZ.out⟩
set_option maxHeartbeats 2000000 in
theorem ra9 (x : List UInt8) (t r : List (List UInt8)) (hx : t.headD [32] = x) (htr : t.tail = r) (pl ps : Nat) (W0 w : World) (b : ByteArray) (hb : b.size = 4 ∨ b.size = 16) (hk : x = adT b) (hEr : ErrsAt W0) (h0 : Std0 W0 w pl ps) (hr : Rd w pl ps ([110, 101, 120, 116] :: t)) : Calls Tryz.prog 91 #[clo pl ps] w fun e w' => e = .returned (acV ⟨9, ⟨#[]⟩, 0, b⟩) ∧ Left w w' pl ps r := by
  have hl := hr.lt
  obtain ⟨W1, hW1⟩ : ∃ W1, w.alloc (.cells #[.int .i64 0, .string ⟨#[]⟩, .int .u32 0, .string ⟨#[]⟩] 40) = W1 := ⟨_, rfl⟩
  have bb1 : Below w.heap.size w W1 := by rw [← hW1]; exact (Below.refl _ _).alloc (Nat.le_refl _) _
  have hlt : w.heap.size < W1.heap.size := by rw [← hW1]; simp
  have b1 : Bs2 pl ps w W1 := Bs2.of_below bb1
  have r1 : Rd W1 pl ps ([110, 101, 120, 116] :: t) := hr.below bb1
  have d1 : C4 W1 w.heap.size (.int .i64 0) (.string ⟨#[]⟩) (.int .u32 0) (.string ⟨#[]⟩) := by rw [← hW1]; exact C4.new w 40 _ _ _ _
  have HNl : Hid (w.heap.size ≠ pl ∧ w.heap.size ≠ ps) := ⟨by omega, by omega⟩
  have HS : Hid (Std0 W0 w pl ps) := h0
  have HB1 : Hid (Bs2 pl ps w W1) := b1
  have HR1 : Hid (Rd W1 pl ps ([110, 101, 120, 116] :: t)) := r1
  have HD1 : Hid (C4 W1 w.heap.size _ _ _ _) := d1
  have HLt : Hid (w.heap.size < W1.heap.size) := hlt
  have HX : Hid (t.headD [32] = x) := hx
  have HT0 : Hid (t.tail = r) := htr
  have HK : Hid (x = adT b) := hk
  have HEr : Hid (ErrsAt W0) := hEr
  have HBb : Hid (b.size = 4 ∨ b.size = 16) := hb
  clear h0 hr hl bb1 b1 r1 d1 hlt hx htr hk hEr hb
  unfold clo
  go_enter Tryz.func91, Tryz.ntmps91
  go_wp2_with fail
  have HRl : Hid (pl < W1.heap.size ∧ ps < W1.heap.size) := HR1.out.lt
  refine Calls.mono (aw_any W1) ?_
  rintro e W2 ⟨rfl, ht2⟩
  have hb2 := ht2.2
  have HT : Hid (∀ q, q < awL.length → W2.cell? ⟨W1.heap.size, q, none⟩ = some (.string ⟨(awL.getD q []).toArray⟩)) := ht2.1
  clear ht2
  have HR2 : Hid (_ : Prop) := HR1.out.below hb2
  have HB2 : Hid (Bs2 pl ps w W2) := HB1.out.trans (Bs2.of_below hb2)
  have HD2 : Hid (_ : Prop) := HD1.out.below hb2
  clear hb2 HR1 HB1 HD1
  have HTl : Hid (W1.heap.size ≠ pl ∧ W1.heap.size ≠ ps) := ⟨by have := HRl.out; omega, by have := HRl.out; omega⟩
  go_wp2_with fail
  refine Calls.mono (next_yes pl ps [110, 101, 120, 116] _ W2 HR2.out (HS.out.bs2 HB2.out).max) ?_
  rintro e W3 ⟨rfl, hr3, hb3⟩
  have HR3 : Hid (_ : Prop) := hr3
  have HB3 : Hid (Bs2 pl ps w W3) := HB2.out.trans hb3
  have HD3 : Hid (_ : Prop) := HD2.out.bs2 hb3 HNl.out.1 HNl.out.2
  have HT2 : Hid (∀ q, q < awL.length → W3.cell? ⟨W1.heap.size, q, none⟩ = some (.string ⟨(awL.getD q []).toArray⟩)) := fun q hq => hb3.cell (HT.out q hq) HTl.out.1 HTl.out.2
  clear hr3 hb3 HR2 HB2 HD2
  go_wp2_with fail
  refine Calls.mono (place_yes W1.heap.size 11 awL [110, 101, 120, 116] 9 W3 rfl (by decide) (by decide) (by decide) HT2.out) ?_
  rintro e Wq ⟨rfl, hq⟩
  subst Wq
  clear HT HT2 HRl HTl
  go_wp2_with fail
  have HL3 : Hid (pl < W3.heap.size ∧ ps < W3.heap.size) := HR3.out.lt
  have HSz : Hid (w.heap.size < W3.heap.size) := lt_of_cell HD3.out.c0
  have HCb : Hid (w.heap.size ≤ W3.heap.size ∧ W3.heap.size ≠ w.heap.size) := by have := HSz.out; exact ⟨by omega, by omega⟩
  have HNc : Hid (W3.heap.size ≠ pl ∧ W3.heap.size ≠ ps) := by have := HL3.out; exact ⟨by omega, by omega⟩
  have hbA : Below W3.heap.size W3 (W3.alloc (.cells #[.int .i64 9, .string ⟨#[]⟩, .int .u32 0, .string ⟨#[]⟩] 40)) := (Below.refl _ _).alloc (Nat.le_refl _) _
  have HR4 : Hid (Rd (W3.alloc (.cells #[.int .i64 9, .string ⟨#[]⟩, .int .u32 0, .string ⟨#[]⟩] 40)) pl ps (t)) := HR3.out.below hbA
  have HB4 : Hid (Bs2 pl ps w (W3.alloc (.cells #[.int .i64 9, .string ⟨#[]⟩, .int .u32 0, .string ⟨#[]⟩] 40))) := HB3.out.trans (Bs2.of_below hbA)
  have HD4 : Hid (C4 (W3.alloc (.cells #[.int .i64 9, .string ⟨#[]⟩, .int .u32 0, .string ⟨#[]⟩] 40)) w.heap.size (.int .i64 0) (.string ⟨#[]⟩) (.int .u32 0) (.string ⟨#[]⟩)) := HD3.out.below hbA
  have HC4 : Hid (C4 (W3.alloc (.cells #[.int .i64 9, .string ⟨#[]⟩, .int .u32 0, .string ⟨#[]⟩] 40)) W3.heap.size (.int .i64 9) (.string ⟨#[]⟩) (.int .u32 0) (.string ⟨#[]⟩)) := C4.new _ 40 _ _ _ _
  clear hbA HL3 HSz HR3 HB3 HD3
  generalize W3.alloc (.cells #[.int .i64 9, .string ⟨#[]⟩, .int .u32 0, .string ⟨#[]⟩] 40) = W4 at *
  generalize W3.heap.size = cb at *
  refine Calls.mono (next_gen pl ps x r t HX.out HT0.out W4 HR4.out (HS.out.bs2 HB4.out).max) ?_
  rintro e W5 ⟨rfl, hr5, hb5⟩
  have HR5 : Hid (_ : Prop) := hr5
  have HB5 : Hid (Bs2 pl ps w W5) := HB4.out.trans hb5
  have HD5 : Hid (_ : Prop) := HD4.out.bs2 hb5 HNl.out.1 HNl.out.2
  have HC5 : Hid (_ : Prop) := HC4.out.bs2 hb5 HNc.out.1 HNc.out.2
  clear hr5 hb5 HR4 HB4 HD4 HC4
  go_wp2_with fail
  refine Calls.mono (adrParse b x HK.out HBb.out W5 (HS.out.bs2 HB5.out).env (HEr.out.below ((HS.out.bs2 HB5.out).b))) ?_
  rintro e W6 ⟨rfl, hb6⟩
  have HR6 : Hid (_ : Prop) := HR5.out.below hb6
  have HB6 : Hid (Bs2 pl ps w W6) := HB5.out.trans (Bs2.of_below hb6)
  have HD6 : Hid (_ : Prop) := HD5.out.below hb6
  have HC6 : Hid (_ : Prop) := HC5.out.below hb6
  clear hb6 HR5 HB5 HD5 HC5
  go_wp2_with fail
  refine Calls.mono (takenS b W6) ?_
  rintro e Wq ⟨rfl, hq⟩
  subst Wq
  obtain ⟨W7, hW7⟩ : ∃ W, W6.setCell ⟨cb, 3, none⟩ (.string b) = W := ⟨_, rfl⟩
  have HR7 : Hid (Rd W7 pl ps (r)) := by unfold Hid; rw [← hW7]; exact HR6.out.set HNc.out.1 HNc.out.2
  have HB7 : Hid (Bs2 pl ps w W7) := by unfold Hid; rw [← hW7]; exact HB6.out.set HCb.out.1
  have HD7 : Hid (C4 W7 w.heap.size (.int .i64 0) (.string ⟨#[]⟩) (.int .u32 0) (.string ⟨#[]⟩)) := by unfold Hid; rw [← hW7]; exact HD6.out.other HCb.out.2
  have HC7 : Hid (C4 W7 cb (.int .i64 9) (.string ⟨#[]⟩) (.int .u32 0) (.string b)) := by unfold Hid; rw [← hW7]; exact HC6.out.set3
  have z0 := HC6.out.c3
  have z1 := HC6.out.f 3
  clear HR6 HB6 HD6 HC6
  have y0 := HC7.out.c0
  have y1 := HC7.out.c1
  have y2 := HC7.out.c2
  have y3 := HC7.out.c3
  have x0 := HD7.out.c0
  have x1 := HD7.out.c1
  have x2 := HD7.out.c2
  have x3 := HD7.out.c3
  have f0 := HD7.out.f 0
  have f1 := HD7.out.f 1
  have f2 := HD7.out.f 2
  have f3 := HD7.out.f 3
  have HF : Hid (C4 ((((W7.setCell ⟨w.heap.size, 0, none⟩ (.int .i64 9)).setCell ⟨w.heap.size, 1, none⟩ (.string ⟨#[]⟩)).setCell ⟨w.heap.size, 2, none⟩ (.int .u32 0)).setCell ⟨w.heap.size, 3, none⟩ (.string b)) w.heap.size (.int .i64 9) (.string ⟨#[]⟩) (.int .u32 0) (.string b)) := HD7.out.set0.set1.set2.set3
  have HLf : Hid (Left w ((((W7.setCell ⟨w.heap.size, 0, none⟩ (.int .i64 9)).setCell ⟨w.heap.size, 1, none⟩ (.string ⟨#[]⟩)).setCell ⟨w.heap.size, 2, none⟩ (.int .u32 0)).setCell ⟨w.heap.size, 3, none⟩ (.string b)) pl ps r) := ⟨(((HR7.out.set HNl.out.1 HNl.out.2).set HNl.out.1 HNl.out.2).set HNl.out.1 HNl.out.2).set HNl.out.1 HNl.out.2, (((HB7.out.set (Nat.le_refl _)).set (Nat.le_refl _)).set (Nat.le_refl _)).set (Nat.le_refl _)⟩
  go_wp2_with fail
  generalize ((((W7.setCell ⟨w.heap.size, 0, none⟩ (.int .i64 9)).setCell ⟨w.heap.size, 1, none⟩ (.string ⟨#[]⟩)).setCell ⟨w.heap.size, 2, none⟩ (.int .u32 0)).setCell ⟨w.heap.size, 3, none⟩ (.string b)) = WF at *
  have e0 := HF.out.c0
  have e1 := HF.out.c1
  have e2 := HF.out.c2
  have e3 := HF.out.c3
  refine bodyPost_ret (v := .agg #[.int .i64 9, .string ⟨#[]⟩, .int .u32 0, .string b]) (by simp [results, Tryz.results91, go_sem, e0, e1, e2, e3]) rfl ?_
  exact ⟨rfl, HLf.out⟩
set_option maxHeartbeats 2000000 in
theorem ra9x (x : List UInt8) (t r : List (List UInt8)) (hx : t.headD [32] = x) (htr : t.tail = r) (pl ps : Nat) (W0 w : World) (hk : ∀ b : ByteArray, (b.size = 4 ∨ b.size = 16) → ¬ (x = adT b)) (hxl : x.length < 140737488351233) (hEr : ErrsAt W0) (h0 : Std0 W0 w pl ps) (hr : Rd w pl ps ([110, 101, 120, 116] :: t)) : Calls Tryz.prog 91 #[clo pl ps] w fun e w' => Pan w w' pl ps e := by
  have hl := hr.lt
  obtain ⟨W1, hW1⟩ : ∃ W1, w.alloc (.cells #[.int .i64 0, .string ⟨#[]⟩, .int .u32 0, .string ⟨#[]⟩] 40) = W1 := ⟨_, rfl⟩
  have bb1 : Below w.heap.size w W1 := by rw [← hW1]; exact (Below.refl _ _).alloc (Nat.le_refl _) _
  have hlt : w.heap.size < W1.heap.size := by rw [← hW1]; simp
  have b1 : Bs2 pl ps w W1 := Bs2.of_below bb1
  have r1 : Rd W1 pl ps ([110, 101, 120, 116] :: t) := hr.below bb1
  have d1 : C4 W1 w.heap.size (.int .i64 0) (.string ⟨#[]⟩) (.int .u32 0) (.string ⟨#[]⟩) := by rw [← hW1]; exact C4.new w 40 _ _ _ _
  have HNl : Hid (w.heap.size ≠ pl ∧ w.heap.size ≠ ps) := ⟨by omega, by omega⟩
  have HS : Hid (Std0 W0 w pl ps) := h0
  have HB1 : Hid (Bs2 pl ps w W1) := b1
  have HR1 : Hid (Rd W1 pl ps ([110, 101, 120, 116] :: t)) := r1
  have HD1 : Hid (C4 W1 w.heap.size _ _ _ _) := d1
  have HLt : Hid (w.heap.size < W1.heap.size) := hlt
  have HX : Hid (t.headD [32] = x) := hx
  have HT0 : Hid (t.tail = r) := htr
  have HK : Hid (∀ b : ByteArray, (b.size = 4 ∨ b.size = 16) → ¬ (x = adT b)) := hk
  have HXl : Hid (x.length < 140737488351233) := hxl
  have HEr : Hid (ErrsAt W0) := hEr
  clear h0 hr hl bb1 b1 r1 d1 hlt hx htr hk hxl hEr
  unfold clo
  go_enter Tryz.func91, Tryz.ntmps91
  go_wp2_with fail
  have HRl : Hid (pl < W1.heap.size ∧ ps < W1.heap.size) := HR1.out.lt
  refine Calls.mono (aw_any W1) ?_
  rintro e W2 ⟨rfl, ht2⟩
  have hb2 := ht2.2
  have HT : Hid (∀ q, q < awL.length → W2.cell? ⟨W1.heap.size, q, none⟩ = some (.string ⟨(awL.getD q []).toArray⟩)) := ht2.1
  clear ht2
  have HR2 : Hid (_ : Prop) := HR1.out.below hb2
  have HB2 : Hid (Bs2 pl ps w W2) := HB1.out.trans (Bs2.of_below hb2)
  have HD2 : Hid (_ : Prop) := HD1.out.below hb2
  clear hb2 HR1 HB1 HD1
  have HTl : Hid (W1.heap.size ≠ pl ∧ W1.heap.size ≠ ps) := ⟨by have := HRl.out; omega, by have := HRl.out; omega⟩
  go_wp2_with fail
  refine Calls.mono (next_yes pl ps [110, 101, 120, 116] _ W2 HR2.out (HS.out.bs2 HB2.out).max) ?_
  rintro e W3 ⟨rfl, hr3, hb3⟩
  have HR3 : Hid (_ : Prop) := hr3
  have HB3 : Hid (Bs2 pl ps w W3) := HB2.out.trans hb3
  have HD3 : Hid (_ : Prop) := HD2.out.bs2 hb3 HNl.out.1 HNl.out.2
  have HT2 : Hid (∀ q, q < awL.length → W3.cell? ⟨W1.heap.size, q, none⟩ = some (.string ⟨(awL.getD q []).toArray⟩)) := fun q hq => hb3.cell (HT.out q hq) HTl.out.1 HTl.out.2
  clear hr3 hb3 HR2 HB2 HD2
  go_wp2_with fail
  refine Calls.mono (place_yes W1.heap.size 11 awL [110, 101, 120, 116] 9 W3 rfl (by decide) (by decide) (by decide) HT2.out) ?_
  rintro e Wq ⟨rfl, hq⟩
  subst Wq
  clear HT HT2 HRl HTl
  go_wp2_with fail
  have HL3 : Hid (pl < W3.heap.size ∧ ps < W3.heap.size) := HR3.out.lt
  have HSz : Hid (w.heap.size < W3.heap.size) := lt_of_cell HD3.out.c0
  have HCb : Hid (w.heap.size ≤ W3.heap.size ∧ W3.heap.size ≠ w.heap.size) := by have := HSz.out; exact ⟨by omega, by omega⟩
  have HNc : Hid (W3.heap.size ≠ pl ∧ W3.heap.size ≠ ps) := by have := HL3.out; exact ⟨by omega, by omega⟩
  have hbA : Below W3.heap.size W3 (W3.alloc (.cells #[.int .i64 9, .string ⟨#[]⟩, .int .u32 0, .string ⟨#[]⟩] 40)) := (Below.refl _ _).alloc (Nat.le_refl _) _
  have HR4 : Hid (Rd (W3.alloc (.cells #[.int .i64 9, .string ⟨#[]⟩, .int .u32 0, .string ⟨#[]⟩] 40)) pl ps (t)) := HR3.out.below hbA
  have HB4 : Hid (Bs2 pl ps w (W3.alloc (.cells #[.int .i64 9, .string ⟨#[]⟩, .int .u32 0, .string ⟨#[]⟩] 40))) := HB3.out.trans (Bs2.of_below hbA)
  have HD4 : Hid (C4 (W3.alloc (.cells #[.int .i64 9, .string ⟨#[]⟩, .int .u32 0, .string ⟨#[]⟩] 40)) w.heap.size (.int .i64 0) (.string ⟨#[]⟩) (.int .u32 0) (.string ⟨#[]⟩)) := HD3.out.below hbA
  have HC4 : Hid (C4 (W3.alloc (.cells #[.int .i64 9, .string ⟨#[]⟩, .int .u32 0, .string ⟨#[]⟩] 40)) W3.heap.size (.int .i64 9) (.string ⟨#[]⟩) (.int .u32 0) (.string ⟨#[]⟩)) := C4.new _ 40 _ _ _ _
  clear hbA HL3 HSz HR3 HB3 HD3
  generalize W3.alloc (.cells #[.int .i64 9, .string ⟨#[]⟩, .int .u32 0, .string ⟨#[]⟩] 40) = W4 at *
  generalize W3.heap.size = cb at *
  refine Calls.mono (next_gen pl ps x r t HX.out HT0.out W4 HR4.out (HS.out.bs2 HB4.out).max) ?_
  rintro e W5 ⟨rfl, hr5, hb5⟩
  have HR5 : Hid (_ : Prop) := hr5
  have HB5 : Hid (Bs2 pl ps w W5) := HB4.out.trans hb5
  have HD5 : Hid (_ : Prop) := HD4.out.bs2 hb5 HNl.out.1 HNl.out.2
  have HC5 : Hid (_ : Prop) := HC4.out.bs2 hb5 HNc.out.1 HNc.out.2
  clear hr5 hb5 HR4 HB4 HD4 HC4
  go_wp2_with fail
  refine Calls.mono (adrParse_no x HK.out HXl.out W5 (HS.out.bs2 HB5.out).env (HEr.out.below ((HS.out.bs2 HB5.out).b))) ?_
  rintro e W6 ⟨rfl, hb6⟩
  have HB6 : Hid (Bs2 pl ps w W6) := HB5.out.trans (Bs2.of_below hb6)
  clear hb6
  go_wp2_with fail
  refine Calls.mono (takenS_no ⟨#[]⟩ 4 rfl W6) ?_
  rintro e Wq ⟨rfl, hq⟩
  subst Wq
  have HZ : Hid (Pan w W6 pl ps (.panicked PAN)) := ⟨rfl, HB6.out⟩
  go_wp2_with fail
  exact ⟨rfl, HZ.out⟩
end Go.Proofs.YthaebbmekonacaaGreatDoor
