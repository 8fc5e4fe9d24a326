/-
  Conditions read, whatever the words are.
-/
import Derived.Test.YthaebbmekonacaaGreatDoorRX
set_option linter.unusedVariables false
set_option linter.unusedSimpArgs false
set_option maxRecDepth 100000
namespace Go.Proofs.YthaebbmekonacaaGreatDoor
open Go.RowKit
set_option maxHeartbeats 2000000 in
theorem rc1 (x : List UInt8) (t r : List (List UInt8)) (hx : t.headD [32] = x) (htr : t.tail = r) (pl ps : Nat) (W0 w : World) (h0 : Std0 W0 w pl ps) (hr : Rd w pl ps ([112, 114, 101, 102, 105, 120] :: t)) : Calls Tryz.prog 88 #[clo pl ps] w fun e w' => e = .returned (cdV ⟨1, false, ⟨x.toArray⟩, 0⟩) ∧ Left w w' pl ps r := by
  have hl := hr.lt
  obtain ⟨W1, hW1⟩ : ∃ W1, (w.alloc (.cells #[.int .i64 0, .bool false, .string ⟨#[]⟩, .int .i64 0] 37)).alloc (.cells #[.int .i64 0, .bool false, .string ⟨#[]⟩, .int .i64 0] 37) = W1 := ⟨_, rfl⟩
  have hsz : (w.alloc (.cells #[.int .i64 0, .bool false, .string ⟨#[]⟩, .int .i64 0] 37)).heap.size = w.heap.size + 1 := by simp
  have bb1 : Below w.heap.size w W1 := by rw [← hW1]; exact ((Below.refl _ _).alloc (Nat.le_refl _) _).alloc (by rw [hsz]; omega) _
  have b1 : Bs2 pl ps w W1 := Bs2.of_below bb1
  have r1 : Rd W1 pl ps ([112, 114, 101, 102, 105, 120] :: t) := hr.below bb1
  have d1 : C4 W1 w.heap.size (.int .i64 0) (.bool false) (.string ⟨#[]⟩) (.int .i64 0) := by rw [← hW1]; exact (C4.new w 37 _ _ _ _).below ((Below.refl _ _).alloc (Nat.le_refl _) _)
  have c1 : C4 W1 (w.heap.size + 1) (.int .i64 0) (.bool false) (.string ⟨#[]⟩) (.int .i64 0) := by rw [← hW1, ← hsz]; exact C4.new _ 37 _ _ _ _
  have nl : w.heap.size ≠ pl ∧ w.heap.size ≠ ps ∧ w.heap.size + 1 ≠ pl ∧ w.heap.size + 1 ≠ ps := ⟨by omega, by omega, by omega, by omega⟩
  have HS : Hid (Std0 W0 w pl ps) := h0
  have HNl : Hid (_ ∧ _) := nl
  have HB1 : Hid (Bs2 pl ps w W1) := b1
  have HR1 : Hid (Rd W1 pl ps ([112, 114, 101, 102, 105, 120] :: t)) := r1
  have HD1 : Hid (C4 W1 w.heap.size _ _ _ _) := d1
  have HC1 : Hid (C4 W1 (w.heap.size + 1) _ _ _ _) := c1
  have HX : Hid (t.headD [32] = x) := hx
  have HT0 : Hid (t.tail = r) := htr
  clear h0 hr hl hsz bb1 b1 r1 d1 c1 nl hx htr
  unfold clo
  go_enter Tryz.func88, Tryz.ntmps88
  go_wp2_with fail
  refine Calls.mono (next_yes pl ps [112, 114, 101, 102, 105, 120] _ W1 HR1.out (HS.out.bs2 HB1.out).max) ?_
  rintro e W2 ⟨rfl, hr2, hb2⟩
  have HR2 : Hid (_ : Prop) := hr2
  have HB2 : Hid (Bs2 pl ps w W2) := HB1.out.trans hb2
  have HD2 : Hid (_ : Prop) := HD1.out.bs2 hb2 HNl.out.1 HNl.out.2.1
  have HC2 : Hid (_ : Prop) := HC1.out.bs2 hb2 HNl.out.2.2.1 HNl.out.2.2.2
  clear hr2 hb2 HR1 HB1 HD1 HC1
  go_wp2_with fail
  try clear z0 z1
  refine Calls.mono (cw_any W2) ?_
  rintro e W3 ⟨rfl, ht3⟩
  have hb3 := ht3.2
  have HT : Hid (∀ q, q < cwL.length → W3.cell? ⟨W2.heap.size, q, none⟩ = some (.string ⟨(cwL.getD q []).toArray⟩)) := ht3.1
  clear ht3
  have HR3 : Hid (_ : Prop) := HR2.out.below hb3
  have HB3 : Hid (Bs2 pl ps w W3) := HB2.out.trans (Bs2.of_below hb3)
  have HD3 : Hid (_ : Prop) := HD2.out.below hb3
  have HC3 : Hid (_ : Prop) := HC2.out.below hb3
  clear hb3 HR2 HB2 HD2 HC2
  go_wp2_with fail
  refine Calls.mono (place_yes W2.heap.size 8 cwL [112, 114, 101, 102, 105, 120] 1 W3 rfl (by decide) (by decide) (by decide) HT.out) ?_
  rintro e Wq ⟨rfl, hq⟩
  subst Wq
  clear HT
  obtain ⟨W4, hW4⟩ : ∃ W, W3.setCell ⟨w.heap.size + 1, 0, none⟩ (.int .i64 1) = W := ⟨_, rfl⟩
  have HR4 : Hid (Rd W4 pl ps (t)) := by unfold Hid; rw [← hW4]; exact HR3.out.set HNl.out.2.2.1 HNl.out.2.2.2
  have HB4 : Hid (Bs2 pl ps w W4) := by unfold Hid; rw [← hW4]; exact HB3.out.set (by omega)
  have HD4 : Hid (C4 W4 w.heap.size (.int .i64 0) (.bool false) (.string ⟨#[]⟩) (.int .i64 0)) := by unfold Hid; rw [← hW4]; exact HD3.out.other (by omega)
  have HC4 : Hid (C4 W4 (w.heap.size + 1) (.int .i64 1) (.bool false) (.string ⟨#[]⟩) (.int .i64 0)) := by unfold Hid; rw [← hW4]; exact HC3.out.set0
  have z0 := HC3.out.c0
  have z1 := HC3.out.f 0
  clear HR3 HB3 HD3 HC3
  have y0 := HC4.out.c0
  go_wp2_with fail
  clear z0 z1 y0
  refine Calls.mono (next_gen pl ps x r t HX.out HT0.out W4 HR4.out (HS.out.bs2 HB4.out).max) ?_
  rintro e W5 ⟨rfl, hr5, hb5⟩
  have HR5 : Hid (_ : Prop) := hr5
  have HB5 : Hid (Bs2 pl ps w W5) := HB4.out.trans hb5
  have HD5 : Hid (_ : Prop) := HD4.out.bs2 hb5 HNl.out.1 HNl.out.2.1
  have HC5 : Hid (_ : Prop) := HC4.out.bs2 hb5 HNl.out.2.2.1 HNl.out.2.2.2
  clear hr5 hb5 HR4 HB4 HD4 HC4
  obtain ⟨W6, hW6⟩ : ∃ W, W5.setCell ⟨w.heap.size + 1, 2, none⟩ (.string ⟨x.toArray⟩) = W := ⟨_, rfl⟩
  have HR6 : Hid (Rd W6 pl ps (r)) := by unfold Hid; rw [← hW6]; exact HR5.out.set HNl.out.2.2.1 HNl.out.2.2.2
  have HB6 : Hid (Bs2 pl ps w W6) := by unfold Hid; rw [← hW6]; exact HB5.out.set (by omega)
  have HD6 : Hid (C4 W6 w.heap.size (.int .i64 0) (.bool false) (.string ⟨#[]⟩) (.int .i64 0)) := by unfold Hid; rw [← hW6]; exact HD5.out.other (by omega)
  have HC6 : Hid (C4 W6 (w.heap.size + 1) (.int .i64 1) (.bool false) (.string ⟨x.toArray⟩) (.int .i64 0)) := by unfold Hid; rw [← hW6]; exact HC5.out.set2
  have z0 := HC5.out.c2
  have z1 := HC5.out.f 2
  clear HR5 HB5 HD5 HC5
  have y0 := HC6.out.c0
  have y1 := HC6.out.c1
  have y2 := HC6.out.c2
  have y3 := HC6.out.c3
  have x0 := HD6.out.c0
  have x1 := HD6.out.c1
  have x2 := HD6.out.c2
  have x3 := HD6.out.c3
  have f0 := HD6.out.f 0
  have f1 := HD6.out.f 1
  have f2 := HD6.out.f 2
  have f3 := HD6.out.f 3
  have HF : Hid (C4 ((((W6.setCell ⟨w.heap.size, 0, none⟩ (.int .i64 1)).setCell ⟨w.heap.size, 1, none⟩ (.bool false)).setCell ⟨w.heap.size, 2, none⟩ (.string ⟨x.toArray⟩)).setCell ⟨w.heap.size, 3, none⟩ (.int .i64 0)) w.heap.size (.int .i64 1) (.bool false) (.string ⟨x.toArray⟩) (.int .i64 0)) := HD6.out.set0.set1.set2.set3
  have HLf : Hid (Left w ((((W6.setCell ⟨w.heap.size, 0, none⟩ (.int .i64 1)).setCell ⟨w.heap.size, 1, none⟩ (.bool false)).setCell ⟨w.heap.size, 2, none⟩ (.string ⟨x.toArray⟩)).setCell ⟨w.heap.size, 3, none⟩ (.int .i64 0)) pl ps r) := ⟨(((HR6.out.set HNl.out.1 HNl.out.2.1).set HNl.out.1 HNl.out.2.1).set HNl.out.1 HNl.out.2.1).set HNl.out.1 HNl.out.2.1, (((HB6.out.set (Nat.le_refl _)).set (Nat.le_refl _)).set (Nat.le_refl _)).set (Nat.le_refl _)⟩
  go_wp2_with fail
  generalize ((((W6.setCell ⟨w.heap.size, 0, none⟩ (.int .i64 1)).setCell ⟨w.heap.size, 1, none⟩ (.bool false)).setCell ⟨w.heap.size, 2, none⟩ (.string ⟨x.toArray⟩)).setCell ⟨w.heap.size, 3, none⟩ (.int .i64 0)) = WF at *
  have e0 := HF.out.c0
  have e1 := HF.out.c1
  have e2 := HF.out.c2
  have e3 := HF.out.c3
  refine bodyPost_ret (v := .agg #[.int .i64 1, .bool false, .string ⟨x.toArray⟩, .int .i64 0]) (by simp [results, Tryz.results88, go_sem, e0, e1, e2, e3]) rfl ?_
  exact ⟨rfl, HLf.out⟩
set_option maxHeartbeats 2000000 in
theorem rc1n (x : List UInt8) (t r : List (List UInt8)) (hx : t.headD [32] = x) (htr : t.tail = r) (pl ps : Nat) (W0 w : World) (h0 : Std0 W0 w pl ps) (hr : Rd w pl ps ([110, 111, 116] :: [112, 114, 101, 102, 105, 120] :: t)) : Calls Tryz.prog 88 #[clo pl ps] w fun e w' => e = .returned (cdV ⟨1, true, ⟨x.toArray⟩, 0⟩) ∧ Left w w' pl ps r := by
  have hl := hr.lt
  obtain ⟨W1, hW1⟩ : ∃ W1, (w.alloc (.cells #[.int .i64 0, .bool false, .string ⟨#[]⟩, .int .i64 0] 37)).alloc (.cells #[.int .i64 0, .bool false, .string ⟨#[]⟩, .int .i64 0] 37) = W1 := ⟨_, rfl⟩
  have hsz : (w.alloc (.cells #[.int .i64 0, .bool false, .string ⟨#[]⟩, .int .i64 0] 37)).heap.size = w.heap.size + 1 := by simp
  have bb1 : Below w.heap.size w W1 := by rw [← hW1]; exact ((Below.refl _ _).alloc (Nat.le_refl _) _).alloc (by rw [hsz]; omega) _
  have b1 : Bs2 pl ps w W1 := Bs2.of_below bb1
  have r1 : Rd W1 pl ps ([110, 111, 116] :: [112, 114, 101, 102, 105, 120] :: t) := hr.below bb1
  have d1 : C4 W1 w.heap.size (.int .i64 0) (.bool false) (.string ⟨#[]⟩) (.int .i64 0) := by rw [← hW1]; exact (C4.new w 37 _ _ _ _).below ((Below.refl _ _).alloc (Nat.le_refl _) _)
  have c1 : C4 W1 (w.heap.size + 1) (.int .i64 0) (.bool false) (.string ⟨#[]⟩) (.int .i64 0) := by rw [← hW1, ← hsz]; exact C4.new _ 37 _ _ _ _
  have nl : w.heap.size ≠ pl ∧ w.heap.size ≠ ps ∧ w.heap.size + 1 ≠ pl ∧ w.heap.size + 1 ≠ ps := ⟨by omega, by omega, by omega, by omega⟩
  have HS : Hid (Std0 W0 w pl ps) := h0
  have HNl : Hid (_ ∧ _) := nl
  have HB1 : Hid (Bs2 pl ps w W1) := b1
  have HR1 : Hid (Rd W1 pl ps ([110, 111, 116] :: [112, 114, 101, 102, 105, 120] :: t)) := r1
  have HD1 : Hid (C4 W1 w.heap.size _ _ _ _) := d1
  have HC1 : Hid (C4 W1 (w.heap.size + 1) _ _ _ _) := c1
  have HX : Hid (t.headD [32] = x) := hx
  have HT0 : Hid (t.tail = r) := htr
  clear h0 hr hl hsz bb1 b1 r1 d1 c1 nl hx htr
  unfold clo
  go_enter Tryz.func88, Tryz.ntmps88
  go_wp2_with fail
  refine Calls.mono (next_yes pl ps [110, 111, 116] _ W1 HR1.out (HS.out.bs2 HB1.out).max) ?_
  rintro e W2 ⟨rfl, hr2, hb2⟩
  have HR2 : Hid (_ : Prop) := hr2
  have HB2 : Hid (Bs2 pl ps w W2) := HB1.out.trans hb2
  have HD2 : Hid (_ : Prop) := HD1.out.bs2 hb2 HNl.out.1 HNl.out.2.1
  have HC2 : Hid (_ : Prop) := HC1.out.bs2 hb2 HNl.out.2.2.1 HNl.out.2.2.2
  clear hr2 hb2 HR1 HB1 HD1 HC1
  go_wp2_with fail
  refine Calls.mono (next_yes pl ps [112, 114, 101, 102, 105, 120] _ W2 HR2.out (HS.out.bs2 HB2.out).max) ?_
  rintro e W3 ⟨rfl, hr3, hb3⟩
  have HR3 : Hid (_ : Prop) := hr3
  have HB3 : Hid (Bs2 pl ps w W3) := HB2.out.trans hb3
  have HD3 : Hid (_ : Prop) := HD2.out.bs2 hb3 HNl.out.1 HNl.out.2.1
  have HC3 : Hid (_ : Prop) := HC2.out.bs2 hb3 HNl.out.2.2.1 HNl.out.2.2.2
  clear hr3 hb3 HR2 HB2 HD2 HC2
  obtain ⟨W4, hW4⟩ : ∃ W, W3.setCell ⟨w.heap.size + 1, 1, none⟩ (.bool true) = W := ⟨_, rfl⟩
  have HR4 : Hid (Rd W4 pl ps (t)) := by unfold Hid; rw [← hW4]; exact HR3.out.set HNl.out.2.2.1 HNl.out.2.2.2
  have HB4 : Hid (Bs2 pl ps w W4) := by unfold Hid; rw [← hW4]; exact HB3.out.set (by omega)
  have HD4 : Hid (C4 W4 w.heap.size (.int .i64 0) (.bool false) (.string ⟨#[]⟩) (.int .i64 0)) := by unfold Hid; rw [← hW4]; exact HD3.out.other (by omega)
  have HC4 : Hid (C4 W4 (w.heap.size + 1) (.int .i64 0) (.bool true) (.string ⟨#[]⟩) (.int .i64 0)) := by unfold Hid; rw [← hW4]; exact HC3.out.set1
  have z0 := HC3.out.c1
  have z1 := HC3.out.f 1
  clear HR3 HB3 HD3 HC3
  go_wp2_with fail
  try clear z0 z1
  refine Calls.mono (cw_any W4) ?_
  rintro e W5 ⟨rfl, ht5⟩
  have hb5 := ht5.2
  have HT : Hid (∀ q, q < cwL.length → W5.cell? ⟨W4.heap.size, q, none⟩ = some (.string ⟨(cwL.getD q []).toArray⟩)) := ht5.1
  clear ht5
  have HR5 : Hid (_ : Prop) := HR4.out.below hb5
  have HB5 : Hid (Bs2 pl ps w W5) := HB4.out.trans (Bs2.of_below hb5)
  have HD5 : Hid (_ : Prop) := HD4.out.below hb5
  have HC5 : Hid (_ : Prop) := HC4.out.below hb5
  clear hb5 HR4 HB4 HD4 HC4
  go_wp2_with fail
  refine Calls.mono (place_yes W4.heap.size 8 cwL [112, 114, 101, 102, 105, 120] 1 W5 rfl (by decide) (by decide) (by decide) HT.out) ?_
  rintro e Wq ⟨rfl, hq⟩
  subst Wq
  clear HT
  obtain ⟨W6, hW6⟩ : ∃ W, W5.setCell ⟨w.heap.size + 1, 0, none⟩ (.int .i64 1) = W := ⟨_, rfl⟩
  have HR6 : Hid (Rd W6 pl ps (t)) := by unfold Hid; rw [← hW6]; exact HR5.out.set HNl.out.2.2.1 HNl.out.2.2.2
  have HB6 : Hid (Bs2 pl ps w W6) := by unfold Hid; rw [← hW6]; exact HB5.out.set (by omega)
  have HD6 : Hid (C4 W6 w.heap.size (.int .i64 0) (.bool false) (.string ⟨#[]⟩) (.int .i64 0)) := by unfold Hid; rw [← hW6]; exact HD5.out.other (by omega)
  have HC6 : Hid (C4 W6 (w.heap.size + 1) (.int .i64 1) (.bool true) (.string ⟨#[]⟩) (.int .i64 0)) := by unfold Hid; rw [← hW6]; exact HC5.out.set0
  have z0 := HC5.out.c0
  have z1 := HC5.out.f 0
  clear HR5 HB5 HD5 HC5
  have y0 := HC6.out.c0
  go_wp2_with fail
  clear z0 z1 y0
  refine Calls.mono (next_gen pl ps x r t HX.out HT0.out W6 HR6.out (HS.out.bs2 HB6.out).max) ?_
  rintro e W7 ⟨rfl, hr7, hb7⟩
  have HR7 : Hid (_ : Prop) := hr7
  have HB7 : Hid (Bs2 pl ps w W7) := HB6.out.trans hb7
  have HD7 : Hid (_ : Prop) := HD6.out.bs2 hb7 HNl.out.1 HNl.out.2.1
  have HC7 : Hid (_ : Prop) := HC6.out.bs2 hb7 HNl.out.2.2.1 HNl.out.2.2.2
  clear hr7 hb7 HR6 HB6 HD6 HC6
  obtain ⟨W8, hW8⟩ : ∃ W, W7.setCell ⟨w.heap.size + 1, 2, none⟩ (.string ⟨x.toArray⟩) = W := ⟨_, rfl⟩
  have HR8 : Hid (Rd W8 pl ps (r)) := by unfold Hid; rw [← hW8]; exact HR7.out.set HNl.out.2.2.1 HNl.out.2.2.2
  have HB8 : Hid (Bs2 pl ps w W8) := by unfold Hid; rw [← hW8]; exact HB7.out.set (by omega)
  have HD8 : Hid (C4 W8 w.heap.size (.int .i64 0) (.bool false) (.string ⟨#[]⟩) (.int .i64 0)) := by unfold Hid; rw [← hW8]; exact HD7.out.other (by omega)
  have HC8 : Hid (C4 W8 (w.heap.size + 1) (.int .i64 1) (.bool true) (.string ⟨x.toArray⟩) (.int .i64 0)) := by unfold Hid; rw [← hW8]; exact HC7.out.set2
  have z0 := HC7.out.c2
  have z1 := HC7.out.f 2
  clear HR7 HB7 HD7 HC7
  have y0 := HC8.out.c0
  have y1 := HC8.out.c1
  have y2 := HC8.out.c2
  have y3 := HC8.out.c3
  have x0 := HD8.out.c0
  have x1 := HD8.out.c1
  have x2 := HD8.out.c2
  have x3 := HD8.out.c3
  have f0 := HD8.out.f 0
  have f1 := HD8.out.f 1
  have f2 := HD8.out.f 2
  have f3 := HD8.out.f 3
  have HF : Hid (C4 ((((W8.setCell ⟨w.heap.size, 0, none⟩ (.int .i64 1)).setCell ⟨w.heap.size, 1, none⟩ (.bool true)).setCell ⟨w.heap.size, 2, none⟩ (.string ⟨x.toArray⟩)).setCell ⟨w.heap.size, 3, none⟩ (.int .i64 0)) w.heap.size (.int .i64 1) (.bool true) (.string ⟨x.toArray⟩) (.int .i64 0)) := HD8.out.set0.set1.set2.set3
  have HLf : Hid (Left w ((((W8.setCell ⟨w.heap.size, 0, none⟩ (.int .i64 1)).setCell ⟨w.heap.size, 1, none⟩ (.bool true)).setCell ⟨w.heap.size, 2, none⟩ (.string ⟨x.toArray⟩)).setCell ⟨w.heap.size, 3, none⟩ (.int .i64 0)) pl ps r) := ⟨(((HR8.out.set HNl.out.1 HNl.out.2.1).set HNl.out.1 HNl.out.2.1).set HNl.out.1 HNl.out.2.1).set HNl.out.1 HNl.out.2.1, (((HB8.out.set (Nat.le_refl _)).set (Nat.le_refl _)).set (Nat.le_refl _)).set (Nat.le_refl _)⟩
  go_wp2_with fail
  generalize ((((W8.setCell ⟨w.heap.size, 0, none⟩ (.int .i64 1)).setCell ⟨w.heap.size, 1, none⟩ (.bool true)).setCell ⟨w.heap.size, 2, none⟩ (.string ⟨x.toArray⟩)).setCell ⟨w.heap.size, 3, none⟩ (.int .i64 0)) = WF at *
  have e0 := HF.out.c0
  have e1 := HF.out.c1
  have e2 := HF.out.c2
  have e3 := HF.out.c3
  refine bodyPost_ret (v := .agg #[.int .i64 1, .bool true, .string ⟨x.toArray⟩, .int .i64 0]) (by simp [results, Tryz.results88, go_sem, e0, e1, e2, e3]) rfl ?_
  exact ⟨rfl, HLf.out⟩
set_option maxHeartbeats 2000000 in
theorem rc2 (x : List UInt8) (t r : List (List UInt8)) (hx : t.headD [32] = x) (htr : t.tail = r) (pl ps : Nat) (W0 w : World) (h0 : Std0 W0 w pl ps) (hr : Rd w pl ps ([99, 111, 109, 109] :: t)) : Calls Tryz.prog 88 #[clo pl ps] w fun e w' => e = .returned (cdV ⟨2, false, ⟨x.toArray⟩, 0⟩) ∧ Left w w' pl ps r := by
  have hl := hr.lt
  obtain ⟨W1, hW1⟩ : ∃ W1, (w.alloc (.cells #[.int .i64 0, .bool false, .string ⟨#[]⟩, .int .i64 0] 37)).alloc (.cells #[.int .i64 0, .bool false, .string ⟨#[]⟩, .int .i64 0] 37) = W1 := ⟨_, rfl⟩
  have hsz : (w.alloc (.cells #[.int .i64 0, .bool false, .string ⟨#[]⟩, .int .i64 0] 37)).heap.size = w.heap.size + 1 := by simp
  have bb1 : Below w.heap.size w W1 := by rw [← hW1]; exact ((Below.refl _ _).alloc (Nat.le_refl _) _).alloc (by rw [hsz]; omega) _
  have b1 : Bs2 pl ps w W1 := Bs2.of_below bb1
  have r1 : Rd W1 pl ps ([99, 111, 109, 109] :: t) := hr.below bb1
  have d1 : C4 W1 w.heap.size (.int .i64 0) (.bool false) (.string ⟨#[]⟩) (.int .i64 0) := by rw [← hW1]; exact (C4.new w 37 _ _ _ _).below ((Below.refl _ _).alloc (Nat.le_refl _) _)
  have c1 : C4 W1 (w.heap.size + 1) (.int .i64 0) (.bool false) (.string ⟨#[]⟩) (.int .i64 0) := by rw [← hW1, ← hsz]; exact C4.new _ 37 _ _ _ _
  have nl : w.heap.size ≠ pl ∧ w.heap.size ≠ ps ∧ w.heap.size + 1 ≠ pl ∧ w.heap.size + 1 ≠ ps := ⟨by omega, by omega, by omega, by omega⟩
  have HS : Hid (Std0 W0 w pl ps) := h0
  have HNl : Hid (_ ∧ _) := nl
  have HB1 : Hid (Bs2 pl ps w W1) := b1
  have HR1 : Hid (Rd W1 pl ps ([99, 111, 109, 109] :: t)) := r1
  have HD1 : Hid (C4 W1 w.heap.size _ _ _ _) := d1
  have HC1 : Hid (C4 W1 (w.heap.size + 1) _ _ _ _) := c1
  have HX : Hid (t.headD [32] = x) := hx
  have HT0 : Hid (t.tail = r) := htr
  clear h0 hr hl hsz bb1 b1 r1 d1 c1 nl hx htr
  unfold clo
  go_enter Tryz.func88, Tryz.ntmps88
  go_wp2_with fail
  refine Calls.mono (next_yes pl ps [99, 111, 109, 109] _ W1 HR1.out (HS.out.bs2 HB1.out).max) ?_
  rintro e W2 ⟨rfl, hr2, hb2⟩
  have HR2 : Hid (_ : Prop) := hr2
  have HB2 : Hid (Bs2 pl ps w W2) := HB1.out.trans hb2
  have HD2 : Hid (_ : Prop) := HD1.out.bs2 hb2 HNl.out.1 HNl.out.2.1
  have HC2 : Hid (_ : Prop) := HC1.out.bs2 hb2 HNl.out.2.2.1 HNl.out.2.2.2
  clear hr2 hb2 HR1 HB1 HD1 HC1
  go_wp2_with fail
  try clear z0 z1
  refine Calls.mono (cw_any W2) ?_
  rintro e W3 ⟨rfl, ht3⟩
  have hb3 := ht3.2
  have HT : Hid (∀ q, q < cwL.length → W3.cell? ⟨W2.heap.size, q, none⟩ = some (.string ⟨(cwL.getD q []).toArray⟩)) := ht3.1
  clear ht3
  have HR3 : Hid (_ : Prop) := HR2.out.below hb3
  have HB3 : Hid (Bs2 pl ps w W3) := HB2.out.trans (Bs2.of_below hb3)
  have HD3 : Hid (_ : Prop) := HD2.out.below hb3
  have HC3 : Hid (_ : Prop) := HC2.out.below hb3
  clear hb3 HR2 HB2 HD2 HC2
  go_wp2_with fail
  refine Calls.mono (place_yes W2.heap.size 8 cwL [99, 111, 109, 109] 2 W3 rfl (by decide) (by decide) (by decide) HT.out) ?_
  rintro e Wq ⟨rfl, hq⟩
  subst Wq
  clear HT
  obtain ⟨W4, hW4⟩ : ∃ W, W3.setCell ⟨w.heap.size + 1, 0, none⟩ (.int .i64 2) = W := ⟨_, rfl⟩
  have HR4 : Hid (Rd W4 pl ps (t)) := by unfold Hid; rw [← hW4]; exact HR3.out.set HNl.out.2.2.1 HNl.out.2.2.2
  have HB4 : Hid (Bs2 pl ps w W4) := by unfold Hid; rw [← hW4]; exact HB3.out.set (by omega)
  have HD4 : Hid (C4 W4 w.heap.size (.int .i64 0) (.bool false) (.string ⟨#[]⟩) (.int .i64 0)) := by unfold Hid; rw [← hW4]; exact HD3.out.other (by omega)
  have HC4 : Hid (C4 W4 (w.heap.size + 1) (.int .i64 2) (.bool false) (.string ⟨#[]⟩) (.int .i64 0)) := by unfold Hid; rw [← hW4]; exact HC3.out.set0
  have z0 := HC3.out.c0
  have z1 := HC3.out.f 0
  clear HR3 HB3 HD3 HC3
  have y0 := HC4.out.c0
  go_wp2_with fail
  clear z0 z1 y0
  refine Calls.mono (next_gen pl ps x r t HX.out HT0.out W4 HR4.out (HS.out.bs2 HB4.out).max) ?_
  rintro e W5 ⟨rfl, hr5, hb5⟩
  have HR5 : Hid (_ : Prop) := hr5
  have HB5 : Hid (Bs2 pl ps w W5) := HB4.out.trans hb5
  have HD5 : Hid (_ : Prop) := HD4.out.bs2 hb5 HNl.out.1 HNl.out.2.1
  have HC5 : Hid (_ : Prop) := HC4.out.bs2 hb5 HNl.out.2.2.1 HNl.out.2.2.2
  clear hr5 hb5 HR4 HB4 HD4 HC4
  obtain ⟨W6, hW6⟩ : ∃ W, W5.setCell ⟨w.heap.size + 1, 2, none⟩ (.string ⟨x.toArray⟩) = W := ⟨_, rfl⟩
  have HR6 : Hid (Rd W6 pl ps (r)) := by unfold Hid; rw [← hW6]; exact HR5.out.set HNl.out.2.2.1 HNl.out.2.2.2
  have HB6 : Hid (Bs2 pl ps w W6) := by unfold Hid; rw [← hW6]; exact HB5.out.set (by omega)
  have HD6 : Hid (C4 W6 w.heap.size (.int .i64 0) (.bool false) (.string ⟨#[]⟩) (.int .i64 0)) := by unfold Hid; rw [← hW6]; exact HD5.out.other (by omega)
  have HC6 : Hid (C4 W6 (w.heap.size + 1) (.int .i64 2) (.bool false) (.string ⟨x.toArray⟩) (.int .i64 0)) := by unfold Hid; rw [← hW6]; exact HC5.out.set2
  have z0 := HC5.out.c2
  have z1 := HC5.out.f 2
  clear HR5 HB5 HD5 HC5
  have y0 := HC6.out.c0
  have y1 := HC6.out.c1
  have y2 := HC6.out.c2
  have y3 := HC6.out.c3
  have x0 := HD6.out.c0
  have x1 := HD6.out.c1
  have x2 := HD6.out.c2
  have x3 := HD6.out.c3
  have f0 := HD6.out.f 0
  have f1 := HD6.out.f 1
  have f2 := HD6.out.f 2
  have f3 := HD6.out.f 3
  have HF : Hid (C4 ((((W6.setCell ⟨w.heap.size, 0, none⟩ (.int .i64 2)).setCell ⟨w.heap.size, 1, none⟩ (.bool false)).setCell ⟨w.heap.size, 2, none⟩ (.string ⟨x.toArray⟩)).setCell ⟨w.heap.size, 3, none⟩ (.int .i64 0)) w.heap.size (.int .i64 2) (.bool false) (.string ⟨x.toArray⟩) (.int .i64 0)) := HD6.out.set0.set1.set2.set3
  have HLf : Hid (Left w ((((W6.setCell ⟨w.heap.size, 0, none⟩ (.int .i64 2)).setCell ⟨w.heap.size, 1, none⟩ (.bool false)).setCell ⟨w.heap.size, 2, none⟩ (.string ⟨x.toArray⟩)).setCell ⟨w.heap.size, 3, none⟩ (.int .i64 0)) pl ps r) := ⟨(((HR6.out.set HNl.out.1 HNl.out.2.1).set HNl.out.1 HNl.out.2.1).set HNl.out.1 HNl.out.2.1).set HNl.out.1 HNl.out.2.1, (((HB6.out.set (Nat.le_refl _)).set (Nat.le_refl _)).set (Nat.le_refl _)).set (Nat.le_refl _)⟩
  go_wp2_with fail
  generalize ((((W6.setCell ⟨w.heap.size, 0, none⟩ (.int .i64 2)).setCell ⟨w.heap.size, 1, none⟩ (.bool false)).setCell ⟨w.heap.size, 2, none⟩ (.string ⟨x.toArray⟩)).setCell ⟨w.heap.size, 3, none⟩ (.int .i64 0)) = WF at *
  have e0 := HF.out.c0
  have e1 := HF.out.c1
  have e2 := HF.out.c2
  have e3 := HF.out.c3
  refine bodyPost_ret (v := .agg #[.int .i64 2, .bool false, .string ⟨x.toArray⟩, .int .i64 0]) (by simp [results, Tryz.results88, go_sem, e0, e1, e2, e3]) rfl ?_
  exact ⟨rfl, HLf.out⟩
set_option maxHeartbeats 2000000 in
theorem rc2n (x : List UInt8) (t r : List (List UInt8)) (hx : t.headD [32] = x) (htr : t.tail = r) (pl ps : Nat) (W0 w : World) (h0 : Std0 W0 w pl ps) (hr : Rd w pl ps ([110, 111, 116] :: [99, 111, 109, 109] :: t)) : Calls Tryz.prog 88 #[clo pl ps] w fun e w' => e = .returned (cdV ⟨2, true, ⟨x.toArray⟩, 0⟩) ∧ Left w w' pl ps r := by
  have hl := hr.lt
  obtain ⟨W1, hW1⟩ : ∃ W1, (w.alloc (.cells #[.int .i64 0, .bool false, .string ⟨#[]⟩, .int .i64 0] 37)).alloc (.cells #[.int .i64 0, .bool false, .string ⟨#[]⟩, .int .i64 0] 37) = W1 := ⟨_, rfl⟩
  have hsz : (w.alloc (.cells #[.int .i64 0, .bool false, .string ⟨#[]⟩, .int .i64 0] 37)).heap.size = w.heap.size + 1 := by simp
  have bb1 : Below w.heap.size w W1 := by rw [← hW1]; exact ((Below.refl _ _).alloc (Nat.le_refl _) _).alloc (by rw [hsz]; omega) _
  have b1 : Bs2 pl ps w W1 := Bs2.of_below bb1
  have r1 : Rd W1 pl ps ([110, 111, 116] :: [99, 111, 109, 109] :: t) := hr.below bb1
  have d1 : C4 W1 w.heap.size (.int .i64 0) (.bool false) (.string ⟨#[]⟩) (.int .i64 0) := by rw [← hW1]; exact (C4.new w 37 _ _ _ _).below ((Below.refl _ _).alloc (Nat.le_refl _) _)
  have c1 : C4 W1 (w.heap.size + 1) (.int .i64 0) (.bool false) (.string ⟨#[]⟩) (.int .i64 0) := by rw [← hW1, ← hsz]; exact C4.new _ 37 _ _ _ _
  have nl : w.heap.size ≠ pl ∧ w.heap.size ≠ ps ∧ w.heap.size + 1 ≠ pl ∧ w.heap.size + 1 ≠ ps := ⟨by omega, by omega, by omega, by omega⟩
  have HS : Hid (Std0 W0 w pl ps) := h0
  have HNl : Hid (_ ∧ _) := nl
  have HB1 : Hid (Bs2 pl ps w W1) := b1
  have HR1 : Hid (Rd W1 pl ps ([110, 111, 116] :: [99, 111, 109, 109] :: t)) := r1
  have HD1 : Hid (C4 W1 w.heap.size _ _ _ _) := d1
  have HC1 : Hid (C4 W1 (w.heap.size + 1) _ _ _ _) := c1
  have HX : Hid (t.headD [32] = x) := hx
  have HT0 : Hid (t.tail = r) := htr
  clear h0 hr hl hsz bb1 b1 r1 d1 c1 nl hx htr
  unfold clo
  go_enter Tryz.func88, Tryz.ntmps88
  go_wp2_with fail
  refine Calls.mono (next_yes pl ps [110, 111, 116] _ W1 HR1.out (HS.out.bs2 HB1.out).max) ?_
  rintro e W2 ⟨rfl, hr2, hb2⟩
  have HR2 : Hid (_ : Prop) := hr2
  have HB2 : Hid (Bs2 pl ps w W2) := HB1.out.trans hb2
  have HD2 : Hid (_ : Prop) := HD1.out.bs2 hb2 HNl.out.1 HNl.out.2.1
  have HC2 : Hid (_ : Prop) := HC1.out.bs2 hb2 HNl.out.2.2.1 HNl.out.2.2.2
  clear hr2 hb2 HR1 HB1 HD1 HC1
  go_wp2_with fail
  refine Calls.mono (next_yes pl ps [99, 111, 109, 109] _ W2 HR2.out (HS.out.bs2 HB2.out).max) ?_
  rintro e W3 ⟨rfl, hr3, hb3⟩
  have HR3 : Hid (_ : Prop) := hr3
  have HB3 : Hid (Bs2 pl ps w W3) := HB2.out.trans hb3
  have HD3 : Hid (_ : Prop) := HD2.out.bs2 hb3 HNl.out.1 HNl.out.2.1
  have HC3 : Hid (_ : Prop) := HC2.out.bs2 hb3 HNl.out.2.2.1 HNl.out.2.2.2
  clear hr3 hb3 HR2 HB2 HD2 HC2
  obtain ⟨W4, hW4⟩ : ∃ W, W3.setCell ⟨w.heap.size + 1, 1, none⟩ (.bool true) = W := ⟨_, rfl⟩
  have HR4 : Hid (Rd W4 pl ps (t)) := by unfold Hid; rw [← hW4]; exact HR3.out.set HNl.out.2.2.1 HNl.out.2.2.2
  have HB4 : Hid (Bs2 pl ps w W4) := by unfold Hid; rw [← hW4]; exact HB3.out.set (by omega)
  have HD4 : Hid (C4 W4 w.heap.size (.int .i64 0) (.bool false) (.string ⟨#[]⟩) (.int .i64 0)) := by unfold Hid; rw [← hW4]; exact HD3.out.other (by omega)
  have HC4 : Hid (C4 W4 (w.heap.size + 1) (.int .i64 0) (.bool true) (.string ⟨#[]⟩) (.int .i64 0)) := by unfold Hid; rw [← hW4]; exact HC3.out.set1
  have z0 := HC3.out.c1
  have z1 := HC3.out.f 1
  clear HR3 HB3 HD3 HC3
  go_wp2_with fail
  try clear z0 z1
  refine Calls.mono (cw_any W4) ?_
  rintro e W5 ⟨rfl, ht5⟩
  have hb5 := ht5.2
  have HT : Hid (∀ q, q < cwL.length → W5.cell? ⟨W4.heap.size, q, none⟩ = some (.string ⟨(cwL.getD q []).toArray⟩)) := ht5.1
  clear ht5
  have HR5 : Hid (_ : Prop) := HR4.out.below hb5
  have HB5 : Hid (Bs2 pl ps w W5) := HB4.out.trans (Bs2.of_below hb5)
  have HD5 : Hid (_ : Prop) := HD4.out.below hb5
  have HC5 : Hid (_ : Prop) := HC4.out.below hb5
  clear hb5 HR4 HB4 HD4 HC4
  go_wp2_with fail
  refine Calls.mono (place_yes W4.heap.size 8 cwL [99, 111, 109, 109] 2 W5 rfl (by decide) (by decide) (by decide) HT.out) ?_
  rintro e Wq ⟨rfl, hq⟩
  subst Wq
  clear HT
  obtain ⟨W6, hW6⟩ : ∃ W, W5.setCell ⟨w.heap.size + 1, 0, none⟩ (.int .i64 2) = W := ⟨_, rfl⟩
  have HR6 : Hid (Rd W6 pl ps (t)) := by unfold Hid; rw [← hW6]; exact HR5.out.set HNl.out.2.2.1 HNl.out.2.2.2
  have HB6 : Hid (Bs2 pl ps w W6) := by unfold Hid; rw [← hW6]; exact HB5.out.set (by omega)
  have HD6 : Hid (C4 W6 w.heap.size (.int .i64 0) (.bool false) (.string ⟨#[]⟩) (.int .i64 0)) := by unfold Hid; rw [← hW6]; exact HD5.out.other (by omega)
  have HC6 : Hid (C4 W6 (w.heap.size + 1) (.int .i64 2) (.bool true) (.string ⟨#[]⟩) (.int .i64 0)) := by unfold Hid; rw [← hW6]; exact HC5.out.set0
  have z0 := HC5.out.c0
  have z1 := HC5.out.f 0
  clear HR5 HB5 HD5 HC5
  have y0 := HC6.out.c0
  go_wp2_with fail
  clear z0 z1 y0
  refine Calls.mono (next_gen pl ps x r t HX.out HT0.out W6 HR6.out (HS.out.bs2 HB6.out).max) ?_
  rintro e W7 ⟨rfl, hr7, hb7⟩
  have HR7 : Hid (_ : Prop) := hr7
  have HB7 : Hid (Bs2 pl ps w W7) := HB6.out.trans hb7
  have HD7 : Hid (_ : Prop) := HD6.out.bs2 hb7 HNl.out.1 HNl.out.2.1
  have HC7 : Hid (_ : Prop) := HC6.out.bs2 hb7 HNl.out.2.2.1 HNl.out.2.2.2
  clear hr7 hb7 HR6 HB6 HD6 HC6
  obtain ⟨W8, hW8⟩ : ∃ W, W7.setCell ⟨w.heap.size + 1, 2, none⟩ (.string ⟨x.toArray⟩) = W := ⟨_, rfl⟩
  have HR8 : Hid (Rd W8 pl ps (r)) := by unfold Hid; rw [← hW8]; exact HR7.out.set HNl.out.2.2.1 HNl.out.2.2.2
  have HB8 : Hid (Bs2 pl ps w W8) := by unfold Hid; rw [← hW8]; exact HB7.out.set (by omega)
  have HD8 : Hid (C4 W8 w.heap.size (.int .i64 0) (.bool false) (.string ⟨#[]⟩) (.int .i64 0)) := by unfold Hid; rw [← hW8]; exact HD7.out.other (by omega)
  have HC8 : Hid (C4 W8 (w.heap.size + 1) (.int .i64 2) (.bool true) (.string ⟨x.toArray⟩) (.int .i64 0)) := by unfold Hid; rw [← hW8]; exact HC7.out.set2
  have z0 := HC7.out.c2
  have z1 := HC7.out.f 2
  clear HR7 HB7 HD7 HC7
  have y0 := HC8.out.c0
  have y1 := HC8.out.c1
  have y2 := HC8.out.c2
  have y3 := HC8.out.c3
  have x0 := HD8.out.c0
  have x1 := HD8.out.c1
  have x2 := HD8.out.c2
  have x3 := HD8.out.c3
  have f0 := HD8.out.f 0
  have f1 := HD8.out.f 1
  have f2 := HD8.out.f 2
  have f3 := HD8.out.f 3
  have HF : Hid (C4 ((((W8.setCell ⟨w.heap.size, 0, none⟩ (.int .i64 2)).setCell ⟨w.heap.size, 1, none⟩ (.bool true)).setCell ⟨w.heap.size, 2, none⟩ (.string ⟨x.toArray⟩)).setCell ⟨w.heap.size, 3, none⟩ (.int .i64 0)) w.heap.size (.int .i64 2) (.bool true) (.string ⟨x.toArray⟩) (.int .i64 0)) := HD8.out.set0.set1.set2.set3
  have HLf : Hid (Left w ((((W8.setCell ⟨w.heap.size, 0, none⟩ (.int .i64 2)).setCell ⟨w.heap.size, 1, none⟩ (.bool true)).setCell ⟨w.heap.size, 2, none⟩ (.string ⟨x.toArray⟩)).setCell ⟨w.heap.size, 3, none⟩ (.int .i64 0)) pl ps r) := ⟨(((HR8.out.set HNl.out.1 HNl.out.2.1).set HNl.out.1 HNl.out.2.1).set HNl.out.1 HNl.out.2.1).set HNl.out.1 HNl.out.2.1, (((HB8.out.set (Nat.le_refl _)).set (Nat.le_refl _)).set (Nat.le_refl _)).set (Nat.le_refl _)⟩
  go_wp2_with fail
  generalize ((((W8.setCell ⟨w.heap.size, 0, none⟩ (.int .i64 2)).setCell ⟨w.heap.size, 1, none⟩ (.bool true)).setCell ⟨w.heap.size, 2, none⟩ (.string ⟨x.toArray⟩)).setCell ⟨w.heap.size, 3, none⟩ (.int .i64 0)) = WF at *
  have e0 := HF.out.c0
  have e1 := HF.out.c1
  have e2 := HF.out.c2
  have e3 := HF.out.c3
  refine bodyPost_ret (v := .agg #[.int .i64 2, .bool true, .string ⟨x.toArray⟩, .int .i64 0]) (by simp [results, Tryz.results88, go_sem, e0, e1, e2, e3]) rfl ?_
  exact ⟨rfl, HLf.out⟩
set_option maxHeartbeats 2000000 in
theorem rcP (x : List UInt8) (t r : List (List UInt8)) (hx : t.headD [32] = x) (htr : t.tail = r) (pl ps : Nat) (W0 w : World) (hk : plc cwL x = none) (hxn : (x == ([110, 111, 116] : List UInt8)) = false) (h0 : Std0 W0 w pl ps) (hr : Rd w pl ps (t)) : Calls Tryz.prog 88 #[clo pl ps] w fun e w' => Pan w w' pl ps e := by
  have hl := hr.lt
  obtain ⟨W1, hW1⟩ : ∃ W1, (w.alloc (.cells #[.int .i64 0, .bool false, .string ⟨#[]⟩, .int .i64 0] 37)).alloc (.cells #[.int .i64 0, .bool false, .string ⟨#[]⟩, .int .i64 0] 37) = W1 := ⟨_, rfl⟩
  have hsz : (w.alloc (.cells #[.int .i64 0, .bool false, .string ⟨#[]⟩, .int .i64 0] 37)).heap.size = w.heap.size + 1 := by simp
  have bb1 : Below w.heap.size w W1 := by rw [← hW1]; exact ((Below.refl _ _).alloc (Nat.le_refl _) _).alloc (by rw [hsz]; omega) _
  have b1 : Bs2 pl ps w W1 := Bs2.of_below bb1
  have r1 : Rd W1 pl ps (t) := hr.below bb1
  have d1 : C4 W1 w.heap.size (.int .i64 0) (.bool false) (.string ⟨#[]⟩) (.int .i64 0) := by rw [← hW1]; exact (C4.new w 37 _ _ _ _).below ((Below.refl _ _).alloc (Nat.le_refl _) _)
  have c1 : C4 W1 (w.heap.size + 1) (.int .i64 0) (.bool false) (.string ⟨#[]⟩) (.int .i64 0) := by rw [← hW1, ← hsz]; exact C4.new _ 37 _ _ _ _
  have nl : w.heap.size ≠ pl ∧ w.heap.size ≠ ps ∧ w.heap.size + 1 ≠ pl ∧ w.heap.size + 1 ≠ ps := ⟨by omega, by omega, by omega, by omega⟩
  have HS : Hid (Std0 W0 w pl ps) := h0
  have HNl : Hid (_ ∧ _) := nl
  have HB1 : Hid (Bs2 pl ps w W1) := b1
  have HR1 : Hid (Rd W1 pl ps (t)) := r1
  have HD1 : Hid (C4 W1 w.heap.size _ _ _ _) := d1
  have HC1 : Hid (C4 W1 (w.heap.size + 1) _ _ _ _) := c1
  have HX : Hid (t.headD [32] = x) := hx
  have HT0 : Hid (t.tail = r) := htr
  have HK : Hid (_ = _) := hk
  clear h0 hr hl hsz bb1 b1 r1 d1 c1 nl hx htr hk
  unfold clo
  go_enter Tryz.func88, Tryz.ntmps88
  go_wp2_with fail
  refine Calls.mono (next_gen pl ps x r t HX.out HT0.out W1 HR1.out (HS.out.bs2 HB1.out).max) ?_
  rintro e W2 ⟨rfl, hr2, hb2⟩
  have HR2 : Hid (_ : Prop) := hr2
  have HB2 : Hid (Bs2 pl ps w W2) := HB1.out.trans hb2
  have HD2 : Hid (_ : Prop) := HD1.out.bs2 hb2 HNl.out.1 HNl.out.2.1
  have HC2 : Hid (_ : Prop) := HC1.out.bs2 hb2 HNl.out.2.2.1 HNl.out.2.2.2
  clear hr2 hb2 HR1 HB1 HD1 HC1
  go_wp2_with fail
  try clear z0 z1
  refine Calls.mono (cw_any W2) ?_
  rintro e W3 ⟨rfl, ht3⟩
  have hb3 := ht3.2
  have HT : Hid (∀ q, q < cwL.length → W3.cell? ⟨W2.heap.size, q, none⟩ = some (.string ⟨(cwL.getD q []).toArray⟩)) := ht3.1
  clear ht3
  have HR3 : Hid (_ : Prop) := HR2.out.below hb3
  have HB3 : Hid (Bs2 pl ps w W3) := HB2.out.trans (Bs2.of_below hb3)
  have HD3 : Hid (_ : Prop) := HD2.out.below hb3
  have HC3 : Hid (_ : Prop) := HC2.out.below hb3
  clear hb3 HR2 HB2 HD2 HC2
  go_wp2_with fail
  refine Calls.mono (place_none W2.heap.size 8 cwL x W3 rfl (by decide) HK.out HT.out) ?_
  rintro e Wq ⟨rfl, hq⟩
  subst Wq
  have HZ : Hid (Pan w W3 pl ps (.panicked PAN)) := ⟨rfl, HB3.out⟩
  go_wp2_with fail
  exact ⟨rfl, HZ.out⟩
set_option maxHeartbeats 2000000 in
theorem rcPn (x : List UInt8) (t r : List (List UInt8)) (hx : t.headD [32] = x) (htr : t.tail = r) (pl ps : Nat) (W0 w : World) (hk : plc cwL x = none) (h0 : Std0 W0 w pl ps) (hr : Rd w pl ps ([110, 111, 116] :: t)) : Calls Tryz.prog 88 #[clo pl ps] w fun e w' => Pan w w' pl ps e := by
  have hl := hr.lt
  obtain ⟨W1, hW1⟩ : ∃ W1, (w.alloc (.cells #[.int .i64 0, .bool false, .string ⟨#[]⟩, .int .i64 0] 37)).alloc (.cells #[.int .i64 0, .bool false, .string ⟨#[]⟩, .int .i64 0] 37) = W1 := ⟨_, rfl⟩
  have hsz : (w.alloc (.cells #[.int .i64 0, .bool false, .string ⟨#[]⟩, .int .i64 0] 37)).heap.size = w.heap.size + 1 := by simp
  have bb1 : Below w.heap.size w W1 := by rw [← hW1]; exact ((Below.refl _ _).alloc (Nat.le_refl _) _).alloc (by rw [hsz]; omega) _
  have b1 : Bs2 pl ps w W1 := Bs2.of_below bb1
  have r1 : Rd W1 pl ps ([110, 111, 116] :: t) := hr.below bb1
  have d1 : C4 W1 w.heap.size (.int .i64 0) (.bool false) (.string ⟨#[]⟩) (.int .i64 0) := by rw [← hW1]; exact (C4.new w 37 _ _ _ _).below ((Below.refl _ _).alloc (Nat.le_refl _) _)
  have c1 : C4 W1 (w.heap.size + 1) (.int .i64 0) (.bool false) (.string ⟨#[]⟩) (.int .i64 0) := by rw [← hW1, ← hsz]; exact C4.new _ 37 _ _ _ _
  have nl : w.heap.size ≠ pl ∧ w.heap.size ≠ ps ∧ w.heap.size + 1 ≠ pl ∧ w.heap.size + 1 ≠ ps := ⟨by omega, by omega, by omega, by omega⟩
  have HS : Hid (Std0 W0 w pl ps) := h0
  have HNl : Hid (_ ∧ _) := nl
  have HB1 : Hid (Bs2 pl ps w W1) := b1
  have HR1 : Hid (Rd W1 pl ps ([110, 111, 116] :: t)) := r1
  have HD1 : Hid (C4 W1 w.heap.size _ _ _ _) := d1
  have HC1 : Hid (C4 W1 (w.heap.size + 1) _ _ _ _) := c1
  have HX : Hid (t.headD [32] = x) := hx
  have HT0 : Hid (t.tail = r) := htr
  have HK : Hid (_ = _) := hk
  clear h0 hr hl hsz bb1 b1 r1 d1 c1 nl hx htr hk
  unfold clo
  go_enter Tryz.func88, Tryz.ntmps88
  go_wp2_with fail
  refine Calls.mono (next_yes pl ps [110, 111, 116] _ W1 HR1.out (HS.out.bs2 HB1.out).max) ?_
  rintro e W2 ⟨rfl, hr2, hb2⟩
  have HR2 : Hid (_ : Prop) := hr2
  have HB2 : Hid (Bs2 pl ps w W2) := HB1.out.trans hb2
  have HD2 : Hid (_ : Prop) := HD1.out.bs2 hb2 HNl.out.1 HNl.out.2.1
  have HC2 : Hid (_ : Prop) := HC1.out.bs2 hb2 HNl.out.2.2.1 HNl.out.2.2.2
  clear hr2 hb2 HR1 HB1 HD1 HC1
  go_wp2_with fail
  refine Calls.mono (next_gen pl ps x r t HX.out HT0.out W2 HR2.out (HS.out.bs2 HB2.out).max) ?_
  rintro e W3 ⟨rfl, hr3, hb3⟩
  have HR3 : Hid (_ : Prop) := hr3
  have HB3 : Hid (Bs2 pl ps w W3) := HB2.out.trans hb3
  have HD3 : Hid (_ : Prop) := HD2.out.bs2 hb3 HNl.out.1 HNl.out.2.1
  have HC3 : Hid (_ : Prop) := HC2.out.bs2 hb3 HNl.out.2.2.1 HNl.out.2.2.2
  clear hr3 hb3 HR2 HB2 HD2 HC2
  obtain ⟨W4, hW4⟩ : ∃ W, W3.setCell ⟨w.heap.size + 1, 1, none⟩ (.bool true) = W := ⟨_, rfl⟩
  have HR4 : Hid (Rd W4 pl ps (r)) := by unfold Hid; rw [← hW4]; exact HR3.out.set HNl.out.2.2.1 HNl.out.2.2.2
  have HB4 : Hid (Bs2 pl ps w W4) := by unfold Hid; rw [← hW4]; exact HB3.out.set (by omega)
  have HD4 : Hid (C4 W4 w.heap.size (.int .i64 0) (.bool false) (.string ⟨#[]⟩) (.int .i64 0)) := by unfold Hid; rw [← hW4]; exact HD3.out.other (by omega)
  have HC4 : Hid (C4 W4 (w.heap.size + 1) (.int .i64 0) (.bool true) (.string ⟨#[]⟩) (.int .i64 0)) := by unfold Hid; rw [← hW4]; exact HC3.out.set1
  have z0 := HC3.out.c1
  have z1 := HC3.out.f 1
  clear HR3 HB3 HD3 HC3
  go_wp2_with fail
  try clear z0 z1
  refine Calls.mono (cw_any W4) ?_
  rintro e W5 ⟨rfl, ht5⟩
  have hb5 := ht5.2
  have HT : Hid (∀ q, q < cwL.length → W5.cell? ⟨W4.heap.size, q, none⟩ = some (.string ⟨(cwL.getD q []).toArray⟩)) := ht5.1
  clear ht5
  have HR5 : Hid (_ : Prop) := HR4.out.below hb5
  have HB5 : Hid (Bs2 pl ps w W5) := HB4.out.trans (Bs2.of_below hb5)
  have HD5 : Hid (_ : Prop) := HD4.out.below hb5
  have HC5 : Hid (_ : Prop) := HC4.out.below hb5
  clear hb5 HR4 HB4 HD4 HC4
  go_wp2_with fail
  refine Calls.mono (place_none W4.heap.size 8 cwL x W5 rfl (by decide) HK.out HT.out) ?_
  rintro e Wq ⟨rfl, hq⟩
  subst Wq
  have HZ : Hid (Pan w W5 pl ps (.panicked PAN)) := ⟨rfl, HB5.out⟩
  go_wp2_with fail
  exact ⟨rfl, HZ.out⟩
end Go.Proofs.YthaebbmekonacaaGreatDoor
set_option linter.unusedVariables false
set_option linter.unusedSimpArgs false
set_option maxRecDepth 100000
namespace Go.Proofs.YthaebbmekonacaaGreatDoor
open Go.RowKit
set_option maxHeartbeats 2000000 in
theorem rc3 (x : List UInt8) (t r : List (List UInt8)) (hx : t.headD [32] = x) (htr : t.tail = r) (pl ps : Nat) (W0 w : World) (h0 : Std0 W0 w pl ps) (hr : Rd w pl ps ([112, 97, 116, 104] :: t)) : Calls Tryz.prog 88 #[clo pl ps] w fun e w' => e = .returned (cdV ⟨3, false, ⟨x.toArray⟩, 0⟩) ∧ Left w w' pl ps r := by
  have hl := hr.lt
  obtain ⟨W1, hW1⟩ : ∃ W1, (w.alloc (.cells #[.int .i64 0, .bool false, .string ⟨#[]⟩, .int .i64 0] 37)).alloc (.cells #[.int .i64 0, .bool false, .string ⟨#[]⟩, .int .i64 0] 37) = W1 := ⟨_, rfl⟩
  have hsz : (w.alloc (.cells #[.int .i64 0, .bool false, .string ⟨#[]⟩, .int .i64 0] 37)).heap.size = w.heap.size + 1 := by simp
  have bb1 : Below w.heap.size w W1 := by rw [← hW1]; exact ((Below.refl _ _).alloc (Nat.le_refl _) _).alloc (by rw [hsz]; omega) _
  have b1 : Bs2 pl ps w W1 := Bs2.of_below bb1
  have r1 : Rd W1 pl ps ([112, 97, 116, 104] :: t) := hr.below bb1
  have d1 : C4 W1 w.heap.size (.int .i64 0) (.bool false) (.string ⟨#[]⟩) (.int .i64 0) := by rw [← hW1]; exact (C4.new w 37 _ _ _ _).below ((Below.refl _ _).alloc (Nat.le_refl _) _)
  have c1 : C4 W1 (w.heap.size + 1) (.int .i64 0) (.bool false) (.string ⟨#[]⟩) (.int .i64 0) := by rw [← hW1, ← hsz]; exact C4.new _ 37 _ _ _ _
  have nl : w.heap.size ≠ pl ∧ w.heap.size ≠ ps ∧ w.heap.size + 1 ≠ pl ∧ w.heap.size + 1 ≠ ps := ⟨by omega, by omega, by omega, by omega⟩
  have HS : Hid (Std0 W0 w pl ps) := h0
  have HNl : Hid (_ ∧ _) := nl
  have HB1 : Hid (Bs2 pl ps w W1) := b1
  have HR1 : Hid (Rd W1 pl ps ([112, 97, 116, 104] :: t)) := r1
  have HD1 : Hid (C4 W1 w.heap.size _ _ _ _) := d1
  have HC1 : Hid (C4 W1 (w.heap.size + 1) _ _ _ _) := c1
  have HX : Hid (t.headD [32] = x) := hx
  have HT0 : Hid (t.tail = r) := htr
  clear h0 hr hl hsz bb1 b1 r1 d1 c1 nl hx htr
  unfold clo
  go_enter Tryz.func88, Tryz.ntmps88
  go_wp2_with fail
  refine Calls.mono (next_yes pl ps [112, 97, 116, 104] _ W1 HR1.out (HS.out.bs2 HB1.out).max) ?_
  rintro e W2 ⟨rfl, hr2, hb2⟩
  have HR2 : Hid (_ : Prop) := hr2
  have HB2 : Hid (Bs2 pl ps w W2) := HB1.out.trans hb2
  have HD2 : Hid (_ : Prop) := HD1.out.bs2 hb2 HNl.out.1 HNl.out.2.1
  have HC2 : Hid (_ : Prop) := HC1.out.bs2 hb2 HNl.out.2.2.1 HNl.out.2.2.2
  clear hr2 hb2 HR1 HB1 HD1 HC1
  go_wp2_with fail
  try clear z0 z1
  refine Calls.mono (cw_any W2) ?_
  rintro e W3 ⟨rfl, ht3⟩
  have hb3 := ht3.2
  have HT : Hid (∀ q, q < cwL.length → W3.cell? ⟨W2.heap.size, q, none⟩ = some (.string ⟨(cwL.getD q []).toArray⟩)) := ht3.1
  clear ht3
  have HR3 : Hid (_ : Prop) := HR2.out.below hb3
  have HB3 : Hid (Bs2 pl ps w W3) := HB2.out.trans (Bs2.of_below hb3)
  have HD3 : Hid (_ : Prop) := HD2.out.below hb3
  have HC3 : Hid (_ : Prop) := HC2.out.below hb3
  clear hb3 HR2 HB2 HD2 HC2
  go_wp2_with fail
  refine Calls.mono (place_yes W2.heap.size 8 cwL [112, 97, 116, 104] 3 W3 rfl (by decide) (by decide) (by decide) HT.out) ?_
  rintro e Wq ⟨rfl, hq⟩
  subst Wq
  clear HT
  obtain ⟨W4, hW4⟩ : ∃ W, W3.setCell ⟨w.heap.size + 1, 0, none⟩ (.int .i64 3) = W := ⟨_, rfl⟩
  have HR4 : Hid (Rd W4 pl ps (t)) := by unfold Hid; rw [← hW4]; exact HR3.out.set HNl.out.2.2.1 HNl.out.2.2.2
  have HB4 : Hid (Bs2 pl ps w W4) := by unfold Hid; rw [← hW4]; exact HB3.out.set (by omega)
  have HD4 : Hid (C4 W4 w.heap.size (.int .i64 0) (.bool false) (.string ⟨#[]⟩) (.int .i64 0)) := by unfold Hid; rw [← hW4]; exact HD3.out.other (by omega)
  have HC4 : Hid (C4 W4 (w.heap.size + 1) (.int .i64 3) (.bool false) (.string ⟨#[]⟩) (.int .i64 0)) := by unfold Hid; rw [← hW4]; exact HC3.out.set0
  have z0 := HC3.out.c0
  have z1 := HC3.out.f 0
  clear HR3 HB3 HD3 HC3
  have y0 := HC4.out.c0
  go_wp2_with fail
  clear z0 z1 y0
  refine Calls.mono (next_gen pl ps x r t HX.out HT0.out W4 HR4.out (HS.out.bs2 HB4.out).max) ?_
  rintro e W5 ⟨rfl, hr5, hb5⟩
  have HR5 : Hid (_ : Prop) := hr5
  have HB5 : Hid (Bs2 pl ps w W5) := HB4.out.trans hb5
  have HD5 : Hid (_ : Prop) := HD4.out.bs2 hb5 HNl.out.1 HNl.out.2.1
  have HC5 : Hid (_ : Prop) := HC4.out.bs2 hb5 HNl.out.2.2.1 HNl.out.2.2.2
  clear hr5 hb5 HR4 HB4 HD4 HC4
  obtain ⟨W6, hW6⟩ : ∃ W, W5.setCell ⟨w.heap.size + 1, 2, none⟩ (.string ⟨x.toArray⟩) = W := ⟨_, rfl⟩
  have HR6 : Hid (Rd W6 pl ps (r)) := by unfold Hid; rw [← hW6]; exact HR5.out.set HNl.out.2.2.1 HNl.out.2.2.2
  have HB6 : Hid (Bs2 pl ps w W6) := by unfold Hid; rw [← hW6]; exact HB5.out.set (by omega)
  have HD6 : Hid (C4 W6 w.heap.size (.int .i64 0) (.bool false) (.string ⟨#[]⟩) (.int .i64 0)) := by unfold Hid; rw [← hW6]; exact HD5.out.other (by omega)
  have HC6 : Hid (C4 W6 (w.heap.size + 1) (.int .i64 3) (.bool false) (.string ⟨x.toArray⟩) (.int .i64 0)) := by unfold Hid; rw [← hW6]; exact HC5.out.set2
  have z0 := HC5.out.c2
  have z1 := HC5.out.f 2
  clear HR5 HB5 HD5 HC5
  have y0 := HC6.out.c0
  have y1 := HC6.out.c1
  have y2 := HC6.out.c2
  have y3 := HC6.out.c3
  have x0 := HD6.out.c0
  have x1 := HD6.out.c1
  have x2 := HD6.out.c2
  have x3 := HD6.out.c3
  have f0 := HD6.out.f 0
  have f1 := HD6.out.f 1
  have f2 := HD6.out.f 2
  have f3 := HD6.out.f 3
  have HF : Hid (C4 ((((W6.setCell ⟨w.heap.size, 0, none⟩ (.int .i64 3)).setCell ⟨w.heap.size, 1, none⟩ (.bool false)).setCell ⟨w.heap.size, 2, none⟩ (.string ⟨x.toArray⟩)).setCell ⟨w.heap.size, 3, none⟩ (.int .i64 0)) w.heap.size (.int .i64 3) (.bool false) (.string ⟨x.toArray⟩) (.int .i64 0)) := HD6.out.set0.set1.set2.set3
  have HLf : Hid (Left w ((((W6.setCell ⟨w.heap.size, 0, none⟩ (.int .i64 3)).setCell ⟨w.heap.size, 1, none⟩ (.bool false)).setCell ⟨w.heap.size, 2, none⟩ (.string ⟨x.toArray⟩)).setCell ⟨w.heap.size, 3, none⟩ (.int .i64 0)) pl ps r) := ⟨(((HR6.out.set HNl.out.1 HNl.out.2.1).set HNl.out.1 HNl.out.2.1).set HNl.out.1 HNl.out.2.1).set HNl.out.1 HNl.out.2.1, (((HB6.out.set (Nat.le_refl _)).set (Nat.le_refl _)).set (Nat.le_refl _)).set (Nat.le_refl _)⟩
  go_wp2_with fail
  generalize ((((W6.setCell ⟨w.heap.size, 0, none⟩ (.int .i64 3)).setCell ⟨w.heap.size, 1, none⟩ (.bool false)).setCell ⟨w.heap.size, 2, none⟩ (.string ⟨x.toArray⟩)).setCell ⟨w.heap.size, 3, none⟩ (.int .i64 0)) = WF at *
  have e0 := HF.out.c0
  have e1 := HF.out.c1
  have e2 := HF.out.c2
  have e3 := HF.out.c3
  refine bodyPost_ret (v := .agg #[.int .i64 3, .bool false, .string ⟨x.toArray⟩, .int .i64 0]) (by simp [results, Tryz.results88, go_sem, e0, e1, e2, e3]) rfl ?_
  exact ⟨rfl, HLf.out⟩
set_option maxHeartbeats 2000000 in
theorem rc3n (x : List UInt8) (t r : List (List UInt8)) (hx : t.headD [32] = x) (htr : t.tail = r) (pl ps : Nat) (W0 w : World) (h0 : Std0 W0 w pl ps) (hr : Rd w pl ps ([110, 111, 116] :: [112, 97, 116, 104] :: t)) : Calls Tryz.prog 88 #[clo pl ps] w fun e w' => e = .returned (cdV ⟨3, true, ⟨x.toArray⟩, 0⟩) ∧ Left w w' pl ps r := by
  have hl := hr.lt
  obtain ⟨W1, hW1⟩ : ∃ W1, (w.alloc (.cells #[.int .i64 0, .bool false, .string ⟨#[]⟩, .int .i64 0] 37)).alloc (.cells #[.int .i64 0, .bool false, .string ⟨#[]⟩, .int .i64 0] 37) = W1 := ⟨_, rfl⟩
  have hsz : (w.alloc (.cells #[.int .i64 0, .bool false, .string ⟨#[]⟩, .int .i64 0] 37)).heap.size = w.heap.size + 1 := by simp
  have bb1 : Below w.heap.size w W1 := by rw [← hW1]; exact ((Below.refl _ _).alloc (Nat.le_refl _) _).alloc (by rw [hsz]; omega) _
  have b1 : Bs2 pl ps w W1 := Bs2.of_below bb1
  have r1 : Rd W1 pl ps ([110, 111, 116] :: [112, 97, 116, 104] :: t) := hr.below bb1
  have d1 : C4 W1 w.heap.size (.int .i64 0) (.bool false) (.string ⟨#[]⟩) (.int .i64 0) := by rw [← hW1]; exact (C4.new w 37 _ _ _ _).below ((Below.refl _ _).alloc (Nat.le_refl _) _)
  have c1 : C4 W1 (w.heap.size + 1) (.int .i64 0) (.bool false) (.string ⟨#[]⟩) (.int .i64 0) := by rw [← hW1, ← hsz]; exact C4.new _ 37 _ _ _ _
  have nl : w.heap.size ≠ pl ∧ w.heap.size ≠ ps ∧ w.heap.size + 1 ≠ pl ∧ w.heap.size + 1 ≠ ps := ⟨by omega, by omega, by omega, by omega⟩
  have HS : Hid (Std0 W0 w pl ps) := h0
  have HNl : Hid (_ ∧ _) := nl
  have HB1 : Hid (Bs2 pl ps w W1) := b1
  have HR1 : Hid (Rd W1 pl ps ([110, 111, 116] :: [112, 97, 116, 104] :: t)) := r1
  have HD1 : Hid (C4 W1 w.heap.size _ _ _ _) := d1
  have HC1 : Hid (C4 W1 (w.heap.size + 1) _ _ _ _) := c1
  have HX : Hid (t.headD [32] = x) := hx
  have HT0 : Hid (t.tail = r) := htr
  clear h0 hr hl hsz bb1 b1 r1 d1 c1 nl hx htr
  unfold clo
  go_enter Tryz.func88, Tryz.ntmps88
  go_wp2_with fail
  refine Calls.mono (next_yes pl ps [110, 111, 116] _ W1 HR1.out (HS.out.bs2 HB1.out).max) ?_
  rintro e W2 ⟨rfl, hr2, hb2⟩
  have HR2 : Hid (_ : Prop) := hr2
  have HB2 : Hid (Bs2 pl ps w W2) := HB1.out.trans hb2
  have HD2 : Hid (_ : Prop) := HD1.out.bs2 hb2 HNl.out.1 HNl.out.2.1
  have HC2 : Hid (_ : Prop) := HC1.out.bs2 hb2 HNl.out.2.2.1 HNl.out.2.2.2
  clear hr2 hb2 HR1 HB1 HD1 HC1
  go_wp2_with fail
  refine Calls.mono (next_yes pl ps [112, 97, 116, 104] _ W2 HR2.out (HS.out.bs2 HB2.out).max) ?_
  rintro e W3 ⟨rfl, hr3, hb3⟩
  have HR3 : Hid (_ : Prop) := hr3
  have HB3 : Hid (Bs2 pl ps w W3) := HB2.out.trans hb3
  have HD3 : Hid (_ : Prop) := HD2.out.bs2 hb3 HNl.out.1 HNl.out.2.1
  have HC3 : Hid (_ : Prop) := HC2.out.bs2 hb3 HNl.out.2.2.1 HNl.out.2.2.2
  clear hr3 hb3 HR2 HB2 HD2 HC2
  obtain ⟨W4, hW4⟩ : ∃ W, W3.setCell ⟨w.heap.size + 1, 1, none⟩ (.bool true) = W := ⟨_, rfl⟩
  have HR4 : Hid (Rd W4 pl ps (t)) := by unfold Hid; rw [← hW4]; exact HR3.out.set HNl.out.2.2.1 HNl.out.2.2.2
  have HB4 : Hid (Bs2 pl ps w W4) := by unfold Hid; rw [← hW4]; exact HB3.out.set (by omega)
  have HD4 : Hid (C4 W4 w.heap.size (.int .i64 0) (.bool false) (.string ⟨#[]⟩) (.int .i64 0)) := by unfold Hid; rw [← hW4]; exact HD3.out.other (by omega)
  have HC4 : Hid (C4 W4 (w.heap.size + 1) (.int .i64 0) (.bool true) (.string ⟨#[]⟩) (.int .i64 0)) := by unfold Hid; rw [← hW4]; exact HC3.out.set1
  have z0 := HC3.out.c1
  have z1 := HC3.out.f 1
  clear HR3 HB3 HD3 HC3
  go_wp2_with fail
  try clear z0 z1
  refine Calls.mono (cw_any W4) ?_
  rintro e W5 ⟨rfl, ht5⟩
  have hb5 := ht5.2
  have HT : Hid (∀ q, q < cwL.length → W5.cell? ⟨W4.heap.size, q, none⟩ = some (.string ⟨(cwL.getD q []).toArray⟩)) := ht5.1
  clear ht5
  have HR5 : Hid (_ : Prop) := HR4.out.below hb5
  have HB5 : Hid (Bs2 pl ps w W5) := HB4.out.trans (Bs2.of_below hb5)
  have HD5 : Hid (_ : Prop) := HD4.out.below hb5
  have HC5 : Hid (_ : Prop) := HC4.out.below hb5
  clear hb5 HR4 HB4 HD4 HC4
  go_wp2_with fail
  refine Calls.mono (place_yes W4.heap.size 8 cwL [112, 97, 116, 104] 3 W5 rfl (by decide) (by decide) (by decide) HT.out) ?_
  rintro e Wq ⟨rfl, hq⟩
  subst Wq
  clear HT
  obtain ⟨W6, hW6⟩ : ∃ W, W5.setCell ⟨w.heap.size + 1, 0, none⟩ (.int .i64 3) = W := ⟨_, rfl⟩
  have HR6 : Hid (Rd W6 pl ps (t)) := by unfold Hid; rw [← hW6]; exact HR5.out.set HNl.out.2.2.1 HNl.out.2.2.2
  have HB6 : Hid (Bs2 pl ps w W6) := by unfold Hid; rw [← hW6]; exact HB5.out.set (by omega)
  have HD6 : Hid (C4 W6 w.heap.size (.int .i64 0) (.bool false) (.string ⟨#[]⟩) (.int .i64 0)) := by unfold Hid; rw [← hW6]; exact HD5.out.other (by omega)
  have HC6 : Hid (C4 W6 (w.heap.size + 1) (.int .i64 3) (.bool true) (.string ⟨#[]⟩) (.int .i64 0)) := by unfold Hid; rw [← hW6]; exact HC5.out.set0
  have z0 := HC5.out.c0
  have z1 := HC5.out.f 0
  clear HR5 HB5 HD5 HC5
  have y0 := HC6.out.c0
  go_wp2_with fail
  clear z0 z1 y0
  refine Calls.mono (next_gen pl ps x r t HX.out HT0.out W6 HR6.out (HS.out.bs2 HB6.out).max) ?_
  rintro e W7 ⟨rfl, hr7, hb7⟩
  have HR7 : Hid (_ : Prop) := hr7
  have HB7 : Hid (Bs2 pl ps w W7) := HB6.out.trans hb7
  have HD7 : Hid (_ : Prop) := HD6.out.bs2 hb7 HNl.out.1 HNl.out.2.1
  have HC7 : Hid (_ : Prop) := HC6.out.bs2 hb7 HNl.out.2.2.1 HNl.out.2.2.2
  clear hr7 hb7 HR6 HB6 HD6 HC6
  obtain ⟨W8, hW8⟩ : ∃ W, W7.setCell ⟨w.heap.size + 1, 2, none⟩ (.string ⟨x.toArray⟩) = W := ⟨_, rfl⟩
  have HR8 : Hid (Rd W8 pl ps (r)) := by unfold Hid; rw [← hW8]; exact HR7.out.set HNl.out.2.2.1 HNl.out.2.2.2
  have HB8 : Hid (Bs2 pl ps w W8) := by unfold Hid; rw [← hW8]; exact HB7.out.set (by omega)
  have HD8 : Hid (C4 W8 w.heap.size (.int .i64 0) (.bool false) (.string ⟨#[]⟩) (.int .i64 0)) := by unfold Hid; rw [← hW8]; exact HD7.out.other (by omega)
  have HC8 : Hid (C4 W8 (w.heap.size + 1) (.int .i64 3) (.bool true) (.string ⟨x.toArray⟩) (.int .i64 0)) := by unfold Hid; rw [← hW8]; exact HC7.out.set2
  have z0 := HC7.out.c2
  have z1 := HC7.out.f 2
  clear HR7 HB7 HD7 HC7
  have y0 := HC8.out.c0
  have y1 := HC8.out.c1
  have y2 := HC8.out.c2
  have y3 := HC8.out.c3
  have x0 := HD8.out.c0
  have x1 := HD8.out.c1
  have x2 := HD8.out.c2
  have x3 := HD8.out.c3
  have f0 := HD8.out.f 0
  have f1 := HD8.out.f 1
  have f2 := HD8.out.f 2
  have f3 := HD8.out.f 3
  have HF : Hid (C4 ((((W8.setCell ⟨w.heap.size, 0, none⟩ (.int .i64 3)).setCell ⟨w.heap.size, 1, none⟩ (.bool true)).setCell ⟨w.heap.size, 2, none⟩ (.string ⟨x.toArray⟩)).setCell ⟨w.heap.size, 3, none⟩ (.int .i64 0)) w.heap.size (.int .i64 3) (.bool true) (.string ⟨x.toArray⟩) (.int .i64 0)) := HD8.out.set0.set1.set2.set3
  have HLf : Hid (Left w ((((W8.setCell ⟨w.heap.size, 0, none⟩ (.int .i64 3)).setCell ⟨w.heap.size, 1, none⟩ (.bool true)).setCell ⟨w.heap.size, 2, none⟩ (.string ⟨x.toArray⟩)).setCell ⟨w.heap.size, 3, none⟩ (.int .i64 0)) pl ps r) := ⟨(((HR8.out.set HNl.out.1 HNl.out.2.1).set HNl.out.1 HNl.out.2.1).set HNl.out.1 HNl.out.2.1).set HNl.out.1 HNl.out.2.1, (((HB8.out.set (Nat.le_refl _)).set (Nat.le_refl _)).set (Nat.le_refl _)).set (Nat.le_refl _)⟩
  go_wp2_with fail
  generalize ((((W8.setCell ⟨w.heap.size, 0, none⟩ (.int .i64 3)).setCell ⟨w.heap.size, 1, none⟩ (.bool true)).setCell ⟨w.heap.size, 2, none⟩ (.string ⟨x.toArray⟩)).setCell ⟨w.heap.size, 3, none⟩ (.int .i64 0)) = WF at *
  have e0 := HF.out.c0
  have e1 := HF.out.c1
  have e2 := HF.out.c2
  have e3 := HF.out.c3
  refine bodyPost_ret (v := .agg #[.int .i64 3, .bool true, .string ⟨x.toArray⟩, .int .i64 0]) (by simp [results, Tryz.results88, go_sem, e0, e1, e2, e3]) rfl ?_
  exact ⟨rfl, HLf.out⟩
set_option maxHeartbeats 2000000 in
theorem rc4 (x : List UInt8) (t r : List (List UInt8)) (hx : t.headD [32] = x) (htr : t.tail = r) (pl ps : Nat) (W0 w : World) (h0 : Std0 W0 w pl ps) (hr : Rd w pl ps ([112, 101, 101, 114] :: t)) : Calls Tryz.prog 88 #[clo pl ps] w fun e w' => e = .returned (cdV ⟨4, false, ⟨x.toArray⟩, 0⟩) ∧ Left w w' pl ps r := by
  have hl := hr.lt
  obtain ⟨W1, hW1⟩ : ∃ W1, (w.alloc (.cells #[.int .i64 0, .bool false, .string ⟨#[]⟩, .int .i64 0] 37)).alloc (.cells #[.int .i64 0, .bool false, .string ⟨#[]⟩, .int .i64 0] 37) = W1 := ⟨_, rfl⟩
  have hsz : (w.alloc (.cells #[.int .i64 0, .bool false, .string ⟨#[]⟩, .int .i64 0] 37)).heap.size = w.heap.size + 1 := by simp
  have bb1 : Below w.heap.size w W1 := by rw [← hW1]; exact ((Below.refl _ _).alloc (Nat.le_refl _) _).alloc (by rw [hsz]; omega) _
  have b1 : Bs2 pl ps w W1 := Bs2.of_below bb1
  have r1 : Rd W1 pl ps ([112, 101, 101, 114] :: t) := hr.below bb1
  have d1 : C4 W1 w.heap.size (.int .i64 0) (.bool false) (.string ⟨#[]⟩) (.int .i64 0) := by rw [← hW1]; exact (C4.new w 37 _ _ _ _).below ((Below.refl _ _).alloc (Nat.le_refl _) _)
  have c1 : C4 W1 (w.heap.size + 1) (.int .i64 0) (.bool false) (.string ⟨#[]⟩) (.int .i64 0) := by rw [← hW1, ← hsz]; exact C4.new _ 37 _ _ _ _
  have nl : w.heap.size ≠ pl ∧ w.heap.size ≠ ps ∧ w.heap.size + 1 ≠ pl ∧ w.heap.size + 1 ≠ ps := ⟨by omega, by omega, by omega, by omega⟩
  have HS : Hid (Std0 W0 w pl ps) := h0
  have HNl : Hid (_ ∧ _) := nl
  have HB1 : Hid (Bs2 pl ps w W1) := b1
  have HR1 : Hid (Rd W1 pl ps ([112, 101, 101, 114] :: t)) := r1
  have HD1 : Hid (C4 W1 w.heap.size _ _ _ _) := d1
  have HC1 : Hid (C4 W1 (w.heap.size + 1) _ _ _ _) := c1
  have HX : Hid (t.headD [32] = x) := hx
  have HT0 : Hid (t.tail = r) := htr
  clear h0 hr hl hsz bb1 b1 r1 d1 c1 nl hx htr
  unfold clo
  go_enter Tryz.func88, Tryz.ntmps88
  go_wp2_with fail
  refine Calls.mono (next_yes pl ps [112, 101, 101, 114] _ W1 HR1.out (HS.out.bs2 HB1.out).max) ?_
  rintro e W2 ⟨rfl, hr2, hb2⟩
  have HR2 : Hid (_ : Prop) := hr2
  have HB2 : Hid (Bs2 pl ps w W2) := HB1.out.trans hb2
  have HD2 : Hid (_ : Prop) := HD1.out.bs2 hb2 HNl.out.1 HNl.out.2.1
  have HC2 : Hid (_ : Prop) := HC1.out.bs2 hb2 HNl.out.2.2.1 HNl.out.2.2.2
  clear hr2 hb2 HR1 HB1 HD1 HC1
  go_wp2_with fail
  try clear z0 z1
  refine Calls.mono (cw_any W2) ?_
  rintro e W3 ⟨rfl, ht3⟩
  have hb3 := ht3.2
  have HT : Hid (∀ q, q < cwL.length → W3.cell? ⟨W2.heap.size, q, none⟩ = some (.string ⟨(cwL.getD q []).toArray⟩)) := ht3.1
  clear ht3
  have HR3 : Hid (_ : Prop) := HR2.out.below hb3
  have HB3 : Hid (Bs2 pl ps w W3) := HB2.out.trans (Bs2.of_below hb3)
  have HD3 : Hid (_ : Prop) := HD2.out.below hb3
  have HC3 : Hid (_ : Prop) := HC2.out.below hb3
  clear hb3 HR2 HB2 HD2 HC2
  go_wp2_with fail
  refine Calls.mono (place_yes W2.heap.size 8 cwL [112, 101, 101, 114] 4 W3 rfl (by decide) (by decide) (by decide) HT.out) ?_
  rintro e Wq ⟨rfl, hq⟩
  subst Wq
  clear HT
  obtain ⟨W4, hW4⟩ : ∃ W, W3.setCell ⟨w.heap.size + 1, 0, none⟩ (.int .i64 4) = W := ⟨_, rfl⟩
  have HR4 : Hid (Rd W4 pl ps (t)) := by unfold Hid; rw [← hW4]; exact HR3.out.set HNl.out.2.2.1 HNl.out.2.2.2
  have HB4 : Hid (Bs2 pl ps w W4) := by unfold Hid; rw [← hW4]; exact HB3.out.set (by omega)
  have HD4 : Hid (C4 W4 w.heap.size (.int .i64 0) (.bool false) (.string ⟨#[]⟩) (.int .i64 0)) := by unfold Hid; rw [← hW4]; exact HD3.out.other (by omega)
  have HC4 : Hid (C4 W4 (w.heap.size + 1) (.int .i64 4) (.bool false) (.string ⟨#[]⟩) (.int .i64 0)) := by unfold Hid; rw [← hW4]; exact HC3.out.set0
  have z0 := HC3.out.c0
  have z1 := HC3.out.f 0
  clear HR3 HB3 HD3 HC3
  have y0 := HC4.out.c0
  go_wp2_with fail
  clear z0 z1 y0
  refine Calls.mono (next_gen pl ps x r t HX.out HT0.out W4 HR4.out (HS.out.bs2 HB4.out).max) ?_
  rintro e W5 ⟨rfl, hr5, hb5⟩
  have HR5 : Hid (_ : Prop) := hr5
  have HB5 : Hid (Bs2 pl ps w W5) := HB4.out.trans hb5
  have HD5 : Hid (_ : Prop) := HD4.out.bs2 hb5 HNl.out.1 HNl.out.2.1
  have HC5 : Hid (_ : Prop) := HC4.out.bs2 hb5 HNl.out.2.2.1 HNl.out.2.2.2
  clear hr5 hb5 HR4 HB4 HD4 HC4
  obtain ⟨W6, hW6⟩ : ∃ W, W5.setCell ⟨w.heap.size + 1, 2, none⟩ (.string ⟨x.toArray⟩) = W := ⟨_, rfl⟩
  have HR6 : Hid (Rd W6 pl ps (r)) := by unfold Hid; rw [← hW6]; exact HR5.out.set HNl.out.2.2.1 HNl.out.2.2.2
  have HB6 : Hid (Bs2 pl ps w W6) := by unfold Hid; rw [← hW6]; exact HB5.out.set (by omega)
  have HD6 : Hid (C4 W6 w.heap.size (.int .i64 0) (.bool false) (.string ⟨#[]⟩) (.int .i64 0)) := by unfold Hid; rw [← hW6]; exact HD5.out.other (by omega)
  have HC6 : Hid (C4 W6 (w.heap.size + 1) (.int .i64 4) (.bool false) (.string ⟨x.toArray⟩) (.int .i64 0)) := by unfold Hid; rw [← hW6]; exact HC5.out.set2
  have z0 := HC5.out.c2
  have z1 := HC5.out.f 2
  clear HR5 HB5 HD5 HC5
  have y0 := HC6.out.c0
  have y1 := HC6.out.c1
  have y2 := HC6.out.c2
  have y3 := HC6.out.c3
  have x0 := HD6.out.c0
  have x1 := HD6.out.c1
  have x2 := HD6.out.c2
  have x3 := HD6.out.c3
  have f0 := HD6.out.f 0
  have f1 := HD6.out.f 1
  have f2 := HD6.out.f 2
  have f3 := HD6.out.f 3
  have HF : Hid (C4 ((((W6.setCell ⟨w.heap.size, 0, none⟩ (.int .i64 4)).setCell ⟨w.heap.size, 1, none⟩ (.bool false)).setCell ⟨w.heap.size, 2, none⟩ (.string ⟨x.toArray⟩)).setCell ⟨w.heap.size, 3, none⟩ (.int .i64 0)) w.heap.size (.int .i64 4) (.bool false) (.string ⟨x.toArray⟩) (.int .i64 0)) := HD6.out.set0.set1.set2.set3
  have HLf : Hid (Left w ((((W6.setCell ⟨w.heap.size, 0, none⟩ (.int .i64 4)).setCell ⟨w.heap.size, 1, none⟩ (.bool false)).setCell ⟨w.heap.size, 2, none⟩ (.string ⟨x.toArray⟩)).setCell ⟨w.heap.size, 3, none⟩ (.int .i64 0)) pl ps r) := ⟨(((HR6.out.set HNl.out.1 HNl.out.2.1).set HNl.out.1 HNl.out.2.1).set HNl.out.1 HNl.out.2.1).set HNl.out.1 HNl.out.2.1, (((HB6.out.set (Nat.le_refl _)).set (Nat.le_refl _)).set (Nat.le_refl _)).set (Nat.le_refl _)⟩
  go_wp2_with fail
  generalize ((((W6.setCell ⟨w.heap.size, 0, none⟩ (.int .i64 4)).setCell ⟨w.heap.size, 1, none⟩ (.bool false)).setCell ⟨w.heap.size, 2, none⟩ (.string ⟨x.toArray⟩)).setCell ⟨w.heap.size, 3, none⟩ (.int .i64 0)) = WF at *
  have e0 := HF.out.c0
  have e1 := HF.out.c1
  have e2 := HF.out.c2
  have e3 := HF.out.c3
  refine bodyPost_ret (v := .agg #[.int .i64 4, .bool false, .string ⟨x.toArray⟩, .int .i64 0]) (by simp [results, Tryz.results88, go_sem, e0, e1, e2, e3]) rfl ?_
  exact ⟨rfl, HLf.out⟩
set_option maxHeartbeats 2000000 in
theorem rc4n (x : List UInt8) (t r : List (List UInt8)) (hx : t.headD [32] = x) (htr : t.tail = r) (pl ps : Nat) (W0 w : World) (h0 : Std0 W0 w pl ps) (hr : Rd w pl ps ([110, 111, 116] :: [112, 101, 101, 114] :: t)) : Calls Tryz.prog 88 #[clo pl ps] w fun e w' => e = .returned (cdV ⟨4, true, ⟨x.toArray⟩, 0⟩) ∧ Left w w' pl ps r := by
  have hl := hr.lt
  obtain ⟨W1, hW1⟩ : ∃ W1, (w.alloc (.cells #[.int .i64 0, .bool false, .string ⟨#[]⟩, .int .i64 0] 37)).alloc (.cells #[.int .i64 0, .bool false, .string ⟨#[]⟩, .int .i64 0] 37) = W1 := ⟨_, rfl⟩
  have hsz : (w.alloc (.cells #[.int .i64 0, .bool false, .string ⟨#[]⟩, .int .i64 0] 37)).heap.size = w.heap.size + 1 := by simp
  have bb1 : Below w.heap.size w W1 := by rw [← hW1]; exact ((Below.refl _ _).alloc (Nat.le_refl _) _).alloc (by rw [hsz]; omega) _
  have b1 : Bs2 pl ps w W1 := Bs2.of_below bb1
  have r1 : Rd W1 pl ps ([110, 111, 116] :: [112, 101, 101, 114] :: t) := hr.below bb1
  have d1 : C4 W1 w.heap.size (.int .i64 0) (.bool false) (.string ⟨#[]⟩) (.int .i64 0) := by rw [← hW1]; exact (C4.new w 37 _ _ _ _).below ((Below.refl _ _).alloc (Nat.le_refl _) _)
  have c1 : C4 W1 (w.heap.size + 1) (.int .i64 0) (.bool false) (.string ⟨#[]⟩) (.int .i64 0) := by rw [← hW1, ← hsz]; exact C4.new _ 37 _ _ _ _
  have nl : w.heap.size ≠ pl ∧ w.heap.size ≠ ps ∧ w.heap.size + 1 ≠ pl ∧ w.heap.size + 1 ≠ ps := ⟨by omega, by omega, by omega, by omega⟩
  have HS : Hid (Std0 W0 w pl ps) := h0
  have HNl : Hid (_ ∧ _) := nl
  have HB1 : Hid (Bs2 pl ps w W1) := b1
  have HR1 : Hid (Rd W1 pl ps ([110, 111, 116] :: [112, 101, 101, 114] :: t)) := r1
  have HD1 : Hid (C4 W1 w.heap.size _ _ _ _) := d1
  have HC1 : Hid (C4 W1 (w.heap.size + 1) _ _ _ _) := c1
  have HX : Hid (t.headD [32] = x) := hx
  have HT0 : Hid (t.tail = r) := htr
  clear h0 hr hl hsz bb1 b1 r1 d1 c1 nl hx htr
  unfold clo
  go_enter Tryz.func88, Tryz.ntmps88
  go_wp2_with fail
  refine Calls.mono (next_yes pl ps [110, 111, 116] _ W1 HR1.out (HS.out.bs2 HB1.out).max) ?_
  rintro e W2 ⟨rfl, hr2, hb2⟩
  have HR2 : Hid (_ : Prop) := hr2
  have HB2 : Hid (Bs2 pl ps w W2) := HB1.out.trans hb2
  have HD2 : Hid (_ : Prop) := HD1.out.bs2 hb2 HNl.out.1 HNl.out.2.1
  have HC2 : Hid (_ : Prop) := HC1.out.bs2 hb2 HNl.out.2.2.1 HNl.out.2.2.2
  clear hr2 hb2 HR1 HB1 HD1 HC1
  go_wp2_with fail
  refine Calls.mono (next_yes pl ps [112, 101, 101, 114] _ W2 HR2.out (HS.out.bs2 HB2.out).max) ?_
  rintro e W3 ⟨rfl, hr3, hb3⟩
  have HR3 : Hid (_ : Prop) := hr3
  have HB3 : Hid (Bs2 pl ps w W3) := HB2.out.trans hb3
  have HD3 : Hid (_ : Prop) := HD2.out.bs2 hb3 HNl.out.1 HNl.out.2.1
  have HC3 : Hid (_ : Prop) := HC2.out.bs2 hb3 HNl.out.2.2.1 HNl.out.2.2.2
  clear hr3 hb3 HR2 HB2 HD2 HC2
  obtain ⟨W4, hW4⟩ : ∃ W, W3.setCell ⟨w.heap.size + 1, 1, none⟩ (.bool true) = W := ⟨_, rfl⟩
  have HR4 : Hid (Rd W4 pl ps (t)) := by unfold Hid; rw [← hW4]; exact HR3.out.set HNl.out.2.2.1 HNl.out.2.2.2
  have HB4 : Hid (Bs2 pl ps w W4) := by unfold Hid; rw [← hW4]; exact HB3.out.set (by omega)
  have HD4 : Hid (C4 W4 w.heap.size (.int .i64 0) (.bool false) (.string ⟨#[]⟩) (.int .i64 0)) := by unfold Hid; rw [← hW4]; exact HD3.out.other (by omega)
  have HC4 : Hid (C4 W4 (w.heap.size + 1) (.int .i64 0) (.bool true) (.string ⟨#[]⟩) (.int .i64 0)) := by unfold Hid; rw [← hW4]; exact HC3.out.set1
  have z0 := HC3.out.c1
  have z1 := HC3.out.f 1
  clear HR3 HB3 HD3 HC3
  go_wp2_with fail
  try clear z0 z1
  refine Calls.mono (cw_any W4) ?_
  rintro e W5 ⟨rfl, ht5⟩
  have hb5 := ht5.2
  have HT : Hid (∀ q, q < cwL.length → W5.cell? ⟨W4.heap.size, q, none⟩ = some (.string ⟨(cwL.getD q []).toArray⟩)) := ht5.1
  clear ht5
  have HR5 : Hid (_ : Prop) := HR4.out.below hb5
  have HB5 : Hid (Bs2 pl ps w W5) := HB4.out.trans (Bs2.of_below hb5)
  have HD5 : Hid (_ : Prop) := HD4.out.below hb5
  have HC5 : Hid (_ : Prop) := HC4.out.below hb5
  clear hb5 HR4 HB4 HD4 HC4
  go_wp2_with fail
  refine Calls.mono (place_yes W4.heap.size 8 cwL [112, 101, 101, 114] 4 W5 rfl (by decide) (by decide) (by decide) HT.out) ?_
  rintro e Wq ⟨rfl, hq⟩
  subst Wq
  clear HT
  obtain ⟨W6, hW6⟩ : ∃ W, W5.setCell ⟨w.heap.size + 1, 0, none⟩ (.int .i64 4) = W := ⟨_, rfl⟩
  have HR6 : Hid (Rd W6 pl ps (t)) := by unfold Hid; rw [← hW6]; exact HR5.out.set HNl.out.2.2.1 HNl.out.2.2.2
  have HB6 : Hid (Bs2 pl ps w W6) := by unfold Hid; rw [← hW6]; exact HB5.out.set (by omega)
  have HD6 : Hid (C4 W6 w.heap.size (.int .i64 0) (.bool false) (.string ⟨#[]⟩) (.int .i64 0)) := by unfold Hid; rw [← hW6]; exact HD5.out.other (by omega)
  have HC6 : Hid (C4 W6 (w.heap.size + 1) (.int .i64 4) (.bool true) (.string ⟨#[]⟩) (.int .i64 0)) := by unfold Hid; rw [← hW6]; exact HC5.out.set0
  have z0 := HC5.out.c0
  have z1 := HC5.out.f 0
  clear HR5 HB5 HD5 HC5
  have y0 := HC6.out.c0
  go_wp2_with fail
  clear z0 z1 y0
  refine Calls.mono (next_gen pl ps x r t HX.out HT0.out W6 HR6.out (HS.out.bs2 HB6.out).max) ?_
  rintro e W7 ⟨rfl, hr7, hb7⟩
  have HR7 : Hid (_ : Prop) := hr7
  have HB7 : Hid (Bs2 pl ps w W7) := HB6.out.trans hb7
  have HD7 : Hid (_ : Prop) := HD6.out.bs2 hb7 HNl.out.1 HNl.out.2.1
  have HC7 : Hid (_ : Prop) := HC6.out.bs2 hb7 HNl.out.2.2.1 HNl.out.2.2.2
  clear hr7 hb7 HR6 HB6 HD6 HC6
  obtain ⟨W8, hW8⟩ : ∃ W, W7.setCell ⟨w.heap.size + 1, 2, none⟩ (.string ⟨x.toArray⟩) = W := ⟨_, rfl⟩
  have HR8 : Hid (Rd W8 pl ps (r)) := by unfold Hid; rw [← hW8]; exact HR7.out.set HNl.out.2.2.1 HNl.out.2.2.2
  have HB8 : Hid (Bs2 pl ps w W8) := by unfold Hid; rw [← hW8]; exact HB7.out.set (by omega)
  have HD8 : Hid (C4 W8 w.heap.size (.int .i64 0) (.bool false) (.string ⟨#[]⟩) (.int .i64 0)) := by unfold Hid; rw [← hW8]; exact HD7.out.other (by omega)
  have HC8 : Hid (C4 W8 (w.heap.size + 1) (.int .i64 4) (.bool true) (.string ⟨x.toArray⟩) (.int .i64 0)) := by unfold Hid; rw [← hW8]; exact HC7.out.set2
  have z0 := HC7.out.c2
  have z1 := HC7.out.f 2
  clear HR7 HB7 HD7 HC7
  have y0 := HC8.out.c0
  have y1 := HC8.out.c1
  have y2 := HC8.out.c2
  have y3 := HC8.out.c3
  have x0 := HD8.out.c0
  have x1 := HD8.out.c1
  have x2 := HD8.out.c2
  have x3 := HD8.out.c3
  have f0 := HD8.out.f 0
  have f1 := HD8.out.f 1
  have f2 := HD8.out.f 2
  have f3 := HD8.out.f 3
  have HF : Hid (C4 ((((W8.setCell ⟨w.heap.size, 0, none⟩ (.int .i64 4)).setCell ⟨w.heap.size, 1, none⟩ (.bool true)).setCell ⟨w.heap.size, 2, none⟩ (.string ⟨x.toArray⟩)).setCell ⟨w.heap.size, 3, none⟩ (.int .i64 0)) w.heap.size (.int .i64 4) (.bool true) (.string ⟨x.toArray⟩) (.int .i64 0)) := HD8.out.set0.set1.set2.set3
  have HLf : Hid (Left w ((((W8.setCell ⟨w.heap.size, 0, none⟩ (.int .i64 4)).setCell ⟨w.heap.size, 1, none⟩ (.bool true)).setCell ⟨w.heap.size, 2, none⟩ (.string ⟨x.toArray⟩)).setCell ⟨w.heap.size, 3, none⟩ (.int .i64 0)) pl ps r) := ⟨(((HR8.out.set HNl.out.1 HNl.out.2.1).set HNl.out.1 HNl.out.2.1).set HNl.out.1 HNl.out.2.1).set HNl.out.1 HNl.out.2.1, (((HB8.out.set (Nat.le_refl _)).set (Nat.le_refl _)).set (Nat.le_refl _)).set (Nat.le_refl _)⟩
  go_wp2_with fail
  generalize ((((W8.setCell ⟨w.heap.size, 0, none⟩ (.int .i64 4)).setCell ⟨w.heap.size, 1, none⟩ (.bool true)).setCell ⟨w.heap.size, 2, none⟩ (.string ⟨x.toArray⟩)).setCell ⟨w.heap.size, 3, none⟩ (.int .i64 0)) = WF at *
  have e0 := HF.out.c0
  have e1 := HF.out.c1
  have e2 := HF.out.c2
  have e3 := HF.out.c3
  refine bodyPost_ret (v := .agg #[.int .i64 4, .bool true, .string ⟨x.toArray⟩, .int .i64 0]) (by simp [results, Tryz.results88, go_sem, e0, e1, e2, e3]) rfl ?_
  exact ⟨rfl, HLf.out⟩
set_option maxHeartbeats 2000000 in
theorem rc6x (x : List UInt8) (t r : List (List UInt8)) (hx : t.headD [32] = x) (htr : t.tail = r) (pl ps : Nat) (W0 w : World) (hk : nmO x = none) (hxl : x.length ≤ 281474976710656) (hEr : ErrsAt W0) (h0 : Std0 W0 w pl ps) (hr : Rd w pl ps ([108, 101, 110, 103, 116, 104] :: t)) : Calls Tryz.prog 88 #[clo pl ps] w fun e w' => Pan w w' pl ps e := by
  have hl := hr.lt
  obtain ⟨W1, hW1⟩ : ∃ W1, (w.alloc (.cells #[.int .i64 0, .bool false, .string ⟨#[]⟩, .int .i64 0] 37)).alloc (.cells #[.int .i64 0, .bool false, .string ⟨#[]⟩, .int .i64 0] 37) = W1 := ⟨_, rfl⟩
  have hsz : (w.alloc (.cells #[.int .i64 0, .bool false, .string ⟨#[]⟩, .int .i64 0] 37)).heap.size = w.heap.size + 1 := by simp
  have bb1 : Below w.heap.size w W1 := by rw [← hW1]; exact ((Below.refl _ _).alloc (Nat.le_refl _) _).alloc (by rw [hsz]; omega) _
  have b1 : Bs2 pl ps w W1 := Bs2.of_below bb1
  have r1 : Rd W1 pl ps ([108, 101, 110, 103, 116, 104] :: t) := hr.below bb1
  have d1 : C4 W1 w.heap.size (.int .i64 0) (.bool false) (.string ⟨#[]⟩) (.int .i64 0) := by rw [← hW1]; exact (C4.new w 37 _ _ _ _).below ((Below.refl _ _).alloc (Nat.le_refl _) _)
  have c1 : C4 W1 (w.heap.size + 1) (.int .i64 0) (.bool false) (.string ⟨#[]⟩) (.int .i64 0) := by rw [← hW1, ← hsz]; exact C4.new _ 37 _ _ _ _
  have nl : w.heap.size ≠ pl ∧ w.heap.size ≠ ps ∧ w.heap.size + 1 ≠ pl ∧ w.heap.size + 1 ≠ ps := ⟨by omega, by omega, by omega, by omega⟩
  have HS : Hid (Std0 W0 w pl ps) := h0
  have HNl : Hid (_ ∧ _) := nl
  have HB1 : Hid (Bs2 pl ps w W1) := b1
  have HR1 : Hid (Rd W1 pl ps ([108, 101, 110, 103, 116, 104] :: t)) := r1
  have HD1 : Hid (C4 W1 w.heap.size _ _ _ _) := d1
  have HC1 : Hid (C4 W1 (w.heap.size + 1) _ _ _ _) := c1
  have HX : Hid (t.headD [32] = x) := hx
  have HT0 : Hid (t.tail = r) := htr
  have HK : Hid (_ = _) := hk
  have HXl : Hid (x.length ≤ 281474976710656) := hxl
  have HEr : Hid (ErrsAt W0) := hEr
  clear h0 hr hl hsz bb1 b1 r1 d1 c1 nl hx htr hk hxl hEr
  unfold clo
  go_enter Tryz.func88, Tryz.ntmps88
  go_wp2_with fail
  refine Calls.mono (next_yes pl ps [108, 101, 110, 103, 116, 104] _ W1 HR1.out (HS.out.bs2 HB1.out).max) ?_
  rintro e W2 ⟨rfl, hr2, hb2⟩
  have HR2 : Hid (_ : Prop) := hr2
  have HB2 : Hid (Bs2 pl ps w W2) := HB1.out.trans hb2
  have HD2 : Hid (_ : Prop) := HD1.out.bs2 hb2 HNl.out.1 HNl.out.2.1
  have HC2 : Hid (_ : Prop) := HC1.out.bs2 hb2 HNl.out.2.2.1 HNl.out.2.2.2
  clear hr2 hb2 HR1 HB1 HD1 HC1
  go_wp2_with fail
  try clear z0 z1
  refine Calls.mono (cw_any W2) ?_
  rintro e W3 ⟨rfl, ht3⟩
  have hb3 := ht3.2
  have HT : Hid (∀ q, q < cwL.length → W3.cell? ⟨W2.heap.size, q, none⟩ = some (.string ⟨(cwL.getD q []).toArray⟩)) := ht3.1
  clear ht3
  have HR3 : Hid (_ : Prop) := HR2.out.below hb3
  have HB3 : Hid (Bs2 pl ps w W3) := HB2.out.trans (Bs2.of_below hb3)
  have HD3 : Hid (_ : Prop) := HD2.out.below hb3
  have HC3 : Hid (_ : Prop) := HC2.out.below hb3
  clear hb3 HR2 HB2 HD2 HC2
  go_wp2_with fail
  refine Calls.mono (place_yes W2.heap.size 8 cwL [108, 101, 110, 103, 116, 104] 6 W3 rfl (by decide) (by decide) (by decide) HT.out) ?_
  rintro e Wq ⟨rfl, hq⟩
  subst Wq
  clear HT
  obtain ⟨W4, hW4⟩ : ∃ W, W3.setCell ⟨w.heap.size + 1, 0, none⟩ (.int .i64 6) = W := ⟨_, rfl⟩
  have HR4 : Hid (Rd W4 pl ps (t)) := by unfold Hid; rw [← hW4]; exact HR3.out.set HNl.out.2.2.1 HNl.out.2.2.2
  have HB4 : Hid (Bs2 pl ps w W4) := by unfold Hid; rw [← hW4]; exact HB3.out.set (by omega)
  have HD4 : Hid (C4 W4 w.heap.size (.int .i64 0) (.bool false) (.string ⟨#[]⟩) (.int .i64 0)) := by unfold Hid; rw [← hW4]; exact HD3.out.other (by omega)
  have HC4 : Hid (C4 W4 (w.heap.size + 1) (.int .i64 6) (.bool false) (.string ⟨#[]⟩) (.int .i64 0)) := by unfold Hid; rw [← hW4]; exact HC3.out.set0
  have z0 := HC3.out.c0
  have z1 := HC3.out.f 0
  clear HR3 HB3 HD3 HC3
  have y0 := HC4.out.c0
  go_wp2_with fail
  clear z0 z1 y0
  refine Calls.mono (next_gen pl ps x r t HX.out HT0.out W4 HR4.out (HS.out.bs2 HB4.out).max) ?_
  rintro e W5 ⟨rfl, hr5, hb5⟩
  have HR5 : Hid (_ : Prop) := hr5
  have HB5 : Hid (Bs2 pl ps w W5) := HB4.out.trans hb5
  have HD5 : Hid (_ : Prop) := HD4.out.bs2 hb5 HNl.out.1 HNl.out.2.1
  have HC5 : Hid (_ : Prop) := HC4.out.bs2 hb5 HNl.out.2.2.1 HNl.out.2.2.2
  clear hr5 hb5 HR4 HB4 HD4 HC4
  go_wp2_with fail
  refine Calls.mono (number_none x HK.out HXl.out W5 (HEr.out.below ((HS.out.bs2 HB5.out).b)) (HS.out.bs2 HB5.out).env.e.p) ?_
  rintro e W6 ⟨rfl, hb6⟩
  have HB6 : Hid (Bs2 pl ps w W6) := HB5.out.trans (Bs2.of_below hb6)
  clear hb6
  have HZ : Hid (Pan w W6 pl ps (.panicked PAN)) := ⟨rfl, HB6.out⟩
  go_wp2_with fail
  exact ⟨rfl, HZ.out⟩
set_option maxHeartbeats 2000000 in
theorem rc6nx (x : List UInt8) (t r : List (List UInt8)) (hx : t.headD [32] = x) (htr : t.tail = r) (pl ps : Nat) (W0 w : World) (hk : nmO x = none) (hxl : x.length ≤ 281474976710656) (hEr : ErrsAt W0) (h0 : Std0 W0 w pl ps) (hr : Rd w pl ps ([110, 111, 116] :: [108, 101, 110, 103, 116, 104] :: t)) : Calls Tryz.prog 88 #[clo pl ps] w fun e w' => Pan w w' pl ps e := by
  have hl := hr.lt
  obtain ⟨W1, hW1⟩ : ∃ W1, (w.alloc (.cells #[.int .i64 0, .bool false, .string ⟨#[]⟩, .int .i64 0] 37)).alloc (.cells #[.int .i64 0, .bool false, .string ⟨#[]⟩, .int .i64 0] 37) = W1 := ⟨_, rfl⟩
  have hsz : (w.alloc (.cells #[.int .i64 0, .bool false, .string ⟨#[]⟩, .int .i64 0] 37)).heap.size = w.heap.size + 1 := by simp
  have bb1 : Below w.heap.size w W1 := by rw [← hW1]; exact ((Below.refl _ _).alloc (Nat.le_refl _) _).alloc (by rw [hsz]; omega) _
  have b1 : Bs2 pl ps w W1 := Bs2.of_below bb1
  have r1 : Rd W1 pl ps ([110, 111, 116] :: [108, 101, 110, 103, 116, 104] :: t) := hr.below bb1
  have d1 : C4 W1 w.heap.size (.int .i64 0) (.bool false) (.string ⟨#[]⟩) (.int .i64 0) := by rw [← hW1]; exact (C4.new w 37 _ _ _ _).below ((Below.refl _ _).alloc (Nat.le_refl _) _)
  have c1 : C4 W1 (w.heap.size + 1) (.int .i64 0) (.bool false) (.string ⟨#[]⟩) (.int .i64 0) := by rw [← hW1, ← hsz]; exact C4.new _ 37 _ _ _ _
  have nl : w.heap.size ≠ pl ∧ w.heap.size ≠ ps ∧ w.heap.size + 1 ≠ pl ∧ w.heap.size + 1 ≠ ps := ⟨by omega, by omega, by omega, by omega⟩
  have HS : Hid (Std0 W0 w pl ps) := h0
  have HNl : Hid (_ ∧ _) := nl
  have HB1 : Hid (Bs2 pl ps w W1) := b1
  have HR1 : Hid (Rd W1 pl ps ([110, 111, 116] :: [108, 101, 110, 103, 116, 104] :: t)) := r1
  have HD1 : Hid (C4 W1 w.heap.size _ _ _ _) := d1
  have HC1 : Hid (C4 W1 (w.heap.size + 1) _ _ _ _) := c1
  have HX : Hid (t.headD [32] = x) := hx
  have HT0 : Hid (t.tail = r) := htr
  have HK : Hid (_ = _) := hk
  have HXl : Hid (x.length ≤ 281474976710656) := hxl
  have HEr : Hid (ErrsAt W0) := hEr
  clear h0 hr hl hsz bb1 b1 r1 d1 c1 nl hx htr hk hxl hEr
  unfold clo
  go_enter Tryz.func88, Tryz.ntmps88
  go_wp2_with fail
  refine Calls.mono (next_yes pl ps [110, 111, 116] _ W1 HR1.out (HS.out.bs2 HB1.out).max) ?_
  rintro e W2 ⟨rfl, hr2, hb2⟩
  have HR2 : Hid (_ : Prop) := hr2
  have HB2 : Hid (Bs2 pl ps w W2) := HB1.out.trans hb2
  have HD2 : Hid (_ : Prop) := HD1.out.bs2 hb2 HNl.out.1 HNl.out.2.1
  have HC2 : Hid (_ : Prop) := HC1.out.bs2 hb2 HNl.out.2.2.1 HNl.out.2.2.2
  clear hr2 hb2 HR1 HB1 HD1 HC1
  go_wp2_with fail
  refine Calls.mono (next_yes pl ps [108, 101, 110, 103, 116, 104] _ W2 HR2.out (HS.out.bs2 HB2.out).max) ?_
  rintro e W3 ⟨rfl, hr3, hb3⟩
  have HR3 : Hid (_ : Prop) := hr3
  have HB3 : Hid (Bs2 pl ps w W3) := HB2.out.trans hb3
  have HD3 : Hid (_ : Prop) := HD2.out.bs2 hb3 HNl.out.1 HNl.out.2.1
  have HC3 : Hid (_ : Prop) := HC2.out.bs2 hb3 HNl.out.2.2.1 HNl.out.2.2.2
  clear hr3 hb3 HR2 HB2 HD2 HC2
  obtain ⟨W4, hW4⟩ : ∃ W, W3.setCell ⟨w.heap.size + 1, 1, none⟩ (.bool true) = W := ⟨_, rfl⟩
  have HR4 : Hid (Rd W4 pl ps (t)) := by unfold Hid; rw [← hW4]; exact HR3.out.set HNl.out.2.2.1 HNl.out.2.2.2
  have HB4 : Hid (Bs2 pl ps w W4) := by unfold Hid; rw [← hW4]; exact HB3.out.set (by omega)
  have HD4 : Hid (C4 W4 w.heap.size (.int .i64 0) (.bool false) (.string ⟨#[]⟩) (.int .i64 0)) := by unfold Hid; rw [← hW4]; exact HD3.out.other (by omega)
  have HC4 : Hid (C4 W4 (w.heap.size + 1) (.int .i64 0) (.bool true) (.string ⟨#[]⟩) (.int .i64 0)) := by unfold Hid; rw [← hW4]; exact HC3.out.set1
  have z0 := HC3.out.c1
  have z1 := HC3.out.f 1
  clear HR3 HB3 HD3 HC3
  go_wp2_with fail
  try clear z0 z1
  refine Calls.mono (cw_any W4) ?_
  rintro e W5 ⟨rfl, ht5⟩
  have hb5 := ht5.2
  have HT : Hid (∀ q, q < cwL.length → W5.cell? ⟨W4.heap.size, q, none⟩ = some (.string ⟨(cwL.getD q []).toArray⟩)) := ht5.1
  clear ht5
  have HR5 : Hid (_ : Prop) := HR4.out.below hb5
  have HB5 : Hid (Bs2 pl ps w W5) := HB4.out.trans (Bs2.of_below hb5)
  have HD5 : Hid (_ : Prop) := HD4.out.below hb5
  have HC5 : Hid (_ : Prop) := HC4.out.below hb5
  clear hb5 HR4 HB4 HD4 HC4
  go_wp2_with fail
  refine Calls.mono (place_yes W4.heap.size 8 cwL [108, 101, 110, 103, 116, 104] 6 W5 rfl (by decide) (by decide) (by decide) HT.out) ?_
  rintro e Wq ⟨rfl, hq⟩
  subst Wq
  clear HT
  obtain ⟨W6, hW6⟩ : ∃ W, W5.setCell ⟨w.heap.size + 1, 0, none⟩ (.int .i64 6) = W := ⟨_, rfl⟩
  have HR6 : Hid (Rd W6 pl ps (t)) := by unfold Hid; rw [← hW6]; exact HR5.out.set HNl.out.2.2.1 HNl.out.2.2.2
  have HB6 : Hid (Bs2 pl ps w W6) := by unfold Hid; rw [← hW6]; exact HB5.out.set (by omega)
  have HD6 : Hid (C4 W6 w.heap.size (.int .i64 0) (.bool false) (.string ⟨#[]⟩) (.int .i64 0)) := by unfold Hid; rw [← hW6]; exact HD5.out.other (by omega)
  have HC6 : Hid (C4 W6 (w.heap.size + 1) (.int .i64 6) (.bool true) (.string ⟨#[]⟩) (.int .i64 0)) := by unfold Hid; rw [← hW6]; exact HC5.out.set0
  have z0 := HC5.out.c0
  have z1 := HC5.out.f 0
  clear HR5 HB5 HD5 HC5
  have y0 := HC6.out.c0
  go_wp2_with fail
  clear z0 z1 y0
  refine Calls.mono (next_gen pl ps x r t HX.out HT0.out W6 HR6.out (HS.out.bs2 HB6.out).max) ?_
  rintro e W7 ⟨rfl, hr7, hb7⟩
  have HR7 : Hid (_ : Prop) := hr7
  have HB7 : Hid (Bs2 pl ps w W7) := HB6.out.trans hb7
  have HD7 : Hid (_ : Prop) := HD6.out.bs2 hb7 HNl.out.1 HNl.out.2.1
  have HC7 : Hid (_ : Prop) := HC6.out.bs2 hb7 HNl.out.2.2.1 HNl.out.2.2.2
  clear hr7 hb7 HR6 HB6 HD6 HC6
  go_wp2_with fail
  refine Calls.mono (number_none x HK.out HXl.out W7 (HEr.out.below ((HS.out.bs2 HB7.out).b)) (HS.out.bs2 HB7.out).env.e.p) ?_
  rintro e W8 ⟨rfl, hb8⟩
  have HB8 : Hid (Bs2 pl ps w W8) := HB7.out.trans (Bs2.of_below hb8)
  clear hb8
  have HZ : Hid (Pan w W8 pl ps (.panicked PAN)) := ⟨rfl, HB8.out⟩
  go_wp2_with fail
  exact ⟨rfl, HZ.out⟩
end Go.Proofs.YthaebbmekonacaaGreatDoor
