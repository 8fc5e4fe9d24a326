/-
  Actions read, whatever the words are.
-/
import Derived.Test.YthaebbmekonacaaGreatDoorSX
set_option linter.unusedVariables false
set_option linter.unusedSimpArgs false
set_option maxRecDepth 100000
namespace Go.Proofs.YthaebbmekonacaaGreatDoor
open Go.RowKit
set_option maxHeartbeats 2000000 in
theorem ra4x (x : List UInt8) (t r : List (List UInt8)) (hx : t.headD [32] = x) (htr : t.tail = r) (pl ps : Nat) (W0 w : World) (hk : nmO x = none) (hxl : x.length ≤ 281474976710656) (hEr : ErrsAt W0) (h0 : Std0 W0 w pl ps) (hr : Rd w pl ps ([109, 101, 100] :: t)) : Calls Tryz.prog 91 #[clo pl ps] w fun e w' => Pan w w' pl ps e := by
  obtain ⟨W1, hW1, H1⟩ := AR.new hr
  have HS : Hid (Std0 W0 w pl ps) := h0
  have HX : Hid (_ = _) := hx
  have HT0 : Hid (_ = _) := htr
  have HK : Hid _ := hk
  have HXl : Hid _ := hxl
  have HEr : Hid (ErrsAt W0) := hEr
  clear h0 hr hx htr hk hxl hEr
  unfold clo
  go_enter Tryz.func91, Tryz.ntmps91
  go_wp2_with fail
  have HTl : Hid _ := H1.out.rd.nel
  refine Calls.mono (aw_any W1) ?_
  rintro e W2 ⟨rfl, ht, hb⟩
  have HT : Hid _ := ht
  have H2 := AR.bel H1 hb
  clear hb H1 ht
  go_wp2_with fail
  refine Calls.mono (next_yes pl ps [109, 101, 100] _ W2 H2.out.rd (HS.out.bs2 H2.out.bs).max) ?_
  rintro e W3 ⟨rfl, hr, hb⟩
  have H3 := AR.nxt H2 hr hb
  have HT2 : Hid _ := hb.tab HT.out HTl.out
  clear hr hb H2
  go_wp2_with fail
  refine Calls.mono (place_yes W1.heap.size 11 awL [109, 101, 100] 4 W3 rfl (by decide) (by decide) (by decide) HT2.out) ?_
  rintro e Wq ⟨rfl, hq⟩
  subst Wq
  clear HT HT2 HTl
  go_wp2_with fail
  have H4 := AC.new H3 (.int .i64 4) (.string ⟨#[]⟩) (.int .u32 0) (.string ⟨#[]⟩)
  clear H3
  generalize W3.alloc (.cells #[.int .i64 4, .string ⟨#[]⟩, .int .u32 0, .string ⟨#[]⟩] 40) = W4 at *
  generalize W3.heap.size = cb at *
  refine Calls.mono (next_gen pl ps x r t HX.out HT0.out W4 H4.out.r.rd (HS.out.bs2 H4.out.r.bs).max) ?_
  rintro e W5 ⟨rfl, hr, hb⟩
  have H5 := AC.nxt H4 hr hb
  clear hr hb H4
  go_wp2_with fail
  refine Calls.mono (number_none x HK.out HXl.out W5 (HEr.out.below ((HS.out.bs2 H5.out.r.bs).b)) (HS.out.bs2 H5.out.r.bs).env.e.p) ?_
  rintro e W6 ⟨rfl, hb⟩
  have H6 := AC.bel H5 hb
  clear hb H5
  have HZ : Hid (Pan w W6 pl ps (.panicked PAN)) := ⟨rfl, H6.out.r.bs⟩
  go_wp2_with fail
  exact ⟨rfl, HZ.out⟩
set_option maxHeartbeats 2000000 in
theorem ra8 (x : List UInt8) (t r : List (List UInt8)) (hx : t.headD [32] = x) (htr : t.tail = r) (pl ps : Nat) (W0 w : World) (n : Nat) (hn : n < 4294967296) (hk : nmO x = some n) (hxl : x.length ≤ 281474976710656) (hEr : ErrsAt W0) (h0 : Std0 W0 w pl ps) (hr : Rd w pl ps ([112, 114, 101, 112, 101, 110, 100] :: t)) : Calls Tryz.prog 91 #[clo pl ps] w fun e w' => e = .returned (acV ⟨8, ⟨#[]⟩, n, ⟨#[]⟩⟩) ∧ Left w w' pl ps r := by
  obtain ⟨W1, hW1, H1⟩ := AR.new hr
  have HS : Hid (Std0 W0 w pl ps) := h0
  have HX : Hid (_ = _) := hx
  have HT0 : Hid (_ = _) := htr
  have HK : Hid _ := hk
  have HXl : Hid _ := hxl
  have HEr : Hid (ErrsAt W0) := hEr
  clear h0 hr hx htr hk hxl hEr
  unfold clo
  go_enter Tryz.func91, Tryz.ntmps91
  go_wp2_with fail
  have HTl : Hid _ := H1.out.rd.nel
  refine Calls.mono (aw_any W1) ?_
  rintro e W2 ⟨rfl, ht, hb⟩
  have HT : Hid _ := ht
  have H2 := AR.bel H1 hb
  clear hb H1 ht
  go_wp2_with fail
  refine Calls.mono (next_yes pl ps [112, 114, 101, 112, 101, 110, 100] _ W2 H2.out.rd (HS.out.bs2 H2.out.bs).max) ?_
  rintro e W3 ⟨rfl, hr, hb⟩
  have H3 := AR.nxt H2 hr hb
  have HT2 : Hid _ := hb.tab HT.out HTl.out
  clear hr hb H2
  go_wp2_with fail
  refine Calls.mono (place_yes W1.heap.size 11 awL [112, 114, 101, 112, 101, 110, 100] 8 W3 rfl (by decide) (by decide) (by decide) HT2.out) ?_
  rintro e Wq ⟨rfl, hq⟩
  subst Wq
  clear HT HT2 HTl
  go_wp2_with fail
  have H4 := AC.new H3 (.int .i64 8) (.string ⟨#[]⟩) (.int .u32 0) (.string ⟨#[]⟩)
  clear H3
  generalize W3.alloc (.cells #[.int .i64 8, .string ⟨#[]⟩, .int .u32 0, .string ⟨#[]⟩] 40) = W4 at *
  generalize W3.heap.size = cb at *
  refine Calls.mono (next_gen pl ps x r t HX.out HT0.out W4 H4.out.r.rd (HS.out.bs2 H4.out.r.bs).max) ?_
  rintro e W5 ⟨rfl, hr, hb⟩
  have H5 := AC.nxt H4 hr hb
  clear hr hb H4
  go_wp2_with fail
  refine Calls.mono (number_some x n HK.out HXl.out W5 (HEr.out.below ((HS.out.bs2 H5.out.r.bs).b)) (HS.out.bs2 H5.out.r.bs).env.e.p) ?_
  rintro e W6 ⟨rfl, hb⟩
  have H6 := AC.bel H5 hb
  clear hb H5
  obtain ⟨W7, hW7, H7, z0, z1⟩ := AC.s2 H6 (.int .u32 (n : Int))
  clear H6
  obtain ⟨⟨y0, y1, y2, y3⟩, ⟨x0, x1, x2, x3⟩, f0, f1, f2, f3⟩ := AC.ys H7
  have HF := AC.fin H7
  clear H7
  go_wp2_with fail
  obtain ⟨WF, hWF, hLf, e0, e1, e2, e3⟩ := HF.out
  rw [hWF]
  refine bodyPost_ret (v := .agg #[.int .i64 8, .string ⟨#[]⟩, .int .u32 (n : Int), .string ⟨#[]⟩]) (by simp [results, Tryz.results91, go_sem, e0, e1, e2, e3]) rfl ?_
  exact ⟨rfl, hLf⟩
set_option maxHeartbeats 2000000 in
theorem ra8x (x : List UInt8) (t r : List (List UInt8)) (hx : t.headD [32] = x) (htr : t.tail = r) (pl ps : Nat) (W0 w : World) (hk : nmO x = none) (hxl : x.length ≤ 281474976710656) (hEr : ErrsAt W0) (h0 : Std0 W0 w pl ps) (hr : Rd w pl ps ([112, 114, 101, 112, 101, 110, 100] :: t)) : Calls Tryz.prog 91 #[clo pl ps] w fun e w' => Pan w w' pl ps e := by
  obtain ⟨W1, hW1, H1⟩ := AR.new hr
  have HS : Hid (Std0 W0 w pl ps) := h0
  have HX : Hid (_ = _) := hx
  have HT0 : Hid (_ = _) := htr
  have HK : Hid _ := hk
  have HXl : Hid _ := hxl
  have HEr : Hid (ErrsAt W0) := hEr
  clear h0 hr hx htr hk hxl hEr
  unfold clo
  go_enter Tryz.func91, Tryz.ntmps91
  go_wp2_with fail
  have HTl : Hid _ := H1.out.rd.nel
  refine Calls.mono (aw_any W1) ?_
  rintro e W2 ⟨rfl, ht, hb⟩
  have HT : Hid _ := ht
  have H2 := AR.bel H1 hb
  clear hb H1 ht
  go_wp2_with fail
  refine Calls.mono (next_yes pl ps [112, 114, 101, 112, 101, 110, 100] _ W2 H2.out.rd (HS.out.bs2 H2.out.bs).max) ?_
  rintro e W3 ⟨rfl, hr, hb⟩
  have H3 := AR.nxt H2 hr hb
  have HT2 : Hid _ := hb.tab HT.out HTl.out
  clear hr hb H2
  go_wp2_with fail
  refine Calls.mono (place_yes W1.heap.size 11 awL [112, 114, 101, 112, 101, 110, 100] 8 W3 rfl (by decide) (by decide) (by decide) HT2.out) ?_
  rintro e Wq ⟨rfl, hq⟩
  subst Wq
  clear HT HT2 HTl
  go_wp2_with fail
  have H4 := AC.new H3 (.int .i64 8) (.string ⟨#[]⟩) (.int .u32 0) (.string ⟨#[]⟩)
  clear H3
  generalize W3.alloc (.cells #[.int .i64 8, .string ⟨#[]⟩, .int .u32 0, .string ⟨#[]⟩] 40) = W4 at *
  generalize W3.heap.size = cb at *
  refine Calls.mono (next_gen pl ps x r t HX.out HT0.out W4 H4.out.r.rd (HS.out.bs2 H4.out.r.bs).max) ?_
  rintro e W5 ⟨rfl, hr, hb⟩
  have H5 := AC.nxt H4 hr hb
  clear hr hb H4
  go_wp2_with fail
  refine Calls.mono (number_none x HK.out HXl.out W5 (HEr.out.below ((HS.out.bs2 H5.out.r.bs).b)) (HS.out.bs2 H5.out.r.bs).env.e.p) ?_
  rintro e W6 ⟨rfl, hb⟩
  have H6 := AC.bel H5 hb
  clear hb H5
  have HZ : Hid (Pan w W6 pl ps (.panicked PAN)) := ⟨rfl, H6.out.r.bs⟩
  go_wp2_with fail
  exact ⟨rfl, HZ.out⟩
set_option maxHeartbeats 2000000 in
theorem ra10 (x : List UInt8) (t r : List (List UInt8)) (hx : t.headD [32] = x) (htr : t.tail = r) (pl ps : Nat) (W0 w : World) (n : Nat) (hn : n ≤ 100) (hk : plc owL x = some n) (h0 : Std0 W0 w pl ps) (hr : Rd w pl ps ([111, 114, 105, 103, 105, 110] :: t)) : Calls Tryz.prog 91 #[clo pl ps] w fun e w' => e = .returned (acV ⟨10, ⟨#[]⟩, n, ⟨#[]⟩⟩) ∧ Left w w' pl ps r := by
  obtain ⟨W1, hW1, H1⟩ := AR.new hr
  have HS : Hid (Std0 W0 w pl ps) := h0
  have HX : Hid (_ = _) := hx
  have HT0 : Hid (_ = _) := htr
  have HK : Hid _ := hk
  clear h0 hr hx htr hk
  unfold clo
  go_enter Tryz.func91, Tryz.ntmps91
  go_wp2_with fail
  have HTl : Hid _ := H1.out.rd.nel
  refine Calls.mono (aw_any W1) ?_
  rintro e W2 ⟨rfl, ht, hb⟩
  have HT : Hid _ := ht
  have H2 := AR.bel H1 hb
  clear hb H1 ht
  go_wp2_with fail
  refine Calls.mono (next_yes pl ps [111, 114, 105, 103, 105, 110] _ W2 H2.out.rd (HS.out.bs2 H2.out.bs).max) ?_
  rintro e W3 ⟨rfl, hr, hb⟩
  have H3 := AR.nxt H2 hr hb
  have HT2 : Hid _ := hb.tab HT.out HTl.out
  clear hr hb H2
  go_wp2_with fail
  refine Calls.mono (place_yes W1.heap.size 11 awL [111, 114, 105, 103, 105, 110] 10 W3 rfl (by decide) (by decide) (by decide) HT2.out) ?_
  rintro e Wq ⟨rfl, hq⟩
  subst Wq
  clear HT HT2 HTl
  go_wp2_with fail
  have H4 := AC.new H3 (.int .i64 10) (.string ⟨#[]⟩) (.int .u32 0) (.string ⟨#[]⟩)
  clear H3
  generalize W3.alloc (.cells #[.int .i64 10, .string ⟨#[]⟩, .int .u32 0, .string ⟨#[]⟩] 40) = W4 at *
  generalize W3.heap.size = cb at *
  have HTl : Hid _ := H4.out.r.rd.nel
  refine Calls.mono (ow_any W4) ?_
  rintro e W5 ⟨rfl, ht, hb⟩
  have HT : Hid _ := ht
  have H5 := AC.bel H4 hb
  clear hb H4 ht
  go_wp2_with fail
  refine Calls.mono (next_gen pl ps x r t HX.out HT0.out W5 H5.out.r.rd (HS.out.bs2 H5.out.r.bs).max) ?_
  rintro e W6 ⟨rfl, hr, hb⟩
  have H6 := AC.nxt H5 hr hb
  have HT2 : Hid _ := hb.tab HT.out HTl.out
  clear hr hb H5
  go_wp2_with fail
  refine Calls.mono (place_some W4.heap.size 3 owL x n W6 rfl (by decide) HK.out HT2.out) ?_
  rintro e Wq ⟨rfl, hq⟩
  subst Wq
  clear HT HT2 HTl
  have hwn : IntKind.u32.wrap (n : Int) = n := by rw [IntKind.wrap_u32]; omega
  obtain ⟨W7, hW7, H7, z0, z1⟩ := AC.s2 H6 (.int .u32 (n : Int))
  clear H6
  obtain ⟨⟨y0, y1, y2, y3⟩, ⟨x0, x1, x2, x3⟩, f0, f1, f2, f3⟩ := AC.ys H7
  have HF := AC.fin H7
  clear H7
  go_wp2_with fail
  obtain ⟨WF, hWF, hLf, e0, e1, e2, e3⟩ := HF.out
  rw [hWF]
  refine bodyPost_ret (v := .agg #[.int .i64 10, .string ⟨#[]⟩, .int .u32 (n : Int), .string ⟨#[]⟩]) (by simp [results, Tryz.results91, go_sem, e0, e1, e2, e3]) rfl ?_
  exact ⟨rfl, hLf⟩
set_option maxHeartbeats 2000000 in
theorem ra10x (x : List UInt8) (t r : List (List UInt8)) (hx : t.headD [32] = x) (htr : t.tail = r) (pl ps : Nat) (W0 w : World) (hk : plc owL x = none) (h0 : Std0 W0 w pl ps) (hr : Rd w pl ps ([111, 114, 105, 103, 105, 110] :: t)) : Calls Tryz.prog 91 #[clo pl ps] w fun e w' => Pan w w' pl ps e := by
  obtain ⟨W1, hW1, H1⟩ := AR.new hr
  have HS : Hid (Std0 W0 w pl ps) := h0
  have HX : Hid (_ = _) := hx
  have HT0 : Hid (_ = _) := htr
  have HK : Hid _ := hk
  clear h0 hr hx htr hk
  unfold clo
  go_enter Tryz.func91, Tryz.ntmps91
  go_wp2_with fail
  have HTl : Hid _ := H1.out.rd.nel
  refine Calls.mono (aw_any W1) ?_
  rintro e W2 ⟨rfl, ht, hb⟩
  have HT : Hid _ := ht
  have H2 := AR.bel H1 hb
  clear hb H1 ht
  go_wp2_with fail
  refine Calls.mono (next_yes pl ps [111, 114, 105, 103, 105, 110] _ W2 H2.out.rd (HS.out.bs2 H2.out.bs).max) ?_
  rintro e W3 ⟨rfl, hr, hb⟩
  have H3 := AR.nxt H2 hr hb
  have HT2 : Hid _ := hb.tab HT.out HTl.out
  clear hr hb H2
  go_wp2_with fail
  refine Calls.mono (place_yes W1.heap.size 11 awL [111, 114, 105, 103, 105, 110] 10 W3 rfl (by decide) (by decide) (by decide) HT2.out) ?_
  rintro e Wq ⟨rfl, hq⟩
  subst Wq
  clear HT HT2 HTl
  go_wp2_with fail
  have H4 := AC.new H3 (.int .i64 10) (.string ⟨#[]⟩) (.int .u32 0) (.string ⟨#[]⟩)
  clear H3
  generalize W3.alloc (.cells #[.int .i64 10, .string ⟨#[]⟩, .int .u32 0, .string ⟨#[]⟩] 40) = W4 at *
  generalize W3.heap.size = cb at *
  have HTl : Hid _ := H4.out.r.rd.nel
  refine Calls.mono (ow_any W4) ?_
  rintro e W5 ⟨rfl, ht, hb⟩
  have HT : Hid _ := ht
  have H5 := AC.bel H4 hb
  clear hb H4 ht
  go_wp2_with fail
  refine Calls.mono (next_gen pl ps x r t HX.out HT0.out W5 H5.out.r.rd (HS.out.bs2 H5.out.r.bs).max) ?_
  rintro e W6 ⟨rfl, hr, hb⟩
  have H6 := AC.nxt H5 hr hb
  have HT2 : Hid _ := hb.tab HT.out HTl.out
  clear hr hb H5
  go_wp2_with fail
  refine Calls.mono (place_none W4.heap.size 3 owL x W6 rfl (by decide) HK.out HT2.out) ?_
  rintro e Wq ⟨rfl, hq⟩
  subst Wq
  have HZ : Hid (Pan w W6 pl ps (.panicked PAN)) := ⟨rfl, H6.out.r.bs⟩
  go_wp2_with fail
  exact ⟨rfl, HZ.out⟩
set_option maxHeartbeats 2000000 in
theorem ra6 (x : List UInt8) (t r : List (List UInt8)) (hx : t.headD [32] = x) (htr : t.tail = r) (pl ps : Nat) (W0 w : World) (n : Nat) (hn : n < 4294967296) (hk : x = comT n) (h0 : Std0 W0 w pl ps) (hr : Rd w pl ps ([97, 100, 100] :: t)) : Calls Tryz.prog 91 #[clo pl ps] w fun e w' => e = .returned (acV ⟨6, ⟨#[]⟩, n, ⟨#[]⟩⟩) ∧ Left w w' pl ps r := by
  obtain ⟨W1, hW1, H1⟩ := AR.new hr
  have HS : Hid (Std0 W0 w pl ps) := h0
  have HX : Hid (_ = _) := hx
  have HT0 : Hid (_ = _) := htr
  have HK : Hid _ := hk
  have HNn : Hid _ := hn
  clear h0 hr hx htr hk hn
  unfold clo
  go_enter Tryz.func91, Tryz.ntmps91
  go_wp2_with fail
  have HTl : Hid _ := H1.out.rd.nel
  refine Calls.mono (aw_any W1) ?_
  rintro e W2 ⟨rfl, ht, hb⟩
  have HT : Hid _ := ht
  have H2 := AR.bel H1 hb
  clear hb H1 ht
  go_wp2_with fail
  refine Calls.mono (next_yes pl ps [97, 100, 100] _ W2 H2.out.rd (HS.out.bs2 H2.out.bs).max) ?_
  rintro e W3 ⟨rfl, hr, hb⟩
  have H3 := AR.nxt H2 hr hb
  have HT2 : Hid _ := hb.tab HT.out HTl.out
  clear hr hb H2
  go_wp2_with fail
  refine Calls.mono (place_yes W1.heap.size 11 awL [97, 100, 100] 6 W3 rfl (by decide) (by decide) (by decide) HT2.out) ?_
  rintro e Wq ⟨rfl, hq⟩
  subst Wq
  clear HT HT2 HTl
  go_wp2_with fail
  have H4 := AC.new H3 (.int .i64 6) (.string ⟨#[]⟩) (.int .u32 0) (.string ⟨#[]⟩)
  clear H3
  generalize W3.alloc (.cells #[.int .i64 6, .string ⟨#[]⟩, .int .u32 0, .string ⟨#[]⟩] 40) = W4 at *
  generalize W3.heap.size = cb at *
  refine Calls.mono (next_gen pl ps x r t HX.out HT0.out W4 H4.out.r.rd (HS.out.bs2 H4.out.r.bs).max) ?_
  rintro e W5 ⟨rfl, hr, hb⟩
  have H5 := AC.nxt H4 hr hb
  clear hr hb H4
  go_wp2_with fail
  refine Calls.mono (comParse n x HK.out HNn.out W5 (HS.out.bs2 H5.out.r.bs).env) ?_
  rintro e W6 ⟨rfl, hb⟩
  have H6 := AC.bel H5 hb
  clear hb H5
  go_wp2_with fail
  refine Calls.mono (takenU (n : Int) W6) ?_
  rintro e Wq ⟨rfl, hq⟩
  subst Wq
  obtain ⟨W7, hW7, H7, z0, z1⟩ := AC.s2 H6 (.int .u32 (n : Int))
  clear H6
  obtain ⟨⟨y0, y1, y2, y3⟩, ⟨x0, x1, x2, x3⟩, f0, f1, f2, f3⟩ := AC.ys H7
  have HF := AC.fin H7
  clear H7
  go_wp2_with fail
  obtain ⟨WF, hWF, hLf, e0, e1, e2, e3⟩ := HF.out
  rw [hWF]
  refine bodyPost_ret (v := .agg #[.int .i64 6, .string ⟨#[]⟩, .int .u32 (n : Int), .string ⟨#[]⟩]) (by simp [results, Tryz.results91, go_sem, e0, e1, e2, e3]) rfl ?_
  exact ⟨rfl, hLf⟩
set_option maxHeartbeats 2000000 in
theorem ra6x (x : List UInt8) (t r : List (List UInt8)) (hx : t.headD [32] = x) (htr : t.tail = r) (pl ps : Nat) (W0 w : World) (hk : ∀ c, c < 4294967296 → ¬ (comT c = x)) (hxl : x.length < 140737488351233) (hEr : ErrsAt W0) (h0 : Std0 W0 w pl ps) (hr : Rd w pl ps ([97, 100, 100] :: t)) : Calls Tryz.prog 91 #[clo pl ps] w fun e w' => Pan w w' pl ps e := by
  obtain ⟨W1, hW1, H1⟩ := AR.new hr
  have HS : Hid (Std0 W0 w pl ps) := h0
  have HX : Hid (_ = _) := hx
  have HT0 : Hid (_ = _) := htr
  have HK : Hid _ := hk
  have HXl : Hid _ := hxl
  have HEr : Hid (ErrsAt W0) := hEr
  clear h0 hr hx htr hk hxl hEr
  unfold clo
  go_enter Tryz.func91, Tryz.ntmps91
  go_wp2_with fail
  have HTl : Hid _ := H1.out.rd.nel
  refine Calls.mono (aw_any W1) ?_
  rintro e W2 ⟨rfl, ht, hb⟩
  have HT : Hid _ := ht
  have H2 := AR.bel H1 hb
  clear hb H1 ht
  go_wp2_with fail
  refine Calls.mono (next_yes pl ps [97, 100, 100] _ W2 H2.out.rd (HS.out.bs2 H2.out.bs).max) ?_
  rintro e W3 ⟨rfl, hr, hb⟩
  have H3 := AR.nxt H2 hr hb
  have HT2 : Hid _ := hb.tab HT.out HTl.out
  clear hr hb H2
  go_wp2_with fail
  refine Calls.mono (place_yes W1.heap.size 11 awL [97, 100, 100] 6 W3 rfl (by decide) (by decide) (by decide) HT2.out) ?_
  rintro e Wq ⟨rfl, hq⟩
  subst Wq
  clear HT HT2 HTl
  go_wp2_with fail
  have H4 := AC.new H3 (.int .i64 6) (.string ⟨#[]⟩) (.int .u32 0) (.string ⟨#[]⟩)
  clear H3
  generalize W3.alloc (.cells #[.int .i64 6, .string ⟨#[]⟩, .int .u32 0, .string ⟨#[]⟩] 40) = W4 at *
  generalize W3.heap.size = cb at *
  refine Calls.mono (next_gen pl ps x r t HX.out HT0.out W4 H4.out.r.rd (HS.out.bs2 H4.out.r.bs).max) ?_
  rintro e W5 ⟨rfl, hr, hb⟩
  have H5 := AC.nxt H4 hr hb
  clear hr hb H4
  go_wp2_with fail
  refine Calls.mono (comParse_no x HK.out HXl.out W5 (HS.out.bs2 H5.out.r.bs).env (HEr.out.below ((HS.out.bs2 H5.out.r.bs).b))) ?_
  rintro e W6 ⟨rfl, hb⟩
  have H6 := AC.bel H5 hb
  clear hb H5
  go_wp2_with fail
  refine Calls.mono (takenU_no 0 4 rfl W6) ?_
  rintro e Wq ⟨rfl, hq⟩
  subst Wq
  have HZ : Hid (Pan w W6 pl ps (.panicked PAN)) := ⟨rfl, H6.out.r.bs⟩
  go_wp2_with fail
  exact ⟨rfl, HZ.out⟩
set_option maxHeartbeats 2000000 in
theorem ra9 (x : List UInt8) (t r : List (List UInt8)) (hx : t.headD [32] = x) (htr : t.tail = r) (pl ps : Nat) (W0 w : World) (b : ByteArray) (hb : b.size = 4 ∨ b.size = 16) (hk : x = adT b) (hEr : ErrsAt W0) (h0 : Std0 W0 w pl ps) (hr : Rd w pl ps ([110, 101, 120, 116] :: t)) : Calls Tryz.prog 91 #[clo pl ps] w fun e w' => e = .returned (acV ⟨9, ⟨#[]⟩, 0, b⟩) ∧ Left w w' pl ps r := by
  obtain ⟨W1, hW1, H1⟩ := AR.new hr
  have HS : Hid (Std0 W0 w pl ps) := h0
  have HX : Hid (_ = _) := hx
  have HT0 : Hid (_ = _) := htr
  have HK : Hid _ := hk
  have HEr : Hid (ErrsAt W0) := hEr
  have HBb : Hid _ := hb
  clear h0 hr hx htr hk hEr hb
  unfold clo
  go_enter Tryz.func91, Tryz.ntmps91
  go_wp2_with fail
  have HTl : Hid _ := H1.out.rd.nel
  refine Calls.mono (aw_any W1) ?_
  rintro e W2 ⟨rfl, ht, hb⟩
  have HT : Hid _ := ht
  have H2 := AR.bel H1 hb
  clear hb H1 ht
  go_wp2_with fail
  refine Calls.mono (next_yes pl ps [110, 101, 120, 116] _ W2 H2.out.rd (HS.out.bs2 H2.out.bs).max) ?_
  rintro e W3 ⟨rfl, hr, hb⟩
  have H3 := AR.nxt H2 hr hb
  have HT2 : Hid _ := hb.tab HT.out HTl.out
  clear hr hb H2
  go_wp2_with fail
  refine Calls.mono (place_yes W1.heap.size 11 awL [110, 101, 120, 116] 9 W3 rfl (by decide) (by decide) (by decide) HT2.out) ?_
  rintro e Wq ⟨rfl, hq⟩
  subst Wq
  clear HT HT2 HTl
  go_wp2_with fail
  have H4 := AC.new H3 (.int .i64 9) (.string ⟨#[]⟩) (.int .u32 0) (.string ⟨#[]⟩)
  clear H3
  generalize W3.alloc (.cells #[.int .i64 9, .string ⟨#[]⟩, .int .u32 0, .string ⟨#[]⟩] 40) = W4 at *
  generalize W3.heap.size = cb at *
  refine Calls.mono (next_gen pl ps x r t HX.out HT0.out W4 H4.out.r.rd (HS.out.bs2 H4.out.r.bs).max) ?_
  rintro e W5 ⟨rfl, hr, hb⟩
  have H5 := AC.nxt H4 hr hb
  clear hr hb H4
  go_wp2_with fail
  refine Calls.mono (adrParse b x HK.out HBb.out W5 (HS.out.bs2 H5.out.r.bs).env (HEr.out.below ((HS.out.bs2 H5.out.r.bs).b))) ?_
  rintro e W6 ⟨rfl, hb⟩
  have H6 := AC.bel H5 hb
  clear hb H5
  go_wp2_with fail
  refine Calls.mono (takenS b W6) ?_
  rintro e Wq ⟨rfl, hq⟩
  subst Wq
  obtain ⟨W7, hW7, H7, z0, z1⟩ := AC.s3 H6 (.string b)
  clear H6
  obtain ⟨⟨y0, y1, y2, y3⟩, ⟨x0, x1, x2, x3⟩, f0, f1, f2, f3⟩ := AC.ys H7
  have HF := AC.fin H7
  clear H7
  go_wp2_with fail
  obtain ⟨WF, hWF, hLf, e0, e1, e2, e3⟩ := HF.out
  rw [hWF]
  refine bodyPost_ret (v := .agg #[.int .i64 9, .string ⟨#[]⟩, .int .u32 0, .string b]) (by simp [results, Tryz.results91, go_sem, e0, e1, e2, e3]) rfl ?_
  exact ⟨rfl, hLf⟩
set_option maxHeartbeats 2000000 in
theorem ra9x (x : List UInt8) (t r : List (List UInt8)) (hx : t.headD [32] = x) (htr : t.tail = r) (pl ps : Nat) (W0 w : World) (hk : ∀ b : ByteArray, (b.size = 4 ∨ b.size = 16) → ¬ (x = adT b)) (hxl : x.length < 140737488351233) (hEr : ErrsAt W0) (h0 : Std0 W0 w pl ps) (hr : Rd w pl ps ([110, 101, 120, 116] :: t)) : Calls Tryz.prog 91 #[clo pl ps] w fun e w' => Pan w w' pl ps e := by
  obtain ⟨W1, hW1, H1⟩ := AR.new hr
  have HS : Hid (Std0 W0 w pl ps) := h0
  have HX : Hid (_ = _) := hx
  have HT0 : Hid (_ = _) := htr
  have HK : Hid _ := hk
  have HXl : Hid _ := hxl
  have HEr : Hid (ErrsAt W0) := hEr
  clear h0 hr hx htr hk hxl hEr
  unfold clo
  go_enter Tryz.func91, Tryz.ntmps91
  go_wp2_with fail
  have HTl : Hid _ := H1.out.rd.nel
  refine Calls.mono (aw_any W1) ?_
  rintro e W2 ⟨rfl, ht, hb⟩
  have HT : Hid _ := ht
  have H2 := AR.bel H1 hb
  clear hb H1 ht
  go_wp2_with fail
  refine Calls.mono (next_yes pl ps [110, 101, 120, 116] _ W2 H2.out.rd (HS.out.bs2 H2.out.bs).max) ?_
  rintro e W3 ⟨rfl, hr, hb⟩
  have H3 := AR.nxt H2 hr hb
  have HT2 : Hid _ := hb.tab HT.out HTl.out
  clear hr hb H2
  go_wp2_with fail
  refine Calls.mono (place_yes W1.heap.size 11 awL [110, 101, 120, 116] 9 W3 rfl (by decide) (by decide) (by decide) HT2.out) ?_
  rintro e Wq ⟨rfl, hq⟩
  subst Wq
  clear HT HT2 HTl
  go_wp2_with fail
  have H4 := AC.new H3 (.int .i64 9) (.string ⟨#[]⟩) (.int .u32 0) (.string ⟨#[]⟩)
  clear H3
  generalize W3.alloc (.cells #[.int .i64 9, .string ⟨#[]⟩, .int .u32 0, .string ⟨#[]⟩] 40) = W4 at *
  generalize W3.heap.size = cb at *
  refine Calls.mono (next_gen pl ps x r t HX.out HT0.out W4 H4.out.r.rd (HS.out.bs2 H4.out.r.bs).max) ?_
  rintro e W5 ⟨rfl, hr, hb⟩
  have H5 := AC.nxt H4 hr hb
  clear hr hb H4
  go_wp2_with fail
  refine Calls.mono (adrParse_no x HK.out HXl.out W5 (HS.out.bs2 H5.out.r.bs).env (HEr.out.below ((HS.out.bs2 H5.out.r.bs).b))) ?_
  rintro e W6 ⟨rfl, hb⟩
  have H6 := AC.bel H5 hb
  clear hb H5
  go_wp2_with fail
  refine Calls.mono (takenS_no ⟨#[]⟩ 4 rfl W6) ?_
  rintro e Wq ⟨rfl, hq⟩
  subst Wq
  have HZ : Hid (Pan w W6 pl ps (.panicked PAN)) := ⟨rfl, H6.out.r.bs⟩
  go_wp2_with fail
  exact ⟨rfl, HZ.out⟩
end Go.Proofs.YthaebbmekonacaaGreatDoor
