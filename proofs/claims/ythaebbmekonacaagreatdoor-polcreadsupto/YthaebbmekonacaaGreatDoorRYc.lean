/-
  Conditions read, whatever the words are.
-/
import Derived.Test.YthaebbmekonacaaGreatDoorSX
set_option linter.unusedVariables false
set_option linter.unusedSimpArgs false
set_option maxRecDepth 100000
namespace Go.Proofs.YthaebbmekonacaaGreatDoor
open Go.RowKit
set_option maxHeartbeats 2000000 in
theorem rc5 (x : List UInt8) (t r : List (List UInt8)) (hx : t.headD [32] = x) (htr : t.tail = r) (pl ps : Nat) (W0 w : World) (n : Nat) (hn : n ≤ 100) (hk : plc owL x = some n) (h0 : Std0 W0 w pl ps) (hr : Rd w pl ps ([111, 114, 105, 103, 105, 110] :: t)) : Calls Tryz.prog 88 #[clo pl ps] w fun e w' => e = .returned (cdV ⟨5, false, ⟨#[]⟩, (n : Int)⟩) ∧ Left w w' pl ps r := by
  obtain ⟨W1, hW1, H1⟩ := SR.new hr
  have HS : Hid (Std0 W0 w pl ps) := h0
  have HX : Hid (_ = _) := hx
  have HT0 : Hid (_ = _) := htr
  have HK : Hid (_ = _) := hk
  clear h0 hr hx htr hk
  unfold clo
  go_enter Tryz.func88, Tryz.ntmps88
  go_wp2_with fail
  refine Calls.mono (next_yes pl ps [111, 114, 105, 103, 105, 110] _ W1 H1.out.rd (HS.out.bs2 H1.out.bs).max) ?_
  rintro e W2 ⟨rfl, hr, hb⟩
  have H2 := SR.nxt H1 hr hb
  clear hr hb H1
  go_wp2_with fail
  refine Calls.mono (cw_any W2) ?_
  rintro e W3 ⟨rfl, ht, hb⟩
  have HT : Hid _ := ht
  have H3 := SR.bel H2 hb
  clear hb H2 ht
  go_wp2_with fail
  refine Calls.mono (place_yes W2.heap.size 8 cwL [111, 114, 105, 103, 105, 110] 5 W3 rfl (by decide) (by decide) (by decide) HT.out) ?_
  rintro e Wq ⟨rfl, hq⟩
  subst Wq
  clear HT
  obtain ⟨W4, hW4, H4, z0, z1⟩ := SR.s0 H3 (.int .i64 5)
  clear H3
  have y0 := H4.out.y.c0
  go_wp2_with fail
  clear z0 z1 y0
  have HTl : Hid _ := H4.out.rd.nel
  refine Calls.mono (ow_any W4) ?_
  rintro e W5 ⟨rfl, ht, hb⟩
  have HT : Hid _ := ht
  have H5 := SR.bel H4 hb
  clear hb H4 ht
  go_wp2_with fail
  refine Calls.mono (next_gen pl ps x r t HX.out HT0.out W5 H5.out.rd (HS.out.bs2 H5.out.bs).max) ?_
  rintro e W6 ⟨rfl, hr, hb⟩
  have H6 := SR.nxt H5 hr hb
  have HT2 : Hid _ := hb.tab HT.out HTl.out
  clear hr hb H5
  go_wp2_with fail
  refine Calls.mono (place_some W4.heap.size 3 owL x n W6 rfl (by decide) HK.out HT2.out) ?_
  rintro e Wq ⟨rfl, hq⟩
  subst Wq
  clear HT HT2
  obtain ⟨W7, hW7, H7, z0, z1⟩ := SR.s3 H6 (.int .i64 (n : Int))
  clear H6
  obtain ⟨⟨y0, y1, y2, y3⟩, ⟨x0, x1, x2, x3⟩, f0, f1, f2, f3⟩ := SR.ys H7
  have HF := SR.fin H7
  clear H7
  go_wp2_with fail
  obtain ⟨WF, hWF, hLf, e0, e1, e2, e3⟩ := HF.out
  rw [hWF]
  refine bodyPost_ret (v := .agg #[.int .i64 5, .bool false, .string ⟨#[]⟩, .int .i64 (n : Int)]) (by simp [results, Tryz.results88, go_sem, e0, e1, e2, e3]) rfl ?_
  exact ⟨rfl, hLf⟩
set_option maxHeartbeats 2000000 in
theorem rc5n (x : List UInt8) (t r : List (List UInt8)) (hx : t.headD [32] = x) (htr : t.tail = r) (pl ps : Nat) (W0 w : World) (n : Nat) (hn : n ≤ 100) (hk : plc owL x = some n) (h0 : Std0 W0 w pl ps) (hr : Rd w pl ps ([110, 111, 116] :: [111, 114, 105, 103, 105, 110] :: t)) : Calls Tryz.prog 88 #[clo pl ps] w fun e w' => e = .returned (cdV ⟨5, true, ⟨#[]⟩, (n : Int)⟩) ∧ Left w w' pl ps r := by
  obtain ⟨W1, hW1, H1⟩ := SR.new hr
  have HS : Hid (Std0 W0 w pl ps) := h0
  have HX : Hid (_ = _) := hx
  have HT0 : Hid (_ = _) := htr
  have HK : Hid (_ = _) := hk
  clear h0 hr hx htr hk
  unfold clo
  go_enter Tryz.func88, Tryz.ntmps88
  go_wp2_with fail
  refine Calls.mono (next_yes pl ps [110, 111, 116] _ W1 H1.out.rd (HS.out.bs2 H1.out.bs).max) ?_
  rintro e W2 ⟨rfl, hr, hb⟩
  have H2 := SR.nxt H1 hr hb
  clear hr hb H1
  go_wp2_with fail
  refine Calls.mono (next_yes pl ps [111, 114, 105, 103, 105, 110] _ W2 H2.out.rd (HS.out.bs2 H2.out.bs).max) ?_
  rintro e W3 ⟨rfl, hr, hb⟩
  have H3 := SR.nxt H2 hr hb
  clear hr hb H2
  obtain ⟨W4, hW4, H4, z0, z1⟩ := SR.s1 H3 (.bool true)
  clear H3
  go_wp2_with fail
  clear z0 z1
  refine Calls.mono (cw_any W4) ?_
  rintro e W5 ⟨rfl, ht, hb⟩
  have HT : Hid _ := ht
  have H5 := SR.bel H4 hb
  clear hb H4 ht
  go_wp2_with fail
  refine Calls.mono (place_yes W4.heap.size 8 cwL [111, 114, 105, 103, 105, 110] 5 W5 rfl (by decide) (by decide) (by decide) HT.out) ?_
  rintro e Wq ⟨rfl, hq⟩
  subst Wq
  clear HT
  obtain ⟨W6, hW6, H6, z0, z1⟩ := SR.s0 H5 (.int .i64 5)
  clear H5
  have y0 := H6.out.y.c0
  go_wp2_with fail
  clear z0 z1 y0
  have HTl : Hid _ := H6.out.rd.nel
  refine Calls.mono (ow_any W6) ?_
  rintro e W7 ⟨rfl, ht, hb⟩
  have HT : Hid _ := ht
  have H7 := SR.bel H6 hb
  clear hb H6 ht
  go_wp2_with fail
  refine Calls.mono (next_gen pl ps x r t HX.out HT0.out W7 H7.out.rd (HS.out.bs2 H7.out.bs).max) ?_
  rintro e W8 ⟨rfl, hr, hb⟩
  have H8 := SR.nxt H7 hr hb
  have HT2 : Hid _ := hb.tab HT.out HTl.out
  clear hr hb H7
  go_wp2_with fail
  refine Calls.mono (place_some W6.heap.size 3 owL x n W8 rfl (by decide) HK.out HT2.out) ?_
  rintro e Wq ⟨rfl, hq⟩
  subst Wq
  clear HT HT2
  obtain ⟨W9, hW9, H9, z0, z1⟩ := SR.s3 H8 (.int .i64 (n : Int))
  clear H8
  obtain ⟨⟨y0, y1, y2, y3⟩, ⟨x0, x1, x2, x3⟩, f0, f1, f2, f3⟩ := SR.ys H9
  have HF := SR.fin H9
  clear H9
  go_wp2_with fail
  obtain ⟨WF, hWF, hLf, e0, e1, e2, e3⟩ := HF.out
  rw [hWF]
  refine bodyPost_ret (v := .agg #[.int .i64 5, .bool true, .string ⟨#[]⟩, .int .i64 (n : Int)]) (by simp [results, Tryz.results88, go_sem, e0, e1, e2, e3]) rfl ?_
  exact ⟨rfl, hLf⟩
set_option maxHeartbeats 2000000 in
theorem rc5x (x : List UInt8) (t r : List (List UInt8)) (hx : t.headD [32] = x) (htr : t.tail = r) (pl ps : Nat) (W0 w : World) (hk : plc owL x = none) (h0 : Std0 W0 w pl ps) (hr : Rd w pl ps ([111, 114, 105, 103, 105, 110] :: t)) : Calls Tryz.prog 88 #[clo pl ps] w fun e w' => Pan w w' pl ps e := by
  obtain ⟨W1, hW1, H1⟩ := SR.new hr
  have HS : Hid (Std0 W0 w pl ps) := h0
  have HX : Hid (_ = _) := hx
  have HT0 : Hid (_ = _) := htr
  have HK : Hid (_ = _) := hk
  clear h0 hr hx htr hk
  unfold clo
  go_enter Tryz.func88, Tryz.ntmps88
  go_wp2_with fail
  refine Calls.mono (next_yes pl ps [111, 114, 105, 103, 105, 110] _ W1 H1.out.rd (HS.out.bs2 H1.out.bs).max) ?_
  rintro e W2 ⟨rfl, hr, hb⟩
  have H2 := SR.nxt H1 hr hb
  clear hr hb H1
  go_wp2_with fail
  refine Calls.mono (cw_any W2) ?_
  rintro e W3 ⟨rfl, ht, hb⟩
  have HT : Hid _ := ht
  have H3 := SR.bel H2 hb
  clear hb H2 ht
  go_wp2_with fail
  refine Calls.mono (place_yes W2.heap.size 8 cwL [111, 114, 105, 103, 105, 110] 5 W3 rfl (by decide) (by decide) (by decide) HT.out) ?_
  rintro e Wq ⟨rfl, hq⟩
  subst Wq
  clear HT
  obtain ⟨W4, hW4, H4, z0, z1⟩ := SR.s0 H3 (.int .i64 5)
  clear H3
  have y0 := H4.out.y.c0
  go_wp2_with fail
  clear z0 z1 y0
  have HTl : Hid _ := H4.out.rd.nel
  refine Calls.mono (ow_any W4) ?_
  rintro e W5 ⟨rfl, ht, hb⟩
  have HT : Hid _ := ht
  have H5 := SR.bel H4 hb
  clear hb H4 ht
  go_wp2_with fail
  refine Calls.mono (next_gen pl ps x r t HX.out HT0.out W5 H5.out.rd (HS.out.bs2 H5.out.bs).max) ?_
  rintro e W6 ⟨rfl, hr, hb⟩
  have H6 := SR.nxt H5 hr hb
  have HT2 : Hid _ := hb.tab HT.out HTl.out
  clear hr hb H5
  go_wp2_with fail
  refine Calls.mono (place_none W4.heap.size 3 owL x W6 rfl (by decide) HK.out HT2.out) ?_
  rintro e Wq ⟨rfl, hq⟩
  subst Wq
  have HZ : Hid (Pan w W6 pl ps (.panicked PAN)) := ⟨rfl, H6.out.bs⟩
  go_wp2_with fail
  exact ⟨rfl, HZ.out⟩
set_option maxHeartbeats 2000000 in
theorem rc5nx (x : List UInt8) (t r : List (List UInt8)) (hx : t.headD [32] = x) (htr : t.tail = r) (pl ps : Nat) (W0 w : World) (hk : plc owL x = none) (h0 : Std0 W0 w pl ps) (hr : Rd w pl ps ([110, 111, 116] :: [111, 114, 105, 103, 105, 110] :: t)) : Calls Tryz.prog 88 #[clo pl ps] w fun e w' => Pan w w' pl ps e := by
  obtain ⟨W1, hW1, H1⟩ := SR.new hr
  have HS : Hid (Std0 W0 w pl ps) := h0
  have HX : Hid (_ = _) := hx
  have HT0 : Hid (_ = _) := htr
  have HK : Hid (_ = _) := hk
  clear h0 hr hx htr hk
  unfold clo
  go_enter Tryz.func88, Tryz.ntmps88
  go_wp2_with fail
  refine Calls.mono (next_yes pl ps [110, 111, 116] _ W1 H1.out.rd (HS.out.bs2 H1.out.bs).max) ?_
  rintro e W2 ⟨rfl, hr, hb⟩
  have H2 := SR.nxt H1 hr hb
  clear hr hb H1
  go_wp2_with fail
  refine Calls.mono (next_yes pl ps [111, 114, 105, 103, 105, 110] _ W2 H2.out.rd (HS.out.bs2 H2.out.bs).max) ?_
  rintro e W3 ⟨rfl, hr, hb⟩
  have H3 := SR.nxt H2 hr hb
  clear hr hb H2
  obtain ⟨W4, hW4, H4, z0, z1⟩ := SR.s1 H3 (.bool true)
  clear H3
  go_wp2_with fail
  clear z0 z1
  refine Calls.mono (cw_any W4) ?_
  rintro e W5 ⟨rfl, ht, hb⟩
  have HT : Hid _ := ht
  have H5 := SR.bel H4 hb
  clear hb H4 ht
  go_wp2_with fail
  refine Calls.mono (place_yes W4.heap.size 8 cwL [111, 114, 105, 103, 105, 110] 5 W5 rfl (by decide) (by decide) (by decide) HT.out) ?_
  rintro e Wq ⟨rfl, hq⟩
  subst Wq
  clear HT
  obtain ⟨W6, hW6, H6, z0, z1⟩ := SR.s0 H5 (.int .i64 5)
  clear H5
  have y0 := H6.out.y.c0
  go_wp2_with fail
  clear z0 z1 y0
  have HTl : Hid _ := H6.out.rd.nel
  refine Calls.mono (ow_any W6) ?_
  rintro e W7 ⟨rfl, ht, hb⟩
  have HT : Hid _ := ht
  have H7 := SR.bel H6 hb
  clear hb H6 ht
  go_wp2_with fail
  refine Calls.mono (next_gen pl ps x r t HX.out HT0.out W7 H7.out.rd (HS.out.bs2 H7.out.bs).max) ?_
  rintro e W8 ⟨rfl, hr, hb⟩
  have H8 := SR.nxt H7 hr hb
  have HT2 : Hid _ := hb.tab HT.out HTl.out
  clear hr hb H7
  go_wp2_with fail
  refine Calls.mono (place_none W6.heap.size 3 owL x W8 rfl (by decide) HK.out HT2.out) ?_
  rintro e Wq ⟨rfl, hq⟩
  subst Wq
  have HZ : Hid (Pan w W8 pl ps (.panicked PAN)) := ⟨rfl, H8.out.bs⟩
  go_wp2_with fail
  exact ⟨rfl, HZ.out⟩
set_option maxHeartbeats 2000000 in
theorem rc6 (x : List UInt8) (t r : List (List UInt8)) (hx : t.headD [32] = x) (htr : t.tail = r) (pl ps : Nat) (W0 w : World) (n : Nat) (hn : n < 4294967296) (hk : nmO x = some n) (hxl : x.length ≤ 281474976710656) (hEr : ErrsAt W0) (h0 : Std0 W0 w pl ps) (hr : Rd w pl ps ([108, 101, 110, 103, 116, 104] :: t)) : Calls Tryz.prog 88 #[clo pl ps] w fun e w' => e = .returned (cdV ⟨6, false, ⟨#[]⟩, (n : Int)⟩) ∧ Left w w' pl ps r := by
  obtain ⟨W1, hW1, H1⟩ := SR.new hr
  have HS : Hid (Std0 W0 w pl ps) := h0
  have HX : Hid (_ = _) := hx
  have HT0 : Hid (_ = _) := htr
  have HK : Hid (_ = _) := hk
  have HXl : Hid (x.length ≤ 281474976710656) := hxl
  have HEr : Hid (ErrsAt W0) := hEr
  clear h0 hr hx htr hk hxl hEr
  unfold clo
  go_enter Tryz.func88, Tryz.ntmps88
  go_wp2_with fail
  refine Calls.mono (next_yes pl ps [108, 101, 110, 103, 116, 104] _ W1 H1.out.rd (HS.out.bs2 H1.out.bs).max) ?_
  rintro e W2 ⟨rfl, hr, hb⟩
  have H2 := SR.nxt H1 hr hb
  clear hr hb H1
  go_wp2_with fail
  refine Calls.mono (cw_any W2) ?_
  rintro e W3 ⟨rfl, ht, hb⟩
  have HT : Hid _ := ht
  have H3 := SR.bel H2 hb
  clear hb H2 ht
  go_wp2_with fail
  refine Calls.mono (place_yes W2.heap.size 8 cwL [108, 101, 110, 103, 116, 104] 6 W3 rfl (by decide) (by decide) (by decide) HT.out) ?_
  rintro e Wq ⟨rfl, hq⟩
  subst Wq
  clear HT
  obtain ⟨W4, hW4, H4, z0, z1⟩ := SR.s0 H3 (.int .i64 6)
  clear H3
  have y0 := H4.out.y.c0
  go_wp2_with fail
  clear z0 z1 y0
  refine Calls.mono (next_gen pl ps x r t HX.out HT0.out W4 H4.out.rd (HS.out.bs2 H4.out.bs).max) ?_
  rintro e W5 ⟨rfl, hr, hb⟩
  have H5 := SR.nxt H4 hr hb
  clear hr hb H4
  go_wp2_with fail
  refine Calls.mono (number_some x n HK.out HXl.out W5 (HEr.out.below ((HS.out.bs2 H5.out.bs).b)) (HS.out.bs2 H5.out.bs).env.e.p) ?_
  rintro e W6 ⟨rfl, hb⟩
  have H6 := SR.bel H5 hb
  clear hb H5
  have hwn : IntKind.i64.wrap (n : Int) = n := by rw [IntKind.wrap_i64]; omega
  obtain ⟨W7, hW7, H7, z0, z1⟩ := SR.s3 H6 (.int .i64 (n : Int))
  clear H6
  obtain ⟨⟨y0, y1, y2, y3⟩, ⟨x0, x1, x2, x3⟩, f0, f1, f2, f3⟩ := SR.ys H7
  have HF := SR.fin H7
  clear H7
  go_wp2_with fail
  obtain ⟨WF, hWF, hLf, e0, e1, e2, e3⟩ := HF.out
  rw [hWF]
  refine bodyPost_ret (v := .agg #[.int .i64 6, .bool false, .string ⟨#[]⟩, .int .i64 (n : Int)]) (by simp [results, Tryz.results88, go_sem, e0, e1, e2, e3]) rfl ?_
  exact ⟨rfl, hLf⟩
set_option maxHeartbeats 2000000 in
theorem rc6n (x : List UInt8) (t r : List (List UInt8)) (hx : t.headD [32] = x) (htr : t.tail = r) (pl ps : Nat) (W0 w : World) (n : Nat) (hn : n < 4294967296) (hk : nmO x = some n) (hxl : x.length ≤ 281474976710656) (hEr : ErrsAt W0) (h0 : Std0 W0 w pl ps) (hr : Rd w pl ps ([110, 111, 116] :: [108, 101, 110, 103, 116, 104] :: t)) : Calls Tryz.prog 88 #[clo pl ps] w fun e w' => e = .returned (cdV ⟨6, true, ⟨#[]⟩, (n : Int)⟩) ∧ Left w w' pl ps r := by
  obtain ⟨W1, hW1, H1⟩ := SR.new hr
  have HS : Hid (Std0 W0 w pl ps) := h0
  have HX : Hid (_ = _) := hx
  have HT0 : Hid (_ = _) := htr
  have HK : Hid (_ = _) := hk
  have HXl : Hid (x.length ≤ 281474976710656) := hxl
  have HEr : Hid (ErrsAt W0) := hEr
  clear h0 hr hx htr hk hxl hEr
  unfold clo
  go_enter Tryz.func88, Tryz.ntmps88
  go_wp2_with fail
  refine Calls.mono (next_yes pl ps [110, 111, 116] _ W1 H1.out.rd (HS.out.bs2 H1.out.bs).max) ?_
  rintro e W2 ⟨rfl, hr, hb⟩
  have H2 := SR.nxt H1 hr hb
  clear hr hb H1
  go_wp2_with fail
  refine Calls.mono (next_yes pl ps [108, 101, 110, 103, 116, 104] _ W2 H2.out.rd (HS.out.bs2 H2.out.bs).max) ?_
  rintro e W3 ⟨rfl, hr, hb⟩
  have H3 := SR.nxt H2 hr hb
  clear hr hb H2
  obtain ⟨W4, hW4, H4, z0, z1⟩ := SR.s1 H3 (.bool true)
  clear H3
  go_wp2_with fail
  clear z0 z1
  refine Calls.mono (cw_any W4) ?_
  rintro e W5 ⟨rfl, ht, hb⟩
  have HT : Hid _ := ht
  have H5 := SR.bel H4 hb
  clear hb H4 ht
  go_wp2_with fail
  refine Calls.mono (place_yes W4.heap.size 8 cwL [108, 101, 110, 103, 116, 104] 6 W5 rfl (by decide) (by decide) (by decide) HT.out) ?_
  rintro e Wq ⟨rfl, hq⟩
  subst Wq
  clear HT
  obtain ⟨W6, hW6, H6, z0, z1⟩ := SR.s0 H5 (.int .i64 6)
  clear H5
  have y0 := H6.out.y.c0
  go_wp2_with fail
  clear z0 z1 y0
  refine Calls.mono (next_gen pl ps x r t HX.out HT0.out W6 H6.out.rd (HS.out.bs2 H6.out.bs).max) ?_
  rintro e W7 ⟨rfl, hr, hb⟩
  have H7 := SR.nxt H6 hr hb
  clear hr hb H6
  go_wp2_with fail
  refine Calls.mono (number_some x n HK.out HXl.out W7 (HEr.out.below ((HS.out.bs2 H7.out.bs).b)) (HS.out.bs2 H7.out.bs).env.e.p) ?_
  rintro e W8 ⟨rfl, hb⟩
  have H8 := SR.bel H7 hb
  clear hb H7
  have hwn : IntKind.i64.wrap (n : Int) = n := by rw [IntKind.wrap_i64]; omega
  obtain ⟨W9, hW9, H9, z0, z1⟩ := SR.s3 H8 (.int .i64 (n : Int))
  clear H8
  obtain ⟨⟨y0, y1, y2, y3⟩, ⟨x0, x1, x2, x3⟩, f0, f1, f2, f3⟩ := SR.ys H9
  have HF := SR.fin H9
  clear H9
  go_wp2_with fail
  obtain ⟨WF, hWF, hLf, e0, e1, e2, e3⟩ := HF.out
  rw [hWF]
  refine bodyPost_ret (v := .agg #[.int .i64 6, .bool true, .string ⟨#[]⟩, .int .i64 (n : Int)]) (by simp [results, Tryz.results88, go_sem, e0, e1, e2, e3]) rfl ?_
  exact ⟨rfl, hLf⟩
set_option maxHeartbeats 2000000 in
theorem rc7 (x : List UInt8) (t r : List (List UInt8)) (hx : t.headD [32] = x) (htr : t.tail = r) (pl ps : Nat) (W0 w : World) (n : Nat) (hn : n ≤ 100) (hk : plc fwL x = some n) (h0 : Std0 W0 w pl ps) (hr : Rd w pl ps ([102, 97, 109] :: t)) : Calls Tryz.prog 88 #[clo pl ps] w fun e w' => e = .returned (cdV ⟨7, false, ⟨#[]⟩, (n : Int)⟩) ∧ Left w w' pl ps r := by
  obtain ⟨W1, hW1, H1⟩ := SR.new hr
  have HS : Hid (Std0 W0 w pl ps) := h0
  have HX : Hid (_ = _) := hx
  have HT0 : Hid (_ = _) := htr
  have HK : Hid (_ = _) := hk
  clear h0 hr hx htr hk
  unfold clo
  go_enter Tryz.func88, Tryz.ntmps88
  go_wp2_with fail
  refine Calls.mono (next_yes pl ps [102, 97, 109] _ W1 H1.out.rd (HS.out.bs2 H1.out.bs).max) ?_
  rintro e W2 ⟨rfl, hr, hb⟩
  have H2 := SR.nxt H1 hr hb
  clear hr hb H1
  go_wp2_with fail
  refine Calls.mono (cw_any W2) ?_
  rintro e W3 ⟨rfl, ht, hb⟩
  have HT : Hid _ := ht
  have H3 := SR.bel H2 hb
  clear hb H2 ht
  go_wp2_with fail
  refine Calls.mono (place_yes W2.heap.size 8 cwL [102, 97, 109] 7 W3 rfl (by decide) (by decide) (by decide) HT.out) ?_
  rintro e Wq ⟨rfl, hq⟩
  subst Wq
  clear HT
  obtain ⟨W4, hW4, H4, z0, z1⟩ := SR.s0 H3 (.int .i64 7)
  clear H3
  have y0 := H4.out.y.c0
  go_wp2_with fail
  clear z0 z1 y0
  have HTl : Hid _ := H4.out.rd.nel
  refine Calls.mono (fw_any W4) ?_
  rintro e W5 ⟨rfl, ht, hb⟩
  have HT : Hid _ := ht
  have H5 := SR.bel H4 hb
  clear hb H4 ht
  go_wp2_with fail
  refine Calls.mono (next_gen pl ps x r t HX.out HT0.out W5 H5.out.rd (HS.out.bs2 H5.out.bs).max) ?_
  rintro e W6 ⟨rfl, hr, hb⟩
  have H6 := SR.nxt H5 hr hb
  have HT2 : Hid _ := hb.tab HT.out HTl.out
  clear hr hb H5
  go_wp2_with fail
  refine Calls.mono (place_some W4.heap.size 6 fwL x n W6 rfl (by decide) HK.out HT2.out) ?_
  rintro e Wq ⟨rfl, hq⟩
  subst Wq
  clear HT HT2
  obtain ⟨W7, hW7, H7, z0, z1⟩ := SR.s3 H6 (.int .i64 (n : Int))
  clear H6
  obtain ⟨⟨y0, y1, y2, y3⟩, ⟨x0, x1, x2, x3⟩, f0, f1, f2, f3⟩ := SR.ys H7
  have HF := SR.fin H7
  clear H7
  go_wp2_with fail
  obtain ⟨WF, hWF, hLf, e0, e1, e2, e3⟩ := HF.out
  rw [hWF]
  refine bodyPost_ret (v := .agg #[.int .i64 7, .bool false, .string ⟨#[]⟩, .int .i64 (n : Int)]) (by simp [results, Tryz.results88, go_sem, e0, e1, e2, e3]) rfl ?_
  exact ⟨rfl, hLf⟩
set_option maxHeartbeats 2000000 in
theorem rc7n (x : List UInt8) (t r : List (List UInt8)) (hx : t.headD [32] = x) (htr : t.tail = r) (pl ps : Nat) (W0 w : World) (n : Nat) (hn : n ≤ 100) (hk : plc fwL x = some n) (h0 : Std0 W0 w pl ps) (hr : Rd w pl ps ([110, 111, 116] :: [102, 97, 109] :: t)) : Calls Tryz.prog 88 #[clo pl ps] w fun e w' => e = .returned (cdV ⟨7, true, ⟨#[]⟩, (n : Int)⟩) ∧ Left w w' pl ps r := by
  obtain ⟨W1, hW1, H1⟩ := SR.new hr
  have HS : Hid (Std0 W0 w pl ps) := h0
  have HX : Hid (_ = _) := hx
  have HT0 : Hid (_ = _) := htr
  have HK : Hid (_ = _) := hk
  clear h0 hr hx htr hk
  unfold clo
  go_enter Tryz.func88, Tryz.ntmps88
  go_wp2_with fail
  refine Calls.mono (next_yes pl ps [110, 111, 116] _ W1 H1.out.rd (HS.out.bs2 H1.out.bs).max) ?_
  rintro e W2 ⟨rfl, hr, hb⟩
  have H2 := SR.nxt H1 hr hb
  clear hr hb H1
  go_wp2_with fail
  refine Calls.mono (next_yes pl ps [102, 97, 109] _ W2 H2.out.rd (HS.out.bs2 H2.out.bs).max) ?_
  rintro e W3 ⟨rfl, hr, hb⟩
  have H3 := SR.nxt H2 hr hb
  clear hr hb H2
  obtain ⟨W4, hW4, H4, z0, z1⟩ := SR.s1 H3 (.bool true)
  clear H3
  go_wp2_with fail
  clear z0 z1
  refine Calls.mono (cw_any W4) ?_
  rintro e W5 ⟨rfl, ht, hb⟩
  have HT : Hid _ := ht
  have H5 := SR.bel H4 hb
  clear hb H4 ht
  go_wp2_with fail
  refine Calls.mono (place_yes W4.heap.size 8 cwL [102, 97, 109] 7 W5 rfl (by decide) (by decide) (by decide) HT.out) ?_
  rintro e Wq ⟨rfl, hq⟩
  subst Wq
  clear HT
  obtain ⟨W6, hW6, H6, z0, z1⟩ := SR.s0 H5 (.int .i64 7)
  clear H5
  have y0 := H6.out.y.c0
  go_wp2_with fail
  clear z0 z1 y0
  have HTl : Hid _ := H6.out.rd.nel
  refine Calls.mono (fw_any W6) ?_
  rintro e W7 ⟨rfl, ht, hb⟩
  have HT : Hid _ := ht
  have H7 := SR.bel H6 hb
  clear hb H6 ht
  go_wp2_with fail
  refine Calls.mono (next_gen pl ps x r t HX.out HT0.out W7 H7.out.rd (HS.out.bs2 H7.out.bs).max) ?_
  rintro e W8 ⟨rfl, hr, hb⟩
  have H8 := SR.nxt H7 hr hb
  have HT2 : Hid _ := hb.tab HT.out HTl.out
  clear hr hb H7
  go_wp2_with fail
  refine Calls.mono (place_some W6.heap.size 6 fwL x n W8 rfl (by decide) HK.out HT2.out) ?_
  rintro e Wq ⟨rfl, hq⟩
  subst Wq
  clear HT HT2
  obtain ⟨W9, hW9, H9, z0, z1⟩ := SR.s3 H8 (.int .i64 (n : Int))
  clear H8
  obtain ⟨⟨y0, y1, y2, y3⟩, ⟨x0, x1, x2, x3⟩, f0, f1, f2, f3⟩ := SR.ys H9
  have HF := SR.fin H9
  clear H9
  go_wp2_with fail
  obtain ⟨WF, hWF, hLf, e0, e1, e2, e3⟩ := HF.out
  rw [hWF]
  refine bodyPost_ret (v := .agg #[.int .i64 7, .bool true, .string ⟨#[]⟩, .int .i64 (n : Int)]) (by simp [results, Tryz.results88, go_sem, e0, e1, e2, e3]) rfl ?_
  exact ⟨rfl, hLf⟩
set_option maxHeartbeats 2000000 in
theorem rc7x (x : List UInt8) (t r : List (List UInt8)) (hx : t.headD [32] = x) (htr : t.tail = r) (pl ps : Nat) (W0 w : World) (hk : plc fwL x = none) (h0 : Std0 W0 w pl ps) (hr : Rd w pl ps ([102, 97, 109] :: t)) : Calls Tryz.prog 88 #[clo pl ps] w fun e w' => Pan w w' pl ps e := by
  obtain ⟨W1, hW1, H1⟩ := SR.new hr
  have HS : Hid (Std0 W0 w pl ps) := h0
  have HX : Hid (_ = _) := hx
  have HT0 : Hid (_ = _) := htr
  have HK : Hid (_ = _) := hk
  clear h0 hr hx htr hk
  unfold clo
  go_enter Tryz.func88, Tryz.ntmps88
  go_wp2_with fail
  refine Calls.mono (next_yes pl ps [102, 97, 109] _ W1 H1.out.rd (HS.out.bs2 H1.out.bs).max) ?_
  rintro e W2 ⟨rfl, hr, hb⟩
  have H2 := SR.nxt H1 hr hb
  clear hr hb H1
  go_wp2_with fail
  refine Calls.mono (cw_any W2) ?_
  rintro e W3 ⟨rfl, ht, hb⟩
  have HT : Hid _ := ht
  have H3 := SR.bel H2 hb
  clear hb H2 ht
  go_wp2_with fail
  refine Calls.mono (place_yes W2.heap.size 8 cwL [102, 97, 109] 7 W3 rfl (by decide) (by decide) (by decide) HT.out) ?_
  rintro e Wq ⟨rfl, hq⟩
  subst Wq
  clear HT
  obtain ⟨W4, hW4, H4, z0, z1⟩ := SR.s0 H3 (.int .i64 7)
  clear H3
  have y0 := H4.out.y.c0
  go_wp2_with fail
  clear z0 z1 y0
  have HTl : Hid _ := H4.out.rd.nel
  refine Calls.mono (fw_any W4) ?_
  rintro e W5 ⟨rfl, ht, hb⟩
  have HT : Hid _ := ht
  have H5 := SR.bel H4 hb
  clear hb H4 ht
  go_wp2_with fail
  refine Calls.mono (next_gen pl ps x r t HX.out HT0.out W5 H5.out.rd (HS.out.bs2 H5.out.bs).max) ?_
  rintro e W6 ⟨rfl, hr, hb⟩
  have H6 := SR.nxt H5 hr hb
  have HT2 : Hid _ := hb.tab HT.out HTl.out
  clear hr hb H5
  go_wp2_with fail
  refine Calls.mono (place_none W4.heap.size 6 fwL x W6 rfl (by decide) HK.out HT2.out) ?_
  rintro e Wq ⟨rfl, hq⟩
  subst Wq
  have HZ : Hid (Pan w W6 pl ps (.panicked PAN)) := ⟨rfl, H6.out.bs⟩
  go_wp2_with fail
  exact ⟨rfl, HZ.out⟩
set_option maxHeartbeats 2000000 in
theorem rc7nx (x : List UInt8) (t r : List (List UInt8)) (hx : t.headD [32] = x) (htr : t.tail = r) (pl ps : Nat) (W0 w : World) (hk : plc fwL x = none) (h0 : Std0 W0 w pl ps) (hr : Rd w pl ps ([110, 111, 116] :: [102, 97, 109] :: t)) : Calls Tryz.prog 88 #[clo pl ps] w fun e w' => Pan w w' pl ps e := by
  obtain ⟨W1, hW1, H1⟩ := SR.new hr
  have HS : Hid (Std0 W0 w pl ps) := h0
  have HX : Hid (_ = _) := hx
  have HT0 : Hid (_ = _) := htr
  have HK : Hid (_ = _) := hk
  clear h0 hr hx htr hk
  unfold clo
  go_enter Tryz.func88, Tryz.ntmps88
  go_wp2_with fail
  refine Calls.mono (next_yes pl ps [110, 111, 116] _ W1 H1.out.rd (HS.out.bs2 H1.out.bs).max) ?_
  rintro e W2 ⟨rfl, hr, hb⟩
  have H2 := SR.nxt H1 hr hb
  clear hr hb H1
  go_wp2_with fail
  refine Calls.mono (next_yes pl ps [102, 97, 109] _ W2 H2.out.rd (HS.out.bs2 H2.out.bs).max) ?_
  rintro e W3 ⟨rfl, hr, hb⟩
  have H3 := SR.nxt H2 hr hb
  clear hr hb H2
  obtain ⟨W4, hW4, H4, z0, z1⟩ := SR.s1 H3 (.bool true)
  clear H3
  go_wp2_with fail
  clear z0 z1
  refine Calls.mono (cw_any W4) ?_
  rintro e W5 ⟨rfl, ht, hb⟩
  have HT : Hid _ := ht
  have H5 := SR.bel H4 hb
  clear hb H4 ht
  go_wp2_with fail
  refine Calls.mono (place_yes W4.heap.size 8 cwL [102, 97, 109] 7 W5 rfl (by decide) (by decide) (by decide) HT.out) ?_
  rintro e Wq ⟨rfl, hq⟩
  subst Wq
  clear HT
  obtain ⟨W6, hW6, H6, z0, z1⟩ := SR.s0 H5 (.int .i64 7)
  clear H5
  have y0 := H6.out.y.c0
  go_wp2_with fail
  clear z0 z1 y0
  have HTl : Hid _ := H6.out.rd.nel
  refine Calls.mono (fw_any W6) ?_
  rintro e W7 ⟨rfl, ht, hb⟩
  have HT : Hid _ := ht
  have H7 := SR.bel H6 hb
  clear hb H6 ht
  go_wp2_with fail
  refine Calls.mono (next_gen pl ps x r t HX.out HT0.out W7 H7.out.rd (HS.out.bs2 H7.out.bs).max) ?_
  rintro e W8 ⟨rfl, hr, hb⟩
  have H8 := SR.nxt H7 hr hb
  have HT2 : Hid _ := hb.tab HT.out HTl.out
  clear hr hb H7
  go_wp2_with fail
  refine Calls.mono (place_none W6.heap.size 6 fwL x W8 rfl (by decide) HK.out HT2.out) ?_
  rintro e Wq ⟨rfl, hq⟩
  subst Wq
  have HZ : Hid (Pan w W8 pl ps (.panicked PAN)) := ⟨rfl, H8.out.bs⟩
  go_wp2_with fail
  exact ⟨rfl, HZ.out⟩
end Go.Proofs.YthaebbmekonacaaGreatDoor
