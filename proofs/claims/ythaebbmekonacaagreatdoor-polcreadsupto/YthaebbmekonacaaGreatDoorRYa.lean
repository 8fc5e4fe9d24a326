/-
  Conditions read, whatever the words are.
-/
import Derived.Test.YthaebbmekonacaaGreatDoorSX
set_option linter.unusedVariables false
set_option linter.unusedSimpArgs false
set_option maxRecDepth 100000
namespace Go.Proofs.YthaebbmekonacaaGreatDoor
open Go.RowKit
set_option maxHeartbeats 2000000 in
theorem rc1 (x : List UInt8) (t r : List (List UInt8)) (hx : t.headD [32] = x) (htr : t.tail = r) (pl ps : Nat) (W0 w : World) (h0 : Std0 W0 w pl ps) (hr : Rd w pl ps ([112, 114, 101, 102, 105, 120] :: t)) : Calls Tryz.prog 88 #[clo pl ps] w fun e w' => e = .returned (cdV ⟨1, false, ⟨x.toArray⟩, 0⟩) ∧ Left w w' pl ps r := by
  obtain ⟨W1, hW1, H1⟩ := SR.new hr
  have HS : Hid (Std0 W0 w pl ps) := h0
  have HX : Hid (_ = _) := hx
  have HT0 : Hid (_ = _) := htr
  clear h0 hr hx htr
  unfold clo
  go_enter Tryz.func88, Tryz.ntmps88
  go_wp2_with fail
  refine Calls.mono (next_yes pl ps [112, 114, 101, 102, 105, 120] _ W1 H1.out.rd (HS.out.bs2 H1.out.bs).max) ?_
  rintro e W2 ⟨rfl, hr, hb⟩
  have H2 := SR.nxt H1 hr hb
  clear hr hb H1
  go_wp2_with fail
  refine Calls.mono (cw_any W2) ?_
  rintro e W3 ⟨rfl, ht, hb⟩
  have HT : Hid _ := ht
  have H3 := SR.bel H2 hb
  clear hb H2 ht
  go_wp2_with fail
  refine Calls.mono (place_yes W2.heap.size 8 cwL [112, 114, 101, 102, 105, 120] 1 W3 rfl (by decide) (by decide) (by decide) HT.out) ?_
  rintro e Wq ⟨rfl, hq⟩
  subst Wq
  clear HT
  obtain ⟨W4, hW4, H4, z0, z1⟩ := SR.s0 H3 (.int .i64 1)
  clear H3
  have y0 := H4.out.y.c0
  go_wp2_with fail
  clear z0 z1 y0
  refine Calls.mono (next_gen pl ps x r t HX.out HT0.out W4 H4.out.rd (HS.out.bs2 H4.out.bs).max) ?_
  rintro e W5 ⟨rfl, hr, hb⟩
  have H5 := SR.nxt H4 hr hb
  clear hr hb H4
  obtain ⟨W6, hW6, H6, z0, z1⟩ := SR.s2 H5 (.string ⟨x.toArray⟩)
  clear H5
  obtain ⟨⟨y0, y1, y2, y3⟩, ⟨x0, x1, x2, x3⟩, f0, f1, f2, f3⟩ := SR.ys H6
  have HF := SR.fin H6
  clear H6
  go_wp2_with fail
  obtain ⟨WF, hWF, hLf, e0, e1, e2, e3⟩ := HF.out
  rw [hWF]
  refine bodyPost_ret (v := .agg #[.int .i64 1, .bool false, .string ⟨x.toArray⟩, .int .i64 0]) (by simp [results, Tryz.results88, go_sem, e0, e1, e2, e3]) rfl ?_
  exact ⟨rfl, hLf⟩
set_option maxHeartbeats 2000000 in
theorem rc1n (x : List UInt8) (t r : List (List UInt8)) (hx : t.headD [32] = x) (htr : t.tail = r) (pl ps : Nat) (W0 w : World) (h0 : Std0 W0 w pl ps) (hr : Rd w pl ps ([110, 111, 116] :: [112, 114, 101, 102, 105, 120] :: t)) : Calls Tryz.prog 88 #[clo pl ps] w fun e w' => e = .returned (cdV ⟨1, true, ⟨x.toArray⟩, 0⟩) ∧ Left w w' pl ps r := by
  obtain ⟨W1, hW1, H1⟩ := SR.new hr
  have HS : Hid (Std0 W0 w pl ps) := h0
  have HX : Hid (_ = _) := hx
  have HT0 : Hid (_ = _) := htr
  clear h0 hr hx htr
  unfold clo
  go_enter Tryz.func88, Tryz.ntmps88
  go_wp2_with fail
  refine Calls.mono (next_yes pl ps [110, 111, 116] _ W1 H1.out.rd (HS.out.bs2 H1.out.bs).max) ?_
  rintro e W2 ⟨rfl, hr, hb⟩
  have H2 := SR.nxt H1 hr hb
  clear hr hb H1
  go_wp2_with fail
  refine Calls.mono (next_yes pl ps [112, 114, 101, 102, 105, 120] _ W2 H2.out.rd (HS.out.bs2 H2.out.bs).max) ?_
  rintro e W3 ⟨rfl, hr, hb⟩
  have H3 := SR.nxt H2 hr hb
  clear hr hb H2
  obtain ⟨W4, hW4, H4, z0, z1⟩ := SR.s1 H3 (.bool true)
  clear H3
  go_wp2_with fail
  clear z0 z1
  refine Calls.mono (cw_any W4) ?_
  rintro e W5 ⟨rfl, ht, hb⟩
  have HT : Hid _ := ht
  have H5 := SR.bel H4 hb
  clear hb H4 ht
  go_wp2_with fail
  refine Calls.mono (place_yes W4.heap.size 8 cwL [112, 114, 101, 102, 105, 120] 1 W5 rfl (by decide) (by decide) (by decide) HT.out) ?_
  rintro e Wq ⟨rfl, hq⟩
  subst Wq
  clear HT
  obtain ⟨W6, hW6, H6, z0, z1⟩ := SR.s0 H5 (.int .i64 1)
  clear H5
  have y0 := H6.out.y.c0
  go_wp2_with fail
  clear z0 z1 y0
  refine Calls.mono (next_gen pl ps x r t HX.out HT0.out W6 H6.out.rd (HS.out.bs2 H6.out.bs).max) ?_
  rintro e W7 ⟨rfl, hr, hb⟩
  have H7 := SR.nxt H6 hr hb
  clear hr hb H6
  obtain ⟨W8, hW8, H8, z0, z1⟩ := SR.s2 H7 (.string ⟨x.toArray⟩)
  clear H7
  obtain ⟨⟨y0, y1, y2, y3⟩, ⟨x0, x1, x2, x3⟩, f0, f1, f2, f3⟩ := SR.ys H8
  have HF := SR.fin H8
  clear H8
  go_wp2_with fail
  obtain ⟨WF, hWF, hLf, e0, e1, e2, e3⟩ := HF.out
  rw [hWF]
  refine bodyPost_ret (v := .agg #[.int .i64 1, .bool true, .string ⟨x.toArray⟩, .int .i64 0]) (by simp [results, Tryz.results88, go_sem, e0, e1, e2, e3]) rfl ?_
  exact ⟨rfl, hLf⟩
set_option maxHeartbeats 2000000 in
theorem rc2 (x : List UInt8) (t r : List (List UInt8)) (hx : t.headD [32] = x) (htr : t.tail = r) (pl ps : Nat) (W0 w : World) (h0 : Std0 W0 w pl ps) (hr : Rd w pl ps ([99, 111, 109, 109] :: t)) : Calls Tryz.prog 88 #[clo pl ps] w fun e w' => e = .returned (cdV ⟨2, false, ⟨x.toArray⟩, 0⟩) ∧ Left w w' pl ps r := by
  obtain ⟨W1, hW1, H1⟩ := SR.new hr
  have HS : Hid (Std0 W0 w pl ps) := h0
  have HX : Hid (_ = _) := hx
  have HT0 : Hid (_ = _) := htr
  clear h0 hr hx htr
  unfold clo
  go_enter Tryz.func88, Tryz.ntmps88
  go_wp2_with fail
  refine Calls.mono (next_yes pl ps [99, 111, 109, 109] _ W1 H1.out.rd (HS.out.bs2 H1.out.bs).max) ?_
  rintro e W2 ⟨rfl, hr, hb⟩
  have H2 := SR.nxt H1 hr hb
  clear hr hb H1
  go_wp2_with fail
  refine Calls.mono (cw_any W2) ?_
  rintro e W3 ⟨rfl, ht, hb⟩
  have HT : Hid _ := ht
  have H3 := SR.bel H2 hb
  clear hb H2 ht
  go_wp2_with fail
  refine Calls.mono (place_yes W2.heap.size 8 cwL [99, 111, 109, 109] 2 W3 rfl (by decide) (by decide) (by decide) HT.out) ?_
  rintro e Wq ⟨rfl, hq⟩
  subst Wq
  clear HT
  obtain ⟨W4, hW4, H4, z0, z1⟩ := SR.s0 H3 (.int .i64 2)
  clear H3
  have y0 := H4.out.y.c0
  go_wp2_with fail
  clear z0 z1 y0
  refine Calls.mono (next_gen pl ps x r t HX.out HT0.out W4 H4.out.rd (HS.out.bs2 H4.out.bs).max) ?_
  rintro e W5 ⟨rfl, hr, hb⟩
  have H5 := SR.nxt H4 hr hb
  clear hr hb H4
  obtain ⟨W6, hW6, H6, z0, z1⟩ := SR.s2 H5 (.string ⟨x.toArray⟩)
  clear H5
  obtain ⟨⟨y0, y1, y2, y3⟩, ⟨x0, x1, x2, x3⟩, f0, f1, f2, f3⟩ := SR.ys H6
  have HF := SR.fin H6
  clear H6
  go_wp2_with fail
  obtain ⟨WF, hWF, hLf, e0, e1, e2, e3⟩ := HF.out
  rw [hWF]
  refine bodyPost_ret (v := .agg #[.int .i64 2, .bool false, .string ⟨x.toArray⟩, .int .i64 0]) (by simp [results, Tryz.results88, go_sem, e0, e1, e2, e3]) rfl ?_
  exact ⟨rfl, hLf⟩
set_option maxHeartbeats 2000000 in
theorem rc2n (x : List UInt8) (t r : List (List UInt8)) (hx : t.headD [32] = x) (htr : t.tail = r) (pl ps : Nat) (W0 w : World) (h0 : Std0 W0 w pl ps) (hr : Rd w pl ps ([110, 111, 116] :: [99, 111, 109, 109] :: t)) : Calls Tryz.prog 88 #[clo pl ps] w fun e w' => e = .returned (cdV ⟨2, true, ⟨x.toArray⟩, 0⟩) ∧ Left w w' pl ps r := by
  obtain ⟨W1, hW1, H1⟩ := SR.new hr
  have HS : Hid (Std0 W0 w pl ps) := h0
  have HX : Hid (_ = _) := hx
  have HT0 : Hid (_ = _) := htr
  clear h0 hr hx htr
  unfold clo
  go_enter Tryz.func88, Tryz.ntmps88
  go_wp2_with fail
  refine Calls.mono (next_yes pl ps [110, 111, 116] _ W1 H1.out.rd (HS.out.bs2 H1.out.bs).max) ?_
  rintro e W2 ⟨rfl, hr, hb⟩
  have H2 := SR.nxt H1 hr hb
  clear hr hb H1
  go_wp2_with fail
  refine Calls.mono (next_yes pl ps [99, 111, 109, 109] _ W2 H2.out.rd (HS.out.bs2 H2.out.bs).max) ?_
  rintro e W3 ⟨rfl, hr, hb⟩
  have H3 := SR.nxt H2 hr hb
  clear hr hb H2
  obtain ⟨W4, hW4, H4, z0, z1⟩ := SR.s1 H3 (.bool true)
  clear H3
  go_wp2_with fail
  clear z0 z1
  refine Calls.mono (cw_any W4) ?_
  rintro e W5 ⟨rfl, ht, hb⟩
  have HT : Hid _ := ht
  have H5 := SR.bel H4 hb
  clear hb H4 ht
  go_wp2_with fail
  refine Calls.mono (place_yes W4.heap.size 8 cwL [99, 111, 109, 109] 2 W5 rfl (by decide) (by decide) (by decide) HT.out) ?_
  rintro e Wq ⟨rfl, hq⟩
  subst Wq
  clear HT
  obtain ⟨W6, hW6, H6, z0, z1⟩ := SR.s0 H5 (.int .i64 2)
  clear H5
  have y0 := H6.out.y.c0
  go_wp2_with fail
  clear z0 z1 y0
  refine Calls.mono (next_gen pl ps x r t HX.out HT0.out W6 H6.out.rd (HS.out.bs2 H6.out.bs).max) ?_
  rintro e W7 ⟨rfl, hr, hb⟩
  have H7 := SR.nxt H6 hr hb
  clear hr hb H6
  obtain ⟨W8, hW8, H8, z0, z1⟩ := SR.s2 H7 (.string ⟨x.toArray⟩)
  clear H7
  obtain ⟨⟨y0, y1, y2, y3⟩, ⟨x0, x1, x2, x3⟩, f0, f1, f2, f3⟩ := SR.ys H8
  have HF := SR.fin H8
  clear H8
  go_wp2_with fail
  obtain ⟨WF, hWF, hLf, e0, e1, e2, e3⟩ := HF.out
  rw [hWF]
  refine bodyPost_ret (v := .agg #[.int .i64 2, .bool true, .string ⟨x.toArray⟩, .int .i64 0]) (by simp [results, Tryz.results88, go_sem, e0, e1, e2, e3]) rfl ?_
  exact ⟨rfl, hLf⟩
set_option maxHeartbeats 2000000 in
theorem rcP (x : List UInt8) (t r : List (List UInt8)) (hx : t.headD [32] = x) (htr : t.tail = r) (pl ps : Nat) (W0 w : World) (hk : plc cwL x = none) (hxn : (x == ([110, 111, 116] : List UInt8)) = false) (h0 : Std0 W0 w pl ps) (hr : Rd w pl ps (t)) : Calls Tryz.prog 88 #[clo pl ps] w fun e w' => Pan w w' pl ps e := by
  obtain ⟨W1, hW1, H1⟩ := SR.new hr
  have HS : Hid (Std0 W0 w pl ps) := h0
  have HX : Hid (_ = _) := hx
  have HT0 : Hid (_ = _) := htr
  have HK : Hid (_ = _) := hk
  clear h0 hr hx htr hk
  unfold clo
  go_enter Tryz.func88, Tryz.ntmps88
  go_wp2_with fail
  refine Calls.mono (next_gen pl ps x r t HX.out HT0.out W1 H1.out.rd (HS.out.bs2 H1.out.bs).max) ?_
  rintro e W2 ⟨rfl, hr, hb⟩
  have H2 := SR.nxt H1 hr hb
  clear hr hb H1
  go_wp2_with fail
  refine Calls.mono (cw_any W2) ?_
  rintro e W3 ⟨rfl, ht, hb⟩
  have HT : Hid _ := ht
  have H3 := SR.bel H2 hb
  clear hb H2 ht
  go_wp2_with fail
  refine Calls.mono (place_none W2.heap.size 8 cwL x W3 rfl (by decide) HK.out HT.out) ?_
  rintro e Wq ⟨rfl, hq⟩
  subst Wq
  have HZ : Hid (Pan w W3 pl ps (.panicked PAN)) := ⟨rfl, H3.out.bs⟩
  go_wp2_with fail
  exact ⟨rfl, HZ.out⟩
set_option maxHeartbeats 2000000 in
theorem rcPn (x : List UInt8) (t r : List (List UInt8)) (hx : t.headD [32] = x) (htr : t.tail = r) (pl ps : Nat) (W0 w : World) (hk : plc cwL x = none) (h0 : Std0 W0 w pl ps) (hr : Rd w pl ps ([110, 111, 116] :: t)) : Calls Tryz.prog 88 #[clo pl ps] w fun e w' => Pan w w' pl ps e := by
  obtain ⟨W1, hW1, H1⟩ := SR.new hr
  have HS : Hid (Std0 W0 w pl ps) := h0
  have HX : Hid (_ = _) := hx
  have HT0 : Hid (_ = _) := htr
  have HK : Hid (_ = _) := hk
  clear h0 hr hx htr hk
  unfold clo
  go_enter Tryz.func88, Tryz.ntmps88
  go_wp2_with fail
  refine Calls.mono (next_yes pl ps [110, 111, 116] _ W1 H1.out.rd (HS.out.bs2 H1.out.bs).max) ?_
  rintro e W2 ⟨rfl, hr, hb⟩
  have H2 := SR.nxt H1 hr hb
  clear hr hb H1
  go_wp2_with fail
  refine Calls.mono (next_gen pl ps x r t HX.out HT0.out W2 H2.out.rd (HS.out.bs2 H2.out.bs).max) ?_
  rintro e W3 ⟨rfl, hr, hb⟩
  have H3 := SR.nxt H2 hr hb
  clear hr hb H2
  obtain ⟨W4, hW4, H4, z0, z1⟩ := SR.s1 H3 (.bool true)
  clear H3
  go_wp2_with fail
  clear z0 z1
  refine Calls.mono (cw_any W4) ?_
  rintro e W5 ⟨rfl, ht, hb⟩
  have HT : Hid _ := ht
  have H5 := SR.bel H4 hb
  clear hb H4 ht
  go_wp2_with fail
  refine Calls.mono (place_none W4.heap.size 8 cwL x W5 rfl (by decide) HK.out HT.out) ?_
  rintro e Wq ⟨rfl, hq⟩
  subst Wq
  have HZ : Hid (Pan w W5 pl ps (.panicked PAN)) := ⟨rfl, H5.out.bs⟩
  go_wp2_with fail
  exact ⟨rfl, HZ.out⟩
set_option maxHeartbeats 2000000 in
theorem rc3 (x : List UInt8) (t r : List (List UInt8)) (hx : t.headD [32] = x) (htr : t.tail = r) (pl ps : Nat) (W0 w : World) (h0 : Std0 W0 w pl ps) (hr : Rd w pl ps ([112, 97, 116, 104] :: t)) : Calls Tryz.prog 88 #[clo pl ps] w fun e w' => e = .returned (cdV ⟨3, false, ⟨x.toArray⟩, 0⟩) ∧ Left w w' pl ps r := by
  obtain ⟨W1, hW1, H1⟩ := SR.new hr
  have HS : Hid (Std0 W0 w pl ps) := h0
  have HX : Hid (_ = _) := hx
  have HT0 : Hid (_ = _) := htr
  clear h0 hr hx htr
  unfold clo
  go_enter Tryz.func88, Tryz.ntmps88
  go_wp2_with fail
  refine Calls.mono (next_yes pl ps [112, 97, 116, 104] _ W1 H1.out.rd (HS.out.bs2 H1.out.bs).max) ?_
  rintro e W2 ⟨rfl, hr, hb⟩
  have H2 := SR.nxt H1 hr hb
  clear hr hb H1
  go_wp2_with fail
  refine Calls.mono (cw_any W2) ?_
  rintro e W3 ⟨rfl, ht, hb⟩
  have HT : Hid _ := ht
  have H3 := SR.bel H2 hb
  clear hb H2 ht
  go_wp2_with fail
  refine Calls.mono (place_yes W2.heap.size 8 cwL [112, 97, 116, 104] 3 W3 rfl (by decide) (by decide) (by decide) HT.out) ?_
  rintro e Wq ⟨rfl, hq⟩
  subst Wq
  clear HT
  obtain ⟨W4, hW4, H4, z0, z1⟩ := SR.s0 H3 (.int .i64 3)
  clear H3
  have y0 := H4.out.y.c0
  go_wp2_with fail
  clear z0 z1 y0
  refine Calls.mono (next_gen pl ps x r t HX.out HT0.out W4 H4.out.rd (HS.out.bs2 H4.out.bs).max) ?_
  rintro e W5 ⟨rfl, hr, hb⟩
  have H5 := SR.nxt H4 hr hb
  clear hr hb H4
  obtain ⟨W6, hW6, H6, z0, z1⟩ := SR.s2 H5 (.string ⟨x.toArray⟩)
  clear H5
  obtain ⟨⟨y0, y1, y2, y3⟩, ⟨x0, x1, x2, x3⟩, f0, f1, f2, f3⟩ := SR.ys H6
  have HF := SR.fin H6
  clear H6
  go_wp2_with fail
  obtain ⟨WF, hWF, hLf, e0, e1, e2, e3⟩ := HF.out
  rw [hWF]
  refine bodyPost_ret (v := .agg #[.int .i64 3, .bool false, .string ⟨x.toArray⟩, .int .i64 0]) (by simp [results, Tryz.results88, go_sem, e0, e1, e2, e3]) rfl ?_
  exact ⟨rfl, hLf⟩
set_option maxHeartbeats 2000000 in
theorem rc3n (x : List UInt8) (t r : List (List UInt8)) (hx : t.headD [32] = x) (htr : t.tail = r) (pl ps : Nat) (W0 w : World) (h0 : Std0 W0 w pl ps) (hr : Rd w pl ps ([110, 111, 116] :: [112, 97, 116, 104] :: t)) : Calls Tryz.prog 88 #[clo pl ps] w fun e w' => e = .returned (cdV ⟨3, true, ⟨x.toArray⟩, 0⟩) ∧ Left w w' pl ps r := by
  obtain ⟨W1, hW1, H1⟩ := SR.new hr
  have HS : Hid (Std0 W0 w pl ps) := h0
  have HX : Hid (_ = _) := hx
  have HT0 : Hid (_ = _) := htr
  clear h0 hr hx htr
  unfold clo
  go_enter Tryz.func88, Tryz.ntmps88
  go_wp2_with fail
  refine Calls.mono (next_yes pl ps [110, 111, 116] _ W1 H1.out.rd (HS.out.bs2 H1.out.bs).max) ?_
  rintro e W2 ⟨rfl, hr, hb⟩
  have H2 := SR.nxt H1 hr hb
  clear hr hb H1
  go_wp2_with fail
  refine Calls.mono (next_yes pl ps [112, 97, 116, 104] _ W2 H2.out.rd (HS.out.bs2 H2.out.bs).max) ?_
  rintro e W3 ⟨rfl, hr, hb⟩
  have H3 := SR.nxt H2 hr hb
  clear hr hb H2
  obtain ⟨W4, hW4, H4, z0, z1⟩ := SR.s1 H3 (.bool true)
  clear H3
  go_wp2_with fail
  clear z0 z1
  refine Calls.mono (cw_any W4) ?_
  rintro e W5 ⟨rfl, ht, hb⟩
  have HT : Hid _ := ht
  have H5 := SR.bel H4 hb
  clear hb H4 ht
  go_wp2_with fail
  refine Calls.mono (place_yes W4.heap.size 8 cwL [112, 97, 116, 104] 3 W5 rfl (by decide) (by decide) (by decide) HT.out) ?_
  rintro e Wq ⟨rfl, hq⟩
  subst Wq
  clear HT
  obtain ⟨W6, hW6, H6, z0, z1⟩ := SR.s0 H5 (.int .i64 3)
  clear H5
  have y0 := H6.out.y.c0
  go_wp2_with fail
  clear z0 z1 y0
  refine Calls.mono (next_gen pl ps x r t HX.out HT0.out W6 H6.out.rd (HS.out.bs2 H6.out.bs).max) ?_
  rintro e W7 ⟨rfl, hr, hb⟩
  have H7 := SR.nxt H6 hr hb
  clear hr hb H6
  obtain ⟨W8, hW8, H8, z0, z1⟩ := SR.s2 H7 (.string ⟨x.toArray⟩)
  clear H7
  obtain ⟨⟨y0, y1, y2, y3⟩, ⟨x0, x1, x2, x3⟩, f0, f1, f2, f3⟩ := SR.ys H8
  have HF := SR.fin H8
  clear H8
  go_wp2_with fail
  obtain ⟨WF, hWF, hLf, e0, e1, e2, e3⟩ := HF.out
  rw [hWF]
  refine bodyPost_ret (v := .agg #[.int .i64 3, .bool true, .string ⟨x.toArray⟩, .int .i64 0]) (by simp [results, Tryz.results88, go_sem, e0, e1, e2, e3]) rfl ?_
  exact ⟨rfl, hLf⟩
set_option maxHeartbeats 2000000 in
theorem rc4 (x : List UInt8) (t r : List (List UInt8)) (hx : t.headD [32] = x) (htr : t.tail = r) (pl ps : Nat) (W0 w : World) (h0 : Std0 W0 w pl ps) (hr : Rd w pl ps ([112, 101, 101, 114] :: t)) : Calls Tryz.prog 88 #[clo pl ps] w fun e w' => e = .returned (cdV ⟨4, false, ⟨x.toArray⟩, 0⟩) ∧ Left w w' pl ps r := by
  obtain ⟨W1, hW1, H1⟩ := SR.new hr
  have HS : Hid (Std0 W0 w pl ps) := h0
  have HX : Hid (_ = _) := hx
  have HT0 : Hid (_ = _) := htr
  clear h0 hr hx htr
  unfold clo
  go_enter Tryz.func88, Tryz.ntmps88
  go_wp2_with fail
  refine Calls.mono (next_yes pl ps [112, 101, 101, 114] _ W1 H1.out.rd (HS.out.bs2 H1.out.bs).max) ?_
  rintro e W2 ⟨rfl, hr, hb⟩
  have H2 := SR.nxt H1 hr hb
  clear hr hb H1
  go_wp2_with fail
  refine Calls.mono (cw_any W2) ?_
  rintro e W3 ⟨rfl, ht, hb⟩
  have HT : Hid _ := ht
  have H3 := SR.bel H2 hb
  clear hb H2 ht
  go_wp2_with fail
  refine Calls.mono (place_yes W2.heap.size 8 cwL [112, 101, 101, 114] 4 W3 rfl (by decide) (by decide) (by decide) HT.out) ?_
  rintro e Wq ⟨rfl, hq⟩
  subst Wq
  clear HT
  obtain ⟨W4, hW4, H4, z0, z1⟩ := SR.s0 H3 (.int .i64 4)
  clear H3
  have y0 := H4.out.y.c0
  go_wp2_with fail
  clear z0 z1 y0
  refine Calls.mono (next_gen pl ps x r t HX.out HT0.out W4 H4.out.rd (HS.out.bs2 H4.out.bs).max) ?_
  rintro e W5 ⟨rfl, hr, hb⟩
  have H5 := SR.nxt H4 hr hb
  clear hr hb H4
  obtain ⟨W6, hW6, H6, z0, z1⟩ := SR.s2 H5 (.string ⟨x.toArray⟩)
  clear H5
  obtain ⟨⟨y0, y1, y2, y3⟩, ⟨x0, x1, x2, x3⟩, f0, f1, f2, f3⟩ := SR.ys H6
  have HF := SR.fin H6
  clear H6
  go_wp2_with fail
  obtain ⟨WF, hWF, hLf, e0, e1, e2, e3⟩ := HF.out
  rw [hWF]
  refine bodyPost_ret (v := .agg #[.int .i64 4, .bool false, .string ⟨x.toArray⟩, .int .i64 0]) (by simp [results, Tryz.results88, go_sem, e0, e1, e2, e3]) rfl ?_
  exact ⟨rfl, hLf⟩
set_option maxHeartbeats 2000000 in
theorem rc4n (x : List UInt8) (t r : List (List UInt8)) (hx : t.headD [32] = x) (htr : t.tail = r) (pl ps : Nat) (W0 w : World) (h0 : Std0 W0 w pl ps) (hr : Rd w pl ps ([110, 111, 116] :: [112, 101, 101, 114] :: t)) : Calls Tryz.prog 88 #[clo pl ps] w fun e w' => e = .returned (cdV ⟨4, true, ⟨x.toArray⟩, 0⟩) ∧ Left w w' pl ps r := by
  obtain ⟨W1, hW1, H1⟩ := SR.new hr
  have HS : Hid (Std0 W0 w pl ps) := h0
  have HX : Hid (_ = _) := hx
  have HT0 : Hid (_ = _) := htr
  clear h0 hr hx htr
  unfold clo
  go_enter Tryz.func88, Tryz.ntmps88
  go_wp2_with fail
  refine Calls.mono (next_yes pl ps [110, 111, 116] _ W1 H1.out.rd (HS.out.bs2 H1.out.bs).max) ?_
  rintro e W2 ⟨rfl, hr, hb⟩
  have H2 := SR.nxt H1 hr hb
  clear hr hb H1
  go_wp2_with fail
  refine Calls.mono (next_yes pl ps [112, 101, 101, 114] _ W2 H2.out.rd (HS.out.bs2 H2.out.bs).max) ?_
  rintro e W3 ⟨rfl, hr, hb⟩
  have H3 := SR.nxt H2 hr hb
  clear hr hb H2
  obtain ⟨W4, hW4, H4, z0, z1⟩ := SR.s1 H3 (.bool true)
  clear H3
  go_wp2_with fail
  clear z0 z1
  refine Calls.mono (cw_any W4) ?_
  rintro e W5 ⟨rfl, ht, hb⟩
  have HT : Hid _ := ht
  have H5 := SR.bel H4 hb
  clear hb H4 ht
  go_wp2_with fail
  refine Calls.mono (place_yes W4.heap.size 8 cwL [112, 101, 101, 114] 4 W5 rfl (by decide) (by decide) (by decide) HT.out) ?_
  rintro e Wq ⟨rfl, hq⟩
  subst Wq
  clear HT
  obtain ⟨W6, hW6, H6, z0, z1⟩ := SR.s0 H5 (.int .i64 4)
  clear H5
  have y0 := H6.out.y.c0
  go_wp2_with fail
  clear z0 z1 y0
  refine Calls.mono (next_gen pl ps x r t HX.out HT0.out W6 H6.out.rd (HS.out.bs2 H6.out.bs).max) ?_
  rintro e W7 ⟨rfl, hr, hb⟩
  have H7 := SR.nxt H6 hr hb
  clear hr hb H6
  obtain ⟨W8, hW8, H8, z0, z1⟩ := SR.s2 H7 (.string ⟨x.toArray⟩)
  clear H7
  obtain ⟨⟨y0, y1, y2, y3⟩, ⟨x0, x1, x2, x3⟩, f0, f1, f2, f3⟩ := SR.ys H8
  have HF := SR.fin H8
  clear H8
  go_wp2_with fail
  obtain ⟨WF, hWF, hLf, e0, e1, e2, e3⟩ := HF.out
  rw [hWF]
  refine bodyPost_ret (v := .agg #[.int .i64 4, .bool true, .string ⟨x.toArray⟩, .int .i64 0]) (by simp [results, Tryz.results88, go_sem, e0, e1, e2, e3]) rfl ?_
  exact ⟨rfl, hLf⟩
set_option maxHeartbeats 2000000 in
theorem rc6x (x : List UInt8) (t r : List (List UInt8)) (hx : t.headD [32] = x) (htr : t.tail = r) (pl ps : Nat) (W0 w : World) (hk : nmO x = none) (hxl : x.length ≤ 281474976710656) (hEr : ErrsAt W0) (h0 : Std0 W0 w pl ps) (hr : Rd w pl ps ([108, 101, 110, 103, 116, 104] :: t)) : Calls Tryz.prog 88 #[clo pl ps] w fun e w' => Pan w w' pl ps e := by
  obtain ⟨W1, hW1, H1⟩ := SR.new hr
  have HS : Hid (Std0 W0 w pl ps) := h0
  have HX : Hid (_ = _) := hx
  have HT0 : Hid (_ = _) := htr
  have HK : Hid (_ = _) := hk
  have HXl : Hid (x.length ≤ 281474976710656) := hxl
  have HEr : Hid (ErrsAt W0) := hEr
  clear h0 hr hx htr hk hxl hEr
  unfold clo
  go_enter Tryz.func88, Tryz.ntmps88
  go_wp2_with fail
  refine Calls.mono (next_yes pl ps [108, 101, 110, 103, 116, 104] _ W1 H1.out.rd (HS.out.bs2 H1.out.bs).max) ?_
  rintro e W2 ⟨rfl, hr, hb⟩
  have H2 := SR.nxt H1 hr hb
  clear hr hb H1
  go_wp2_with fail
  refine Calls.mono (cw_any W2) ?_
  rintro e W3 ⟨rfl, ht, hb⟩
  have HT : Hid _ := ht
  have H3 := SR.bel H2 hb
  clear hb H2 ht
  go_wp2_with fail
  refine Calls.mono (place_yes W2.heap.size 8 cwL [108, 101, 110, 103, 116, 104] 6 W3 rfl (by decide) (by decide) (by decide) HT.out) ?_
  rintro e Wq ⟨rfl, hq⟩
  subst Wq
  clear HT
  obtain ⟨W4, hW4, H4, z0, z1⟩ := SR.s0 H3 (.int .i64 6)
  clear H3
  have y0 := H4.out.y.c0
  go_wp2_with fail
  clear z0 z1 y0
  refine Calls.mono (next_gen pl ps x r t HX.out HT0.out W4 H4.out.rd (HS.out.bs2 H4.out.bs).max) ?_
  rintro e W5 ⟨rfl, hr, hb⟩
  have H5 := SR.nxt H4 hr hb
  clear hr hb H4
  go_wp2_with fail
  refine Calls.mono (number_none x HK.out HXl.out W5 (HEr.out.below ((HS.out.bs2 H5.out.bs).b)) (HS.out.bs2 H5.out.bs).env.e.p) ?_
  rintro e W6 ⟨rfl, hb⟩
  have H6 := SR.bel H5 hb
  clear hb H5
  have HZ : Hid (Pan w W6 pl ps (.panicked PAN)) := ⟨rfl, H6.out.bs⟩
  go_wp2_with fail
  exact ⟨rfl, HZ.out⟩
set_option maxHeartbeats 2000000 in
theorem rc6nx (x : List UInt8) (t r : List (List UInt8)) (hx : t.headD [32] = x) (htr : t.tail = r) (pl ps : Nat) (W0 w : World) (hk : nmO x = none) (hxl : x.length ≤ 281474976710656) (hEr : ErrsAt W0) (h0 : Std0 W0 w pl ps) (hr : Rd w pl ps ([110, 111, 116] :: [108, 101, 110, 103, 116, 104] :: t)) : Calls Tryz.prog 88 #[clo pl ps] w fun e w' => Pan w w' pl ps e := by
  obtain ⟨W1, hW1, H1⟩ := SR.new hr
  have HS : Hid (Std0 W0 w pl ps) := h0
  have HX : Hid (_ = _) := hx
  have HT0 : Hid (_ = _) := htr
  have HK : Hid (_ = _) := hk
  have HXl : Hid (x.length ≤ 281474976710656) := hxl
  have HEr : Hid (ErrsAt W0) := hEr
  clear h0 hr hx htr hk hxl hEr
  unfold clo
  go_enter Tryz.func88, Tryz.ntmps88
  go_wp2_with fail
  refine Calls.mono (next_yes pl ps [110, 111, 116] _ W1 H1.out.rd (HS.out.bs2 H1.out.bs).max) ?_
  rintro e W2 ⟨rfl, hr, hb⟩
  have H2 := SR.nxt H1 hr hb
  clear hr hb H1
  go_wp2_with fail
  refine Calls.mono (next_yes pl ps [108, 101, 110, 103, 116, 104] _ W2 H2.out.rd (HS.out.bs2 H2.out.bs).max) ?_
  rintro e W3 ⟨rfl, hr, hb⟩
  have H3 := SR.nxt H2 hr hb
  clear hr hb H2
  obtain ⟨W4, hW4, H4, z0, z1⟩ := SR.s1 H3 (.bool true)
  clear H3
  go_wp2_with fail
  clear z0 z1
  refine Calls.mono (cw_any W4) ?_
  rintro e W5 ⟨rfl, ht, hb⟩
  have HT : Hid _ := ht
  have H5 := SR.bel H4 hb
  clear hb H4 ht
  go_wp2_with fail
  refine Calls.mono (place_yes W4.heap.size 8 cwL [108, 101, 110, 103, 116, 104] 6 W5 rfl (by decide) (by decide) (by decide) HT.out) ?_
  rintro e Wq ⟨rfl, hq⟩
  subst Wq
  clear HT
  obtain ⟨W6, hW6, H6, z0, z1⟩ := SR.s0 H5 (.int .i64 6)
  clear H5
  have y0 := H6.out.y.c0
  go_wp2_with fail
  clear z0 z1 y0
  refine Calls.mono (next_gen pl ps x r t HX.out HT0.out W6 H6.out.rd (HS.out.bs2 H6.out.bs).max) ?_
  rintro e W7 ⟨rfl, hr, hb⟩
  have H7 := SR.nxt H6 hr hb
  clear hr hb H6
  go_wp2_with fail
  refine Calls.mono (number_none x HK.out HXl.out W7 (HEr.out.below ((HS.out.bs2 H7.out.bs).b)) (HS.out.bs2 H7.out.bs).env.e.p) ?_
  rintro e W8 ⟨rfl, hb⟩
  have H8 := SR.bel H7 hb
  clear hb H7
  have HZ : Hid (Pan w W8 pl ps (.panicked PAN)) := ⟨rfl, H8.out.bs⟩
  go_wp2_with fail
  exact ⟨rfl, HZ.out⟩
end Go.Proofs.YthaebbmekonacaaGreatDoor
