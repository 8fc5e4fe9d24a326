/-
  The reference reads a condition.
-/
import Derived.Test.YthaebbmekonacaaGreatDoorRZ1
set_option linter.unusedVariables false
set_option linter.unusedSimpArgs false
set_option maxRecDepth 100000
namespace Go.Proofs.YthaebbmekonacaaGreatDoor
open Go.RowKit
theorem bset {B : Nat} {a w : World} (h : Below B a w) {b i : Nat} {v : Value} (hb : B ≤ b) : Below B a (w.setCell ⟨b, i, none⟩ v) :=
  h.trans ⟨rfl, rfl, rfl, by simp, fun k hk => by simp only [World.setCell, Array.getElem?_modify]; rw [if_neg (by omega)]⟩
/-- The word at a place. -/
def AtI (v : Value) (j : Nat) (w : World) (Y : ByteArray) : Prop := ∀ (z : Int) (W : World), z = (j : Int) → Below w.heap.size w W → Calls Tryz.prog 52 #[v, .int .i64 z] W fun e w' => e = .returned (.string Y) ∧ w' = W
/-- Where the reference's reading of a condition stands. -/
structure CC (w W : World) (a b c d : Value) : Prop where
  bl : Below w.heap.size w W
  x : C4 W w.heap.size (.int .i64 0) (.bool false) (.string ⟨#[]⟩) (.int .i64 0)
  y : C4 W (w.heap.size + 1) a b c d
theorem CC.new (w : World) : ∃ W1, (w.alloc (.cells #[.int .i64 0, .bool false, .string ⟨#[]⟩, .int .i64 0] 37)).alloc (.cells #[.int .i64 0, .bool false, .string ⟨#[]⟩, .int .i64 0] 37) = W1 ∧ Hid (CC w W1 (.int .i64 0) (.bool false) (.string ⟨#[]⟩) (.int .i64 0)) := by
  have hsz : (w.alloc (.cells #[.int .i64 0, .bool false, .string ⟨#[]⟩, .int .i64 0] 37)).heap.size = w.heap.size + 1 := by simp
  have bb := ((Below.refl w.heap.size w).alloc (Nat.le_refl _) (.cells #[.int .i64 0, .bool false, .string ⟨#[]⟩, .int .i64 0] 37)).alloc (by rw [hsz]; omega) (.cells #[.int .i64 0, .bool false, .string ⟨#[]⟩, .int .i64 0] 37)
  refine ⟨_, rfl, ⟨bb, (C4.new w 37 _ _ _ _).below ((Below.refl _ _).alloc (Nat.le_refl _) _), ?_⟩⟩
  have := C4.new (w.alloc (.cells #[.int .i64 0, .bool false, .string ⟨#[]⟩, .int .i64 0] 37)) 37 (.int .i64 0) (.bool false) (.string ⟨#[]⟩) (.int .i64 0)
  rw [hsz] at this
  exact this
theorem CC.bel {w W W' : World} {a b c d : Value} (h : Hid (CC w W a b c d)) (hb : Below W.heap.size W W') : Hid (CC w W' a b c d) := ⟨h.out.bl.trans (hb.mono h.out.bl.size), h.out.x.below hb, h.out.y.below hb⟩
theorem CC.s0 {w W : World} {a b c d : Value} (h : Hid (CC w W a b c d)) (v : Value) : ∃ W', W.setCell ⟨w.heap.size + 1, 0, none⟩ v = W' ∧ Hid (CC w W' v b c d) ∧ W.cell? ⟨w.heap.size + 1, 0, none⟩ = some a ∧ W.frozen? ⟨w.heap.size + 1, 0, none⟩ = false :=
  ⟨_, rfl, ⟨bset h.out.bl (by omega), h.out.x.other (by omega), h.out.y.set0⟩, h.out.y.c0, h.out.y.f 0⟩
theorem CC.s1 {w W : World} {a b c d : Value} (h : Hid (CC w W a b c d)) (v : Value) : ∃ W', W.setCell ⟨w.heap.size + 1, 1, none⟩ v = W' ∧ Hid (CC w W' a v c d) ∧ W.cell? ⟨w.heap.size + 1, 1, none⟩ = some b ∧ W.frozen? ⟨w.heap.size + 1, 1, none⟩ = false :=
  ⟨_, rfl, ⟨bset h.out.bl (by omega), h.out.x.other (by omega), h.out.y.set1⟩, h.out.y.c1, h.out.y.f 1⟩
theorem CC.s2 {w W : World} {a b c d : Value} (h : Hid (CC w W a b c d)) (v : Value) : ∃ W', W.setCell ⟨w.heap.size + 1, 2, none⟩ v = W' ∧ Hid (CC w W' a b v d) ∧ W.cell? ⟨w.heap.size + 1, 2, none⟩ = some c ∧ W.frozen? ⟨w.heap.size + 1, 2, none⟩ = false :=
  ⟨_, rfl, ⟨bset h.out.bl (by omega), h.out.x.other (by omega), h.out.y.set2⟩, h.out.y.c2, h.out.y.f 2⟩
theorem CC.s3 {w W : World} {a b c d : Value} (h : Hid (CC w W a b c d)) (v : Value) : ∃ W', W.setCell ⟨w.heap.size + 1, 3, none⟩ v = W' ∧ Hid (CC w W' a b c v) ∧ W.cell? ⟨w.heap.size + 1, 3, none⟩ = some d ∧ W.frozen? ⟨w.heap.size + 1, 3, none⟩ = false :=
  ⟨_, rfl, ⟨bset h.out.bl (by omega), h.out.x.other (by omega), h.out.y.set3⟩, h.out.y.c3, h.out.y.f 3⟩
theorem CC.ys {w W : World} {a b c d : Value} (h : Hid (CC w W a b c d)) : (W.cell? ⟨w.heap.size + 1, 0, none⟩ = some a ∧ W.cell? ⟨w.heap.size + 1, 1, none⟩ = some b ∧ W.cell? ⟨w.heap.size + 1, 2, none⟩ = some c ∧ W.cell? ⟨w.heap.size + 1, 3, none⟩ = some d) ∧ (W.cell? ⟨w.heap.size, 0, none⟩ = some (.int .i64 0) ∧ W.cell? ⟨w.heap.size, 1, none⟩ = some (.bool false) ∧ W.cell? ⟨w.heap.size, 2, none⟩ = some (.string ⟨#[]⟩) ∧ W.cell? ⟨w.heap.size, 3, none⟩ = some (.int .i64 0)) ∧ W.frozen? ⟨w.heap.size, 0, none⟩ = false ∧ W.frozen? ⟨w.heap.size, 1, none⟩ = false ∧ W.frozen? ⟨w.heap.size, 2, none⟩ = false ∧ W.frozen? ⟨w.heap.size, 3, none⟩ = false :=
  ⟨⟨h.out.y.c0, h.out.y.c1, h.out.y.c2, h.out.y.c3⟩, ⟨h.out.x.c0, h.out.x.c1, h.out.x.c2, h.out.x.c3⟩, h.out.x.f 0, h.out.x.f 1, h.out.x.f 2, h.out.x.f 3⟩
theorem CC.fin {w W : World} {a b c d : Value} (h : Hid (CC w W a b c d)) : Hid (∃ WF, (((W.setCell ⟨w.heap.size, 0, none⟩ a).setCell ⟨w.heap.size, 1, none⟩ b).setCell ⟨w.heap.size, 2, none⟩ c).setCell ⟨w.heap.size, 3, none⟩ d = WF ∧ Below w.heap.size w WF ∧ WF.cell? ⟨w.heap.size, 0, none⟩ = some a ∧ WF.cell? ⟨w.heap.size, 1, none⟩ = some b ∧ WF.cell? ⟨w.heap.size, 2, none⟩ = some c ∧ WF.cell? ⟨w.heap.size, 3, none⟩ = some d) := by
  have q := h.out.x.set0 (v := a) |>.set1 (v := b) |>.set2 (v := c) |>.set3 (v := d)
  exact ⟨_, rfl, bset (bset (bset (bset h.out.bl (Nat.le_refl _)) (Nat.le_refl _)) (Nat.le_refl _)) (Nat.le_refl _), q.c0, q.c1, q.c2, q.c3⟩
set_option maxHeartbeats 2000000 in
theorem rrc0 (v : Value) (i : Nat) (hi : i < 1099511627776) (X : ByteArray) (Y : ByteArray) (d1 : ¬ Y.toList = ([112, 114, 101, 102, 105, 120] : List UInt8)) (d2 : ¬ Y.toList = ([99, 111, 109, 109] : List UInt8)) (d3 : ¬ Y.toList = ([112, 97, 116, 104] : List UInt8)) (d4 : ¬ Y.toList = ([112, 101, 101, 114] : List UInt8)) (d5 : ¬ Y.toList = ([111, 114, 105, 103, 105, 110] : List UInt8)) (d6 : ¬ Y.toList = ([108, 101, 110, 103, 116, 104] : List UInt8)) (d7 : ¬ Y.toList = ([102, 97, 109] : List UInt8)) (d0 : ¬ Y.toList = ([110, 111, 116] : List UInt8)) (w : World) (A1 : AtI v (i + 1) w X) (A0 : AtI v (i + 0) w Y) : Calls Tryz.prog 53 #[v, .int .i64 (i : Int)] w fun e w' => (∃ z : Int, z = ((i + 2 : Nat) : Int) ∧ e = .returned (.tuple #[cdV ⟨0, false, ⟨#[]⟩, 0⟩, .int .i64 z])) ∧ Below w.heap.size w w' := by
  have HA1 : Hid _ := A1
  have HA0 : Hid _ := A0
  clear A1 A0
  have g0 : (Y.toList == ([110, 111, 116] : List UInt8)) = false := by simpa using d0
  have g1 : (Y.toList == ([112, 114, 101, 102, 105, 120] : List UInt8)) = false := by simpa using d1
  have g2 : (Y.toList == ([99, 111, 109, 109] : List UInt8)) = false := by simpa using d2
  have g3 : (Y.toList == ([112, 97, 116, 104] : List UInt8)) = false := by simpa using d3
  have g4 : (Y.toList == ([112, 101, 101, 114] : List UInt8)) = false := by simpa using d4
  have g5 : (Y.toList == ([111, 114, 105, 103, 105, 110] : List UInt8)) = false := by simpa using d5
  have g6 : (Y.toList == ([108, 101, 110, 103, 116, 104] : List UInt8)) = false := by simpa using d6
  have g7 : (Y.toList == ([102, 97, 109] : List UInt8)) = false := by simpa using d7
  have hi0 : (0 : Int) ≤ (i : Int) := by omega
  have hi1 : (i : Int) < 1099511627776 := by omega
  obtain ⟨W1, hW1, H1⟩ := CC.new w
  go_enter Tryz.func53, Tryz.ntmps53
  go_wp2_with fail
  refine Calls.mono (HA0.out _ _ (by omega) H1.out.bl) ?_
  rintro e Wq ⟨rfl, hq⟩
  subst Wq
  go_wp2_with fail
  refine Calls.mono (HA1.out _ _ (by omega) H1.out.bl) ?_
  rintro e Wq ⟨rfl, hq⟩
  subst Wq
  go_wp2_with fail
  refine Calls.mono (HA0.out _ _ (by omega) H1.out.bl) ?_
  rintro e Wq ⟨rfl, hq⟩
  subst Wq
  obtain ⟨⟨y0, y1, y2, y3⟩, ⟨x0, x1, x2, x3⟩, f0, f1, f2, f3⟩ := CC.ys H1
  have HF := CC.fin H1
  clear H1
  go_wp2_with fail
  obtain ⟨WF, hWF, hBf, e0, e1, e2, e3⟩ := HF.out
  rw [hWF]
  refine bodyPost_ret (v := .tuple #[.agg #[.int .i64 0, .bool false, .string ⟨#[]⟩, .int .i64 0], .int .i64 _]) (by simp [results, Tryz.results53, go_sem, e0, e1, e2, e3]; rfl) rfl ?_
  exact ⟨⟨_, by omega, rfl⟩, hBf⟩
set_option maxHeartbeats 2000000 in
theorem rrc1 (v : Value) (i : Nat) (hi : i < 1099511627776) (X : ByteArray) (w : World) (A1 : AtI v (i + 1) w X) (A0 : AtI v (i + 0) w ⟨#[112, 114, 101, 102, 105, 120]⟩) : Calls Tryz.prog 53 #[v, .int .i64 (i : Int)] w fun e w' => (∃ z : Int, z = ((i + 2 : Nat) : Int) ∧ e = .returned (.tuple #[cdV ⟨1, false, X, 0⟩, .int .i64 z])) ∧ Below w.heap.size w w' := by
  have HA1 : Hid _ := A1
  have HA0 : Hid _ := A0
  clear A1 A0
  have hi0 : (0 : Int) ≤ (i : Int) := by omega
  have hi1 : (i : Int) < 1099511627776 := by omega
  obtain ⟨W1, hW1, H1⟩ := CC.new w
  go_enter Tryz.func53, Tryz.ntmps53
  go_wp2_with fail
  refine Calls.mono (HA0.out _ _ (by omega) H1.out.bl) ?_
  rintro e Wq ⟨rfl, hq⟩
  subst Wq
  go_wp2_with fail
  refine Calls.mono (HA1.out _ _ (by omega) H1.out.bl) ?_
  rintro e Wq ⟨rfl, hq⟩
  subst Wq
  go_wp2_with fail
  refine Calls.mono (HA0.out _ _ (by omega) H1.out.bl) ?_
  rintro e Wq ⟨rfl, hq⟩
  subst Wq
  obtain ⟨W2, hW2, H2, z1_0, z1_1⟩ := CC.s0 H1 (.int .i64 1)
  clear H1
  have yk := H2.out.y.c0
  obtain ⟨W3, hW3, H3, z2_0, z2_1⟩ := CC.s2 H2 (.string X)
  clear H2
  obtain ⟨⟨y0, y1, y2, y3⟩, ⟨x0, x1, x2, x3⟩, f0, f1, f2, f3⟩ := CC.ys H3
  have HF := CC.fin H3
  clear H3
  go_wp2_with fail
  obtain ⟨WF, hWF, hBf, e0, e1, e2, e3⟩ := HF.out
  rw [hWF]
  refine bodyPost_ret (v := .tuple #[.agg #[.int .i64 1, .bool false, .string X, .int .i64 0], .int .i64 _]) (by simp [results, Tryz.results53, go_sem, e0, e1, e2, e3]; rfl) rfl ?_
  exact ⟨⟨_, by omega, rfl⟩, hBf⟩
set_option maxHeartbeats 2000000 in
theorem rrc2 (v : Value) (i : Nat) (hi : i < 1099511627776) (X : ByteArray) (w : World) (A1 : AtI v (i + 1) w X) (A0 : AtI v (i + 0) w ⟨#[99, 111, 109, 109]⟩) : Calls Tryz.prog 53 #[v, .int .i64 (i : Int)] w fun e w' => (∃ z : Int, z = ((i + 2 : Nat) : Int) ∧ e = .returned (.tuple #[cdV ⟨2, false, X, 0⟩, .int .i64 z])) ∧ Below w.heap.size w w' := by
  have HA1 : Hid _ := A1
  have HA0 : Hid _ := A0
  clear A1 A0
  have hi0 : (0 : Int) ≤ (i : Int) := by omega
  have hi1 : (i : Int) < 1099511627776 := by omega
  obtain ⟨W1, hW1, H1⟩ := CC.new w
  go_enter Tryz.func53, Tryz.ntmps53
  go_wp2_with fail
  refine Calls.mono (HA0.out _ _ (by omega) H1.out.bl) ?_
  rintro e Wq ⟨rfl, hq⟩
  subst Wq
  go_wp2_with fail
  refine Calls.mono (HA1.out _ _ (by omega) H1.out.bl) ?_
  rintro e Wq ⟨rfl, hq⟩
  subst Wq
  go_wp2_with fail
  refine Calls.mono (HA0.out _ _ (by omega) H1.out.bl) ?_
  rintro e Wq ⟨rfl, hq⟩
  subst Wq
  obtain ⟨W2, hW2, H2, z1_0, z1_1⟩ := CC.s0 H1 (.int .i64 2)
  clear H1
  have yk := H2.out.y.c0
  obtain ⟨W3, hW3, H3, z2_0, z2_1⟩ := CC.s2 H2 (.string X)
  clear H2
  obtain ⟨⟨y0, y1, y2, y3⟩, ⟨x0, x1, x2, x3⟩, f0, f1, f2, f3⟩ := CC.ys H3
  have HF := CC.fin H3
  clear H3
  go_wp2_with fail
  obtain ⟨WF, hWF, hBf, e0, e1, e2, e3⟩ := HF.out
  rw [hWF]
  refine bodyPost_ret (v := .tuple #[.agg #[.int .i64 2, .bool false, .string X, .int .i64 0], .int .i64 _]) (by simp [results, Tryz.results53, go_sem, e0, e1, e2, e3]; rfl) rfl ?_
  exact ⟨⟨_, by omega, rfl⟩, hBf⟩
set_option maxHeartbeats 2000000 in
theorem rrc3 (v : Value) (i : Nat) (hi : i < 1099511627776) (X : ByteArray) (w : World) (A1 : AtI v (i + 1) w X) (A0 : AtI v (i + 0) w ⟨#[112, 97, 116, 104]⟩) : Calls Tryz.prog 53 #[v, .int .i64 (i : Int)] w fun e w' => (∃ z : Int, z = ((i + 2 : Nat) : Int) ∧ e = .returned (.tuple #[cdV ⟨3, false, X, 0⟩, .int .i64 z])) ∧ Below w.heap.size w w' := by
  have HA1 : Hid _ := A1
  have HA0 : Hid _ := A0
  clear A1 A0
  have hi0 : (0 : Int) ≤ (i : Int) := by omega
  have hi1 : (i : Int) < 1099511627776 := by omega
  obtain ⟨W1, hW1, H1⟩ := CC.new w
  go_enter Tryz.func53, Tryz.ntmps53
  go_wp2_with fail
  refine Calls.mono (HA0.out _ _ (by omega) H1.out.bl) ?_
  rintro e Wq ⟨rfl, hq⟩
  subst Wq
  go_wp2_with fail
  refine Calls.mono (HA1.out _ _ (by omega) H1.out.bl) ?_
  rintro e Wq ⟨rfl, hq⟩
  subst Wq
  go_wp2_with fail
  refine Calls.mono (HA0.out _ _ (by omega) H1.out.bl) ?_
  rintro e Wq ⟨rfl, hq⟩
  subst Wq
  obtain ⟨W2, hW2, H2, z1_0, z1_1⟩ := CC.s0 H1 (.int .i64 3)
  clear H1
  have yk := H2.out.y.c0
  obtain ⟨W3, hW3, H3, z2_0, z2_1⟩ := CC.s2 H2 (.string X)
  clear H2
  obtain ⟨⟨y0, y1, y2, y3⟩, ⟨x0, x1, x2, x3⟩, f0, f1, f2, f3⟩ := CC.ys H3
  have HF := CC.fin H3
  clear H3
  go_wp2_with fail
  obtain ⟨WF, hWF, hBf, e0, e1, e2, e3⟩ := HF.out
  rw [hWF]
  refine bodyPost_ret (v := .tuple #[.agg #[.int .i64 3, .bool false, .string X, .int .i64 0], .int .i64 _]) (by simp [results, Tryz.results53, go_sem, e0, e1, e2, e3]; rfl) rfl ?_
  exact ⟨⟨_, by omega, rfl⟩, hBf⟩
set_option maxHeartbeats 2000000 in
theorem rrc4 (v : Value) (i : Nat) (hi : i < 1099511627776) (X : ByteArray) (w : World) (A1 : AtI v (i + 1) w X) (A0 : AtI v (i + 0) w ⟨#[112, 101, 101, 114]⟩) : Calls Tryz.prog 53 #[v, .int .i64 (i : Int)] w fun e w' => (∃ z : Int, z = ((i + 2 : Nat) : Int) ∧ e = .returned (.tuple #[cdV ⟨4, false, X, 0⟩, .int .i64 z])) ∧ Below w.heap.size w w' := by
  have HA1 : Hid _ := A1
  have HA0 : Hid _ := A0
  clear A1 A0
  have hi0 : (0 : Int) ≤ (i : Int) := by omega
  have hi1 : (i : Int) < 1099511627776 := by omega
  obtain ⟨W1, hW1, H1⟩ := CC.new w
  go_enter Tryz.func53, Tryz.ntmps53
  go_wp2_with fail
  refine Calls.mono (HA0.out _ _ (by omega) H1.out.bl) ?_
  rintro e Wq ⟨rfl, hq⟩
  subst Wq
  go_wp2_with fail
  refine Calls.mono (HA1.out _ _ (by omega) H1.out.bl) ?_
  rintro e Wq ⟨rfl, hq⟩
  subst Wq
  go_wp2_with fail
  refine Calls.mono (HA0.out _ _ (by omega) H1.out.bl) ?_
  rintro e Wq ⟨rfl, hq⟩
  subst Wq
  obtain ⟨W2, hW2, H2, z1_0, z1_1⟩ := CC.s0 H1 (.int .i64 4)
  clear H1
  have yk := H2.out.y.c0
  obtain ⟨W3, hW3, H3, z2_0, z2_1⟩ := CC.s2 H2 (.string X)
  clear H2
  obtain ⟨⟨y0, y1, y2, y3⟩, ⟨x0, x1, x2, x3⟩, f0, f1, f2, f3⟩ := CC.ys H3
  have HF := CC.fin H3
  clear H3
  go_wp2_with fail
  obtain ⟨WF, hWF, hBf, e0, e1, e2, e3⟩ := HF.out
  rw [hWF]
  refine bodyPost_ret (v := .tuple #[.agg #[.int .i64 4, .bool false, .string X, .int .i64 0], .int .i64 _]) (by simp [results, Tryz.results53, go_sem, e0, e1, e2, e3]; rfl) rfl ?_
  exact ⟨⟨_, by omega, rfl⟩, hBf⟩
set_option maxHeartbeats 2000000 in
theorem rrc5 (v : Value) (i : Nat) (hi : i < 1099511627776) (X : ByteArray) (Q : Nat → Prop) (KC : (∀ W, Calls Tryz.prog 94 #[.string X] W fun e w' => (∃ n : Nat, n ≤ 3 ∧ e = .returned (.int .i64 (n : Int)) ∧ Q n) ∧ Below W.heap.size W w')) (w : World) (A1 : AtI v (i + 1) w X) (A0 : AtI v (i + 0) w ⟨#[111, 114, 105, 103, 105, 110]⟩) : Calls Tryz.prog 53 #[v, .int .i64 (i : Int)] w fun e w' => (∃ (m : Nat) (z : Int), m ≤ 3 ∧ Q m ∧ z = ((i + 2 : Nat) : Int) ∧ e = .returned (.tuple #[cdV ⟨5, false, ⟨#[]⟩, (m : Int)⟩, .int .i64 z])) ∧ Below w.heap.size w w' := by
  have HA1 : Hid _ := A1
  have HA0 : Hid _ := A0
  have HKC : Hid (∀ W, _) := KC
  clear KC
  clear A1 A0
  have hi0 : (0 : Int) ≤ (i : Int) := by omega
  have hi1 : (i : Int) < 1099511627776 := by omega
  obtain ⟨W1, hW1, H1⟩ := CC.new w
  go_enter Tryz.func53, Tryz.ntmps53
  go_wp2_with fail
  refine Calls.mono (HA0.out _ _ (by omega) H1.out.bl) ?_
  rintro e Wq ⟨rfl, hq⟩
  subst Wq
  go_wp2_with fail
  refine Calls.mono (HA1.out _ _ (by omega) H1.out.bl) ?_
  rintro e Wq ⟨rfl, hq⟩
  subst Wq
  go_wp2_with fail
  refine Calls.mono (HA0.out _ _ (by omega) H1.out.bl) ?_
  rintro e Wq ⟨rfl, hq⟩
  subst Wq
  obtain ⟨W2, hW2, H2, z1_0, z1_1⟩ := CC.s0 H1 (.int .i64 5)
  clear H1
  go_wp2_with fail
  clear z1_0 z1_1
  refine Calls.mono (HKC.out W2) ?_
  rintro e W3 ⟨⟨m, hm, rfl, hq⟩, hb⟩
  have HQ : Hid (_ ∧ Q m) := ⟨hm, hq⟩
  have H3 := CC.bel H2 hb
  clear hb hm hq H2
  obtain ⟨W4, hW4, H4, z3_0, z3_1⟩ := CC.s3 H3 (.int .i64 (m : Int))
  clear H3
  obtain ⟨⟨y0, y1, y2, y3⟩, ⟨x0, x1, x2, x3⟩, f0, f1, f2, f3⟩ := CC.ys H4
  have HF := CC.fin H4
  clear H4
  go_wp2_with fail
  obtain ⟨WF, hWF, hBf, e0, e1, e2, e3⟩ := HF.out
  rw [hWF]
  refine bodyPost_ret (v := .tuple #[.agg #[.int .i64 5, .bool false, .string ⟨#[]⟩, .int .i64 (m : Int)], .int .i64 _]) (by simp [results, Tryz.results53, go_sem, e0, e1, e2, e3]; rfl) rfl ?_
  exact ⟨⟨m, _, HQ.out.1, HQ.out.2, by omega, rfl⟩, hBf⟩
set_option maxHeartbeats 2000000 in
theorem rrc6 (v : Value) (i : Nat) (hi : i < 1099511627776) (X : ByteArray) (Q : Nat → Prop) (KC : (∀ W, Calls Tryz.prog 95 #[.string X] W fun e w' => (∃ n : Nat, n < 18446744073709551616 ∧ e = .returned (.int .u64 (n : Int)) ∧ Q n) ∧ Below W.heap.size W w')) (w : World) (A1 : AtI v (i + 1) w X) (A0 : AtI v (i + 0) w ⟨#[108, 101, 110, 103, 116, 104]⟩) : Calls Tryz.prog 53 #[v, .int .i64 (i : Int)] w fun e w' => (∃ (m : Nat) (q z : Int), m < 18446744073709551616 ∧ Q m ∧ IntKind.i64.wrap (m : Int) = q ∧ z = ((i + 2 : Nat) : Int) ∧ e = .returned (.tuple #[cdV ⟨6, false, ⟨#[]⟩, q⟩, .int .i64 z])) ∧ Below w.heap.size w w' := by
  have HA1 : Hid _ := A1
  have HA0 : Hid _ := A0
  have HKC : Hid (∀ W, _) := KC
  clear KC
  clear A1 A0
  have hi0 : (0 : Int) ≤ (i : Int) := by omega
  have hi1 : (i : Int) < 1099511627776 := by omega
  obtain ⟨W1, hW1, H1⟩ := CC.new w
  go_enter Tryz.func53, Tryz.ntmps53
  go_wp2_with fail
  refine Calls.mono (HA0.out _ _ (by omega) H1.out.bl) ?_
  rintro e Wq ⟨rfl, hq⟩
  subst Wq
  go_wp2_with fail
  refine Calls.mono (HA1.out _ _ (by omega) H1.out.bl) ?_
  rintro e Wq ⟨rfl, hq⟩
  subst Wq
  go_wp2_with fail
  refine Calls.mono (HA0.out _ _ (by omega) H1.out.bl) ?_
  rintro e Wq ⟨rfl, hq⟩
  subst Wq
  obtain ⟨W2, hW2, H2, z1_0, z1_1⟩ := CC.s0 H1 (.int .i64 6)
  clear H1
  go_wp2_with fail
  clear z1_0 z1_1
  refine Calls.mono (HKC.out W2) ?_
  rintro e W3 ⟨⟨m, hm, rfl, hq⟩, hb⟩
  have HQ : Hid (_ ∧ Q m) := ⟨hm, hq⟩
  have H3 := CC.bel H2 hb
  clear hb hm hq H2
  obtain ⟨q, hw⟩ : ∃ q, IntKind.i64.wrap (m : Int) = q := ⟨_, rfl⟩
  have HW : Hid (IntKind.i64.wrap (m : Int) = q) := hw
  obtain ⟨W4, hW4, H4, z3_0, z3_1⟩ := CC.s3 H3 (.int .i64 q)
  clear H3
  obtain ⟨⟨y0, y1, y2, y3⟩, ⟨x0, x1, x2, x3⟩, f0, f1, f2, f3⟩ := CC.ys H4
  have HF := CC.fin H4
  clear H4
  go_wp2_with fail
  obtain ⟨WF, hWF, hBf, e0, e1, e2, e3⟩ := HF.out
  rw [hWF]
  refine bodyPost_ret (v := .tuple #[.agg #[.int .i64 6, .bool false, .string ⟨#[]⟩, .int .i64 q], .int .i64 _]) (by simp [results, Tryz.results53, go_sem, e0, e1, e2, e3]; rfl) rfl ?_
  exact ⟨⟨m, q, _, HQ.out.1, HQ.out.2, HW.out, by omega, rfl⟩, hBf⟩
set_option maxHeartbeats 2000000 in
theorem rrc7 (v : Value) (i : Nat) (hi : i < 1099511627776) (X : ByteArray) (n : Int) (KC : (∀ W, Calls Tryz.prog 96 #[.string X] W fun e w' => e = .returned (.int .i64 n) ∧ w' = W)) (w : World) (A1 : AtI v (i + 1) w X) (A0 : AtI v (i + 0) w ⟨#[102, 97, 109]⟩) : Calls Tryz.prog 53 #[v, .int .i64 (i : Int)] w fun e w' => (∃ z : Int, z = ((i + 2 : Nat) : Int) ∧ e = .returned (.tuple #[cdV ⟨7, false, ⟨#[]⟩, n⟩, .int .i64 z])) ∧ Below w.heap.size w w' := by
  have HA1 : Hid _ := A1
  have HA0 : Hid _ := A0
  have HKC : Hid (∀ W, _) := KC
  clear KC
  clear A1 A0
  have hi0 : (0 : Int) ≤ (i : Int) := by omega
  have hi1 : (i : Int) < 1099511627776 := by omega
  obtain ⟨W1, hW1, H1⟩ := CC.new w
  go_enter Tryz.func53, Tryz.ntmps53
  go_wp2_with fail
  refine Calls.mono (HA0.out _ _ (by omega) H1.out.bl) ?_
  rintro e Wq ⟨rfl, hq⟩
  subst Wq
  go_wp2_with fail
  refine Calls.mono (HA1.out _ _ (by omega) H1.out.bl) ?_
  rintro e Wq ⟨rfl, hq⟩
  subst Wq
  go_wp2_with fail
  refine Calls.mono (HA0.out _ _ (by omega) H1.out.bl) ?_
  rintro e Wq ⟨rfl, hq⟩
  subst Wq
  obtain ⟨W2, hW2, H2, z1_0, z1_1⟩ := CC.s0 H1 (.int .i64 7)
  clear H1
  go_wp2_with fail
  clear z1_0 z1_1
  refine Calls.mono (HKC.out W2) ?_
  rintro e Wq ⟨rfl, hq⟩
  subst Wq
  obtain ⟨W3, hW3, H3, z2_0, z2_1⟩ := CC.s3 H2 (.int .i64 n)
  clear H2
  obtain ⟨⟨y0, y1, y2, y3⟩, ⟨x0, x1, x2, x3⟩, f0, f1, f2, f3⟩ := CC.ys H3
  have HF := CC.fin H3
  clear H3
  go_wp2_with fail
  obtain ⟨WF, hWF, hBf, e0, e1, e2, e3⟩ := HF.out
  rw [hWF]
  refine bodyPost_ret (v := .tuple #[.agg #[.int .i64 7, .bool false, .string ⟨#[]⟩, .int .i64 n], .int .i64 _]) (by simp [results, Tryz.results53, go_sem, e0, e1, e2, e3]; rfl) rfl ?_
  exact ⟨⟨_, by omega, rfl⟩, hBf⟩
set_option maxHeartbeats 2000000 in
theorem rrc0n (v : Value) (i : Nat) (hi : i < 1099511627776) (X : ByteArray) (Y : ByteArray) (d1 : ¬ Y.toList = ([112, 114, 101, 102, 105, 120] : List UInt8)) (d2 : ¬ Y.toList = ([99, 111, 109, 109] : List UInt8)) (d3 : ¬ Y.toList = ([112, 97, 116, 104] : List UInt8)) (d4 : ¬ Y.toList = ([112, 101, 101, 114] : List UInt8)) (d5 : ¬ Y.toList = ([111, 114, 105, 103, 105, 110] : List UInt8)) (d6 : ¬ Y.toList = ([108, 101, 110, 103, 116, 104] : List UInt8)) (d7 : ¬ Y.toList = ([102, 97, 109] : List UInt8)) (w : World) (A0 : AtI v (i + 0) w ⟨#[110, 111, 116]⟩) (A2 : AtI v (i + 2) w X) (A1 : AtI v (i + 1) w Y) : Calls Tryz.prog 53 #[v, .int .i64 (i : Int)] w fun e w' => (∃ z : Int, z = ((i + 3 : Nat) : Int) ∧ e = .returned (.tuple #[cdV ⟨0, true, ⟨#[]⟩, 0⟩, .int .i64 z])) ∧ Below w.heap.size w w' := by
  have HA0 : Hid _ := A0
  have HA2 : Hid _ := A2
  have HA1 : Hid _ := A1
  clear A0 A2 A1
  have g1 : (Y.toList == ([112, 114, 101, 102, 105, 120] : List UInt8)) = false := by simpa using d1
  have g2 : (Y.toList == ([99, 111, 109, 109] : List UInt8)) = false := by simpa using d2
  have g3 : (Y.toList == ([112, 97, 116, 104] : List UInt8)) = false := by simpa using d3
  have g4 : (Y.toList == ([112, 101, 101, 114] : List UInt8)) = false := by simpa using d4
  have g5 : (Y.toList == ([111, 114, 105, 103, 105, 110] : List UInt8)) = false := by simpa using d5
  have g6 : (Y.toList == ([108, 101, 110, 103, 116, 104] : List UInt8)) = false := by simpa using d6
  have g7 : (Y.toList == ([102, 97, 109] : List UInt8)) = false := by simpa using d7
  have hi0 : (0 : Int) ≤ (i : Int) := by omega
  have hi1 : (i : Int) < 1099511627776 := by omega
  obtain ⟨W1, hW1, H1⟩ := CC.new w
  go_enter Tryz.func53, Tryz.ntmps53
  go_wp2_with fail
  refine Calls.mono (HA0.out _ _ (by omega) H1.out.bl) ?_
  rintro e Wq ⟨rfl, hq⟩
  subst Wq
  obtain ⟨W2, hW2, H2, z1_0, z1_1⟩ := CC.s1 H1 (.bool true)
  clear H1
  go_wp2_with fail
  refine Calls.mono (HA2.out _ _ (by omega) H2.out.bl) ?_
  rintro e Wq ⟨rfl, hq⟩
  subst Wq
  clear z1_0 z1_1
  go_wp2_with fail
  refine Calls.mono (HA1.out _ _ (by omega) H2.out.bl) ?_
  rintro e Wq ⟨rfl, hq⟩
  subst Wq
  obtain ⟨⟨y0, y1, y2, y3⟩, ⟨x0, x1, x2, x3⟩, f0, f1, f2, f3⟩ := CC.ys H2
  have HF := CC.fin H2
  clear H2
  go_wp2_with fail
  obtain ⟨WF, hWF, hBf, e0, e1, e2, e3⟩ := HF.out
  rw [hWF]
  refine bodyPost_ret (v := .tuple #[.agg #[.int .i64 0, .bool true, .string ⟨#[]⟩, .int .i64 0], .int .i64 _]) (by simp [results, Tryz.results53, go_sem, e0, e1, e2, e3]; rfl) rfl ?_
  exact ⟨⟨_, by omega, rfl⟩, hBf⟩
set_option maxHeartbeats 2000000 in
theorem rrc1n (v : Value) (i : Nat) (hi : i < 1099511627776) (X : ByteArray) (w : World) (A0 : AtI v (i + 0) w ⟨#[110, 111, 116]⟩) (A2 : AtI v (i + 2) w X) (A1 : AtI v (i + 1) w ⟨#[112, 114, 101, 102, 105, 120]⟩) : Calls Tryz.prog 53 #[v, .int .i64 (i : Int)] w fun e w' => (∃ z : Int, z = ((i + 3 : Nat) : Int) ∧ e = .returned (.tuple #[cdV ⟨1, true, X, 0⟩, .int .i64 z])) ∧ Below w.heap.size w w' := by
  have HA0 : Hid _ := A0
  have HA2 : Hid _ := A2
  have HA1 : Hid _ := A1
  clear A0 A2 A1
  have hi0 : (0 : Int) ≤ (i : Int) := by omega
  have hi1 : (i : Int) < 1099511627776 := by omega
  obtain ⟨W1, hW1, H1⟩ := CC.new w
  go_enter Tryz.func53, Tryz.ntmps53
  go_wp2_with fail
  refine Calls.mono (HA0.out _ _ (by omega) H1.out.bl) ?_
  rintro e Wq ⟨rfl, hq⟩
  subst Wq
  obtain ⟨W2, hW2, H2, z1_0, z1_1⟩ := CC.s1 H1 (.bool true)
  clear H1
  go_wp2_with fail
  refine Calls.mono (HA2.out _ _ (by omega) H2.out.bl) ?_
  rintro e Wq ⟨rfl, hq⟩
  subst Wq
  clear z1_0 z1_1
  go_wp2_with fail
  refine Calls.mono (HA1.out _ _ (by omega) H2.out.bl) ?_
  rintro e Wq ⟨rfl, hq⟩
  subst Wq
  obtain ⟨W3, hW3, H3, z2_0, z2_1⟩ := CC.s0 H2 (.int .i64 1)
  clear H2
  have yk := H3.out.y.c0
  obtain ⟨W4, hW4, H4, z3_0, z3_1⟩ := CC.s2 H3 (.string X)
  clear H3
  obtain ⟨⟨y0, y1, y2, y3⟩, ⟨x0, x1, x2, x3⟩, f0, f1, f2, f3⟩ := CC.ys H4
  have HF := CC.fin H4
  clear H4
  go_wp2_with fail
  obtain ⟨WF, hWF, hBf, e0, e1, e2, e3⟩ := HF.out
  rw [hWF]
  refine bodyPost_ret (v := .tuple #[.agg #[.int .i64 1, .bool true, .string X, .int .i64 0], .int .i64 _]) (by simp [results, Tryz.results53, go_sem, e0, e1, e2, e3]; rfl) rfl ?_
  exact ⟨⟨_, by omega, rfl⟩, hBf⟩
set_option maxHeartbeats 2000000 in
theorem rrc2n (v : Value) (i : Nat) (hi : i < 1099511627776) (X : ByteArray) (w : World) (A0 : AtI v (i + 0) w ⟨#[110, 111, 116]⟩) (A2 : AtI v (i + 2) w X) (A1 : AtI v (i + 1) w ⟨#[99, 111, 109, 109]⟩) : Calls Tryz.prog 53 #[v, .int .i64 (i : Int)] w fun e w' => (∃ z : Int, z = ((i + 3 : Nat) : Int) ∧ e = .returned (.tuple #[cdV ⟨2, true, X, 0⟩, .int .i64 z])) ∧ Below w.heap.size w w' := by
  have HA0 : Hid _ := A0
  have HA2 : Hid _ := A2
  have HA1 : Hid _ := A1
  clear A0 A2 A1
  have hi0 : (0 : Int) ≤ (i : Int) := by omega
  have hi1 : (i : Int) < 1099511627776 := by omega
  obtain ⟨W1, hW1, H1⟩ := CC.new w
  go_enter Tryz.func53, Tryz.ntmps53
  go_wp2_with fail
  refine Calls.mono (HA0.out _ _ (by omega) H1.out.bl) ?_
  rintro e Wq ⟨rfl, hq⟩
  subst Wq
  obtain ⟨W2, hW2, H2, z1_0, z1_1⟩ := CC.s1 H1 (.bool true)
  clear H1
  go_wp2_with fail
  refine Calls.mono (HA2.out _ _ (by omega) H2.out.bl) ?_
  rintro e Wq ⟨rfl, hq⟩
  subst Wq
  clear z1_0 z1_1
  go_wp2_with fail
  refine Calls.mono (HA1.out _ _ (by omega) H2.out.bl) ?_
  rintro e Wq ⟨rfl, hq⟩
  subst Wq
  obtain ⟨W3, hW3, H3, z2_0, z2_1⟩ := CC.s0 H2 (.int .i64 2)
  clear H2
  have yk := H3.out.y.c0
  obtain ⟨W4, hW4, H4, z3_0, z3_1⟩ := CC.s2 H3 (.string X)
  clear H3
  obtain ⟨⟨y0, y1, y2, y3⟩, ⟨x0, x1, x2, x3⟩, f0, f1, f2, f3⟩ := CC.ys H4
  have HF := CC.fin H4
  clear H4
  go_wp2_with fail
  obtain ⟨WF, hWF, hBf, e0, e1, e2, e3⟩ := HF.out
  rw [hWF]
  refine bodyPost_ret (v := .tuple #[.agg #[.int .i64 2, .bool true, .string X, .int .i64 0], .int .i64 _]) (by simp [results, Tryz.results53, go_sem, e0, e1, e2, e3]; rfl) rfl ?_
  exact ⟨⟨_, by omega, rfl⟩, hBf⟩
set_option maxHeartbeats 2000000 in
theorem rrc3n (v : Value) (i : Nat) (hi : i < 1099511627776) (X : ByteArray) (w : World) (A0 : AtI v (i + 0) w ⟨#[110, 111, 116]⟩) (A2 : AtI v (i + 2) w X) (A1 : AtI v (i + 1) w ⟨#[112, 97, 116, 104]⟩) : Calls Tryz.prog 53 #[v, .int .i64 (i : Int)] w fun e w' => (∃ z : Int, z = ((i + 3 : Nat) : Int) ∧ e = .returned (.tuple #[cdV ⟨3, true, X, 0⟩, .int .i64 z])) ∧ Below w.heap.size w w' := by
  have HA0 : Hid _ := A0
  have HA2 : Hid _ := A2
  have HA1 : Hid _ := A1
  clear A0 A2 A1
  have hi0 : (0 : Int) ≤ (i : Int) := by omega
  have hi1 : (i : Int) < 1099511627776 := by omega
  obtain ⟨W1, hW1, H1⟩ := CC.new w
  go_enter Tryz.func53, Tryz.ntmps53
  go_wp2_with fail
  refine Calls.mono (HA0.out _ _ (by omega) H1.out.bl) ?_
  rintro e Wq ⟨rfl, hq⟩
  subst Wq
  obtain ⟨W2, hW2, H2, z1_0, z1_1⟩ := CC.s1 H1 (.bool true)
  clear H1
  go_wp2_with fail
  refine Calls.mono (HA2.out _ _ (by omega) H2.out.bl) ?_
  rintro e Wq ⟨rfl, hq⟩
  subst Wq
  clear z1_0 z1_1
  go_wp2_with fail
  refine Calls.mono (HA1.out _ _ (by omega) H2.out.bl) ?_
  rintro e Wq ⟨rfl, hq⟩
  subst Wq
  obtain ⟨W3, hW3, H3, z2_0, z2_1⟩ := CC.s0 H2 (.int .i64 3)
  clear H2
  have yk := H3.out.y.c0
  obtain ⟨W4, hW4, H4, z3_0, z3_1⟩ := CC.s2 H3 (.string X)
  clear H3
  obtain ⟨⟨y0, y1, y2, y3⟩, ⟨x0, x1, x2, x3⟩, f0, f1, f2, f3⟩ := CC.ys H4
  have HF := CC.fin H4
  clear H4
  go_wp2_with fail
  obtain ⟨WF, hWF, hBf, e0, e1, e2, e3⟩ := HF.out
  rw [hWF]
  refine bodyPost_ret (v := .tuple #[.agg #[.int .i64 3, .bool true, .string X, .int .i64 0], .int .i64 _]) (by simp [results, Tryz.results53, go_sem, e0, e1, e2, e3]; rfl) rfl ?_
  exact ⟨⟨_, by omega, rfl⟩, hBf⟩
set_option maxHeartbeats 2000000 in
theorem rrc4n (v : Value) (i : Nat) (hi : i < 1099511627776) (X : ByteArray) (w : World) (A0 : AtI v (i + 0) w ⟨#[110, 111, 116]⟩) (A2 : AtI v (i + 2) w X) (A1 : AtI v (i + 1) w ⟨#[112, 101, 101, 114]⟩) : Calls Tryz.prog 53 #[v, .int .i64 (i : Int)] w fun e w' => (∃ z : Int, z = ((i + 3 : Nat) : Int) ∧ e = .returned (.tuple #[cdV ⟨4, true, X, 0⟩, .int .i64 z])) ∧ Below w.heap.size w w' := by
  have HA0 : Hid _ := A0
  have HA2 : Hid _ := A2
  have HA1 : Hid _ := A1
  clear A0 A2 A1
  have hi0 : (0 : Int) ≤ (i : Int) := by omega
  have hi1 : (i : Int) < 1099511627776 := by omega
  obtain ⟨W1, hW1, H1⟩ := CC.new w
  go_enter Tryz.func53, Tryz.ntmps53
  go_wp2_with fail
  refine Calls.mono (HA0.out _ _ (by omega) H1.out.bl) ?_
  rintro e Wq ⟨rfl, hq⟩
  subst Wq
  obtain ⟨W2, hW2, H2, z1_0, z1_1⟩ := CC.s1 H1 (.bool true)
  clear H1
  go_wp2_with fail
  refine Calls.mono (HA2.out _ _ (by omega) H2.out.bl) ?_
  rintro e Wq ⟨rfl, hq⟩
  subst Wq
  clear z1_0 z1_1
  go_wp2_with fail
  refine Calls.mono (HA1.out _ _ (by omega) H2.out.bl) ?_
  rintro e Wq ⟨rfl, hq⟩
  subst Wq
  obtain ⟨W3, hW3, H3, z2_0, z2_1⟩ := CC.s0 H2 (.int .i64 4)
  clear H2
  have yk := H3.out.y.c0
  obtain ⟨W4, hW4, H4, z3_0, z3_1⟩ := CC.s2 H3 (.string X)
  clear H3
  obtain ⟨⟨y0, y1, y2, y3⟩, ⟨x0, x1, x2, x3⟩, f0, f1, f2, f3⟩ := CC.ys H4
  have HF := CC.fin H4
  clear H4
  go_wp2_with fail
  obtain ⟨WF, hWF, hBf, e0, e1, e2, e3⟩ := HF.out
  rw [hWF]
  refine bodyPost_ret (v := .tuple #[.agg #[.int .i64 4, .bool true, .string X, .int .i64 0], .int .i64 _]) (by simp [results, Tryz.results53, go_sem, e0, e1, e2, e3]; rfl) rfl ?_
  exact ⟨⟨_, by omega, rfl⟩, hBf⟩
set_option maxHeartbeats 2000000 in
theorem rrc5n (v : Value) (i : Nat) (hi : i < 1099511627776) (X : ByteArray) (Q : Nat → Prop) (KC : (∀ W, Calls Tryz.prog 94 #[.string X] W fun e w' => (∃ n : Nat, n ≤ 3 ∧ e = .returned (.int .i64 (n : Int)) ∧ Q n) ∧ Below W.heap.size W w')) (w : World) (A0 : AtI v (i + 0) w ⟨#[110, 111, 116]⟩) (A2 : AtI v (i + 2) w X) (A1 : AtI v (i + 1) w ⟨#[111, 114, 105, 103, 105, 110]⟩) : Calls Tryz.prog 53 #[v, .int .i64 (i : Int)] w fun e w' => (∃ (m : Nat) (z : Int), m ≤ 3 ∧ Q m ∧ z = ((i + 3 : Nat) : Int) ∧ e = .returned (.tuple #[cdV ⟨5, true, ⟨#[]⟩, (m : Int)⟩, .int .i64 z])) ∧ Below w.heap.size w w' := by
  have HA0 : Hid _ := A0
  have HA2 : Hid _ := A2
  have HA1 : Hid _ := A1
  have HKC : Hid (∀ W, _) := KC
  clear KC
  clear A0 A2 A1
  have hi0 : (0 : Int) ≤ (i : Int) := by omega
  have hi1 : (i : Int) < 1099511627776 := by omega
  obtain ⟨W1, hW1, H1⟩ := CC.new w
  go_enter Tryz.func53, Tryz.ntmps53
  go_wp2_with fail
  refine Calls.mono (HA0.out _ _ (by omega) H1.out.bl) ?_
  rintro e Wq ⟨rfl, hq⟩
  subst Wq
  obtain ⟨W2, hW2, H2, z1_0, z1_1⟩ := CC.s1 H1 (.bool true)
  clear H1
  go_wp2_with fail
  refine Calls.mono (HA2.out _ _ (by omega) H2.out.bl) ?_
  rintro e Wq ⟨rfl, hq⟩
  subst Wq
  clear z1_0 z1_1
  go_wp2_with fail
  refine Calls.mono (HA1.out _ _ (by omega) H2.out.bl) ?_
  rintro e Wq ⟨rfl, hq⟩
  subst Wq
  obtain ⟨W3, hW3, H3, z2_0, z2_1⟩ := CC.s0 H2 (.int .i64 5)
  clear H2
  go_wp2_with fail
  clear z2_0 z2_1
  refine Calls.mono (HKC.out W3) ?_
  rintro e W4 ⟨⟨m, hm, rfl, hq⟩, hb⟩
  have HQ : Hid (_ ∧ Q m) := ⟨hm, hq⟩
  have H4 := CC.bel H3 hb
  clear hb hm hq H3
  obtain ⟨W5, hW5, H5, z4_0, z4_1⟩ := CC.s3 H4 (.int .i64 (m : Int))
  clear H4
  obtain ⟨⟨y0, y1, y2, y3⟩, ⟨x0, x1, x2, x3⟩, f0, f1, f2, f3⟩ := CC.ys H5
  have HF := CC.fin H5
  clear H5
  go_wp2_with fail
  obtain ⟨WF, hWF, hBf, e0, e1, e2, e3⟩ := HF.out
  rw [hWF]
  refine bodyPost_ret (v := .tuple #[.agg #[.int .i64 5, .bool true, .string ⟨#[]⟩, .int .i64 (m : Int)], .int .i64 _]) (by simp [results, Tryz.results53, go_sem, e0, e1, e2, e3]; rfl) rfl ?_
  exact ⟨⟨m, _, HQ.out.1, HQ.out.2, by omega, rfl⟩, hBf⟩
set_option maxHeartbeats 2000000 in
theorem rrc6n (v : Value) (i : Nat) (hi : i < 1099511627776) (X : ByteArray) (Q : Nat → Prop) (KC : (∀ W, Calls Tryz.prog 95 #[.string X] W fun e w' => (∃ n : Nat, n < 18446744073709551616 ∧ e = .returned (.int .u64 (n : Int)) ∧ Q n) ∧ Below W.heap.size W w')) (w : World) (A0 : AtI v (i + 0) w ⟨#[110, 111, 116]⟩) (A2 : AtI v (i + 2) w X) (A1 : AtI v (i + 1) w ⟨#[108, 101, 110, 103, 116, 104]⟩) : Calls Tryz.prog 53 #[v, .int .i64 (i : Int)] w fun e w' => (∃ (m : Nat) (q z : Int), m < 18446744073709551616 ∧ Q m ∧ IntKind.i64.wrap (m : Int) = q ∧ z = ((i + 3 : Nat) : Int) ∧ e = .returned (.tuple #[cdV ⟨6, true, ⟨#[]⟩, q⟩, .int .i64 z])) ∧ Below w.heap.size w w' := by
  have HA0 : Hid _ := A0
  have HA2 : Hid _ := A2
  have HA1 : Hid _ := A1
  have HKC : Hid (∀ W, _) := KC
  clear KC
  clear A0 A2 A1
  have hi0 : (0 : Int) ≤ (i : Int) := by omega
  have hi1 : (i : Int) < 1099511627776 := by omega
  obtain ⟨W1, hW1, H1⟩ := CC.new w
  go_enter Tryz.func53, Tryz.ntmps53
  go_wp2_with fail
  refine Calls.mono (HA0.out _ _ (by omega) H1.out.bl) ?_
  rintro e Wq ⟨rfl, hq⟩
  subst Wq
  obtain ⟨W2, hW2, H2, z1_0, z1_1⟩ := CC.s1 H1 (.bool true)
  clear H1
  go_wp2_with fail
  refine Calls.mono (HA2.out _ _ (by omega) H2.out.bl) ?_
  rintro e Wq ⟨rfl, hq⟩
  subst Wq
  clear z1_0 z1_1
  go_wp2_with fail
  refine Calls.mono (HA1.out _ _ (by omega) H2.out.bl) ?_
  rintro e Wq ⟨rfl, hq⟩
  subst Wq
  obtain ⟨W3, hW3, H3, z2_0, z2_1⟩ := CC.s0 H2 (.int .i64 6)
  clear H2
  go_wp2_with fail
  clear z2_0 z2_1
  refine Calls.mono (HKC.out W3) ?_
  rintro e W4 ⟨⟨m, hm, rfl, hq⟩, hb⟩
  have HQ : Hid (_ ∧ Q m) := ⟨hm, hq⟩
  have H4 := CC.bel H3 hb
  clear hb hm hq H3
  obtain ⟨q, hw⟩ : ∃ q, IntKind.i64.wrap (m : Int) = q := ⟨_, rfl⟩
  have HW : Hid (IntKind.i64.wrap (m : Int) = q) := hw
  obtain ⟨W5, hW5, H5, z4_0, z4_1⟩ := CC.s3 H4 (.int .i64 q)
  clear H4
  obtain ⟨⟨y0, y1, y2, y3⟩, ⟨x0, x1, x2, x3⟩, f0, f1, f2, f3⟩ := CC.ys H5
  have HF := CC.fin H5
  clear H5
  go_wp2_with fail
  obtain ⟨WF, hWF, hBf, e0, e1, e2, e3⟩ := HF.out
  rw [hWF]
  refine bodyPost_ret (v := .tuple #[.agg #[.int .i64 6, .bool true, .string ⟨#[]⟩, .int .i64 q], .int .i64 _]) (by simp [results, Tryz.results53, go_sem, e0, e1, e2, e3]; rfl) rfl ?_
  exact ⟨⟨m, q, _, HQ.out.1, HQ.out.2, HW.out, by omega, rfl⟩, hBf⟩
set_option maxHeartbeats 2000000 in
theorem rrc7n (v : Value) (i : Nat) (hi : i < 1099511627776) (X : ByteArray) (n : Int) (KC : (∀ W, Calls Tryz.prog 96 #[.string X] W fun e w' => e = .returned (.int .i64 n) ∧ w' = W)) (w : World) (A0 : AtI v (i + 0) w ⟨#[110, 111, 116]⟩) (A2 : AtI v (i + 2) w X) (A1 : AtI v (i + 1) w ⟨#[102, 97, 109]⟩) : Calls Tryz.prog 53 #[v, .int .i64 (i : Int)] w fun e w' => (∃ z : Int, z = ((i + 3 : Nat) : Int) ∧ e = .returned (.tuple #[cdV ⟨7, true, ⟨#[]⟩, n⟩, .int .i64 z])) ∧ Below w.heap.size w w' := by
  have HA0 : Hid _ := A0
  have HA2 : Hid _ := A2
  have HA1 : Hid _ := A1
  have HKC : Hid (∀ W, _) := KC
  clear KC
  clear A0 A2 A1
  have hi0 : (0 : Int) ≤ (i : Int) := by omega
  have hi1 : (i : Int) < 1099511627776 := by omega
  obtain ⟨W1, hW1, H1⟩ := CC.new w
  go_enter Tryz.func53, Tryz.ntmps53
  go_wp2_with fail
  refine Calls.mono (HA0.out _ _ (by omega) H1.out.bl) ?_
  rintro e Wq ⟨rfl, hq⟩
  subst Wq
  obtain ⟨W2, hW2, H2, z1_0, z1_1⟩ := CC.s1 H1 (.bool true)
  clear H1
  go_wp2_with fail
  refine Calls.mono (HA2.out _ _ (by omega) H2.out.bl) ?_
  rintro e Wq ⟨rfl, hq⟩
  subst Wq
  clear z1_0 z1_1
  go_wp2_with fail
  refine Calls.mono (HA1.out _ _ (by omega) H2.out.bl) ?_
  rintro e Wq ⟨rfl, hq⟩
  subst Wq
  obtain ⟨W3, hW3, H3, z2_0, z2_1⟩ := CC.s0 H2 (.int .i64 7)
  clear H2
  go_wp2_with fail
  clear z2_0 z2_1
  refine Calls.mono (HKC.out W3) ?_
  rintro e Wq ⟨rfl, hq⟩
  subst Wq
  obtain ⟨W4, hW4, H4, z3_0, z3_1⟩ := CC.s3 H3 (.int .i64 n)
  clear H3
  obtain ⟨⟨y0, y1, y2, y3⟩, ⟨x0, x1, x2, x3⟩, f0, f1, f2, f3⟩ := CC.ys H4
  have HF := CC.fin H4
  clear H4
  go_wp2_with fail
  obtain ⟨WF, hWF, hBf, e0, e1, e2, e3⟩ := HF.out
  rw [hWF]
  refine bodyPost_ret (v := .tuple #[.agg #[.int .i64 7, .bool true, .string ⟨#[]⟩, .int .i64 n], .int .i64 _]) (by simp [results, Tryz.results53, go_sem, e0, e1, e2, e3]; rfl) rfl ?_
  exact ⟨⟨_, by omega, rfl⟩, hBf⟩
theorem drop_getD {ws l : List (List UInt8)} {i : Nat} (h : ws.drop i = l) (t : Nat) : ws.getD (i + t) [] = l.getD t [] := by
  rw [← h, List.getD_eq_getElem?_getD, List.getD_eq_getElem?_getD, List.getElem?_drop]
/-- What the reference's reading of a condition is. -/
def CdRel (ws : List (List UInt8)) (i : Nat) (c : Cd) (j : Nat) : Prop := i + 2 ≤ j ∧ j ≤ i + 3 ∧ c.nm.size ≤ 281474976710656 ∧ ∀ c0 r, okC c0 = true → ws.drop i = wC c0 ++ r → c = c0 ∧ j = i + (wC c0).length
theorem cd_rel {ws : List (List UInt8)} {i : Nat} {nt : Bool} {off : Nat} (ho : nt = true ∧ off = 1 ∧ ws.getD i [] = notW ∨ nt = false ∧ off = 0 ∧ ws.getD i [] ≠ notW) {c : Cd} (hs : c.nm.size ≤ 281474976710656) (H : ∀ c0, okC c0 = true → c0.nt = nt → cwL.getD c0.k.toNat [] = ws.getD (i + off) [] → cvT c0 = ws.getD (i + (off + 1)) [] → c = c0) : CdRel ws i c (i + (off + 2)) := by
  refine ⟨by omega, by omega, hs, fun c0 r ok hd => ?_⟩
  have g0 := drop_getD hd 0
  have g1 := drop_getD hd 1
  have g2 := drop_getD hd 2
  rw [Nat.add_zero] at g0
  unfold wC at g0 g1 g2 ⊢
  cases hnt : c0.nt with
  | true =>
    rw [hnt, if_pos rfl] at g0 g1 g2
    rw [if_pos rfl]
    rcases ho with ⟨h1, h2, h3⟩ | ⟨h1, h2, h3⟩
    · subst h2
      exact ⟨H c0 ok (by rw [hnt, h1]) g1.symm g2.symm, rfl⟩
    · exact absurd g0 h3
  | false =>
    rw [hnt, if_neg (by simp)] at g0 g1 g2
    rw [if_neg (by simp)]
    rcases ho with ⟨h1, h2, h3⟩ | ⟨h1, h2, h3⟩
    · exact absurd (g0.symm.trans h3) (cw_not ok)
    · subst h2
      exact ⟨H c0 ok (by rw [hnt, h1]) g0.symm g1.symm, rfl⟩
theorem ok_k {c0 : Cd} (h : okC c0 = true) : c0.k = 1 ∨ c0.k = 2 ∨ c0.k = 3 ∨ c0.k = 4 ∨ c0.k = 5 ∨ c0.k = 6 ∨ c0.k = 7 := by
  rcases ok_kinds h with ⟨hk, _⟩ | ⟨hk, _⟩ | ⟨hk, _⟩ | ⟨hk, _⟩ <;> omega
theorem k_of {c0 : Cd} {k : Nat} (h : okC c0 = true) (hk : k < 8) (e : cwL.getD c0.k.toNat [] = cwL.getD k []) : c0.k = (k : Int) := by
  have hq : ∀ a : Nat, a < 8 → ∀ b : Nat, b < 8 → 1 ≤ a → cwL.getD a [] = cwL.getD b [] → a = b := by decide
  have h7 := ok_k h
  have := hq c0.k.toNat (by omega) k hk (by omega) e
  omega
theorem cd_ext {c0 : Cd} {k n : Int} {nt : Bool} {nm : ByteArray} (h1 : c0.k = k) (h2 : c0.nt = nt) (h3 : c0.nm = nm) (h4 : c0.n = n) : (⟨k, nt, nm, n⟩ : Cd) = c0 := by
  cases c0; dsimp only at h1 h2 h3 h4; rw [h1, h2, h3, h4]
theorem cd_name {c0 : Cd} {k : Nat} {nt : Bool} {x : List UInt8} (hk : k = 1 ∨ k = 2 ∨ k = 3 ∨ k = 4) (ok : okC c0 = true) (hnt : c0.nt = nt) (e : cwL.getD c0.k.toNat [] = cwL.getD k []) (hv : cvT c0 = x) : (⟨(k : Int), nt, ⟨x.toArray⟩, 0⟩ : Cd) = c0 := by
  have h1 := k_of ok (by omega) e
  rcases ok_kinds ok with ⟨_, hn, h0⟩ | ⟨hq, _⟩ | ⟨hq, _⟩ | ⟨hq, _⟩
  · refine cd_ext h1 hnt ?_ h0
    rw [← hv]
    unfold cvT
    rw [if_neg (by omega), if_neg (by omega), if_neg (by omega), bs_back]
  all_goals omega
theorem cd_org {c0 : Cd} {nt : Bool} {x : List UInt8} {m : Nat} (ok : okC c0 = true) (hnt : c0.nt = nt) (e : cwL.getD c0.k.toNat [] = cwL.getD 5 []) (hv : cvT c0 = x) (hQ : ∀ k, k < 3 → x = owL.getD k [] → m = k) : (⟨5, nt, ⟨#[]⟩, (m : Int)⟩ : Cd) = c0 := by
  have h1 := k_of (k := 5) ok (by omega) e
  rcases ok_kinds ok with ⟨hq, _⟩ | ⟨_, hn, a, b⟩ | ⟨hq, _⟩ | ⟨hq, _⟩
  · omega
  · refine cd_ext h1 hnt (bs_nil hn) ?_
    have := hQ c0.n.toNat (by omega) (by rw [← hv]; unfold cvT; rw [if_pos (by omega)])
    omega
  all_goals omega
theorem cd_num {c0 : Cd} {nt : Bool} {x : List UInt8} {m : Nat} {q : Int} (ok : okC c0 = true) (hnt : c0.nt = nt) (e : cwL.getD c0.k.toNat [] = cwL.getD 6 []) (hv : cvT c0 = x) (hQ : ∀ u, u ≤ 4294967295 → x = Lib.decDigits u → m = u) (hw : IntKind.i64.wrap (m : Int) = q) : (⟨6, nt, ⟨#[]⟩, q⟩ : Cd) = c0 := by
  have h1 := k_of (k := 6) ok (by omega) e
  rcases ok_kinds ok with ⟨hq, _⟩ | ⟨hq, _⟩ | ⟨_, hn, a, b⟩ | ⟨hq, _⟩
  · omega
  · omega
  · refine cd_ext h1 hnt (bs_nil hn) ?_
    have := hQ c0.n.toNat (by omega) (by rw [← hv]; unfold cvT; rw [if_neg (by omega), if_pos (by omega)])
    rw [IntKind.wrap_i64] at hw
    omega
  · omega
theorem cd_fam {c0 : Cd} {nt : Bool} {x : List UInt8} (ok : okC c0 = true) (hnt : c0.nt = nt) (e : cwL.getD c0.k.toNat [] = cwL.getD 7 []) (hv : cvT c0 = x) : (⟨7, nt, ⟨#[]⟩, Ad.famOf x⟩ : Cd) = c0 := by
  have h1 := k_of (k := 7) ok (by omega) e
  rcases ok_kinds ok with ⟨hq, _⟩ | ⟨hq, _⟩ | ⟨hq, _⟩ | ⟨_, hn, a, b⟩
  · omega
  · omega
  · omega
  · refine cd_ext h1 hnt (bs_nil hn) ?_
    rw [← hv]
    unfold cvT
    rw [if_neg (by omega), if_neg (by omega), if_pos (by omega)]
    rcases (show c0.n = 1 ∨ c0.n = 2 ∨ c0.n = 3 ∨ c0.n = 4 ∨ c0.n = 5 by omega) with h | h | h | h | h <;> rw [h] <;> decide +kernel
theorem rcond_read (v : Value) (ws : List (List UInt8)) (i : Nat) (w : World) (h : WsAt w v ws) (hi : i < 1099511627776) (hl : ∀ x ∈ ws, x.length ≤ 281474976710656) : Calls Tryz.prog 53 #[v, .int .i64 (i : Int)] w fun e w' => (∃ c j, e = .returned (.tuple #[cdV c, .int .i64 ((j : Nat) : Int)]) ∧ CdRel ws i c j) ∧ Below w.heap.size w w' := by
  have A : ∀ (t : Nat) (Y : ByteArray), (⟨(ws.getD (i + t) []).toArray⟩ : ByteArray) = Y → AtI v (i + t) w Y := fun t Y hY z W hz hb => by
    subst hz
    rw [← hY]
    exact rat_any v ws (i + t) W (h.below hb)
  have hx : ∀ t, (ws.getD t []).length ≤ 281474976710656 := fun t => by
    rw [List.getD_eq_getElem?_getD]
    by_cases ht : t < ws.length
    · rw [List.getElem?_eq_getElem ht]; exact hl _ (List.getElem_mem ht)
    · rw [List.getElem?_eq_none (by omega)]; simp
  have sz : ∀ t, (⟨(ws.getD t []).toArray⟩ : ByteArray).size ≤ 281474976710656 := fun t => by
    rw [show (⟨(ws.getD t []).toArray⟩ : ByteArray).size = (ws.getD t []).length from List.size_toArray ..]; exact hx t
  have ba : ∀ x : List UInt8, (⟨x.toArray⟩ : ByteArray).data.toList = x := fun x => by simp
  have ne : ∀ (t : Nat) (l : List UInt8), ws.getD t [] ≠ l → ¬ (⟨(ws.getD t []).toArray⟩ : ByteArray).toList = l := fun t l hn => by rw [ByteArray.toList_eq]; simpa using hn
  have z0 : (0 : Nat) ≤ 281474976710656 := by omega
  by_cases hN : ws.getD i [] = notW
  · by_cases h1 : ws.getD (i + 1) [] = cwL.getD 1 []
    · exact (rrc1n v i hi _  w (A 0 _ (by rw [Nat.add_zero, hN]; rfl)) (A 2 _ rfl) (A 1 _ (by rw [h1]; rfl))).mono fun e w' ⟨⟨z, hz, he⟩, hb⟩ => ⟨⟨⟨1, true, ⟨(ws.getD (i + 2) []).toArray⟩, 0⟩, i + 3, by rw [he, hz], cd_rel (Or.inl ⟨rfl, rfl, hN⟩) (sz _) fun c0 ok hnt hk hv => cd_name (k := 1) (by omega) ok hnt (hk.trans h1) hv⟩, hb⟩
    by_cases h2 : ws.getD (i + 1) [] = cwL.getD 2 []
    · exact (rrc2n v i hi _  w (A 0 _ (by rw [Nat.add_zero, hN]; rfl)) (A 2 _ rfl) (A 1 _ (by rw [h2]; rfl))).mono fun e w' ⟨⟨z, hz, he⟩, hb⟩ => ⟨⟨⟨2, true, ⟨(ws.getD (i + 2) []).toArray⟩, 0⟩, i + 3, by rw [he, hz], cd_rel (Or.inl ⟨rfl, rfl, hN⟩) (sz _) fun c0 ok hnt hk hv => cd_name (k := 2) (by omega) ok hnt (hk.trans h2) hv⟩, hb⟩
    by_cases h3 : ws.getD (i + 1) [] = cwL.getD 3 []
    · exact (rrc3n v i hi _  w (A 0 _ (by rw [Nat.add_zero, hN]; rfl)) (A 2 _ rfl) (A 1 _ (by rw [h3]; rfl))).mono fun e w' ⟨⟨z, hz, he⟩, hb⟩ => ⟨⟨⟨3, true, ⟨(ws.getD (i + 2) []).toArray⟩, 0⟩, i + 3, by rw [he, hz], cd_rel (Or.inl ⟨rfl, rfl, hN⟩) (sz _) fun c0 ok hnt hk hv => cd_name (k := 3) (by omega) ok hnt (hk.trans h3) hv⟩, hb⟩
    by_cases h4 : ws.getD (i + 1) [] = cwL.getD 4 []
    · exact (rrc4n v i hi _  w (A 0 _ (by rw [Nat.add_zero, hN]; rfl)) (A 2 _ rfl) (A 1 _ (by rw [h4]; rfl))).mono fun e w' ⟨⟨z, hz, he⟩, hb⟩ => ⟨⟨⟨4, true, ⟨(ws.getD (i + 2) []).toArray⟩, 0⟩, i + 3, by rw [he, hz], cd_rel (Or.inl ⟨rfl, rfl, hN⟩) (sz _) fun c0 ok hnt hk hv => cd_name (k := 4) (by omega) ok hnt (hk.trans h4) hv⟩, hb⟩
    by_cases h5 : ws.getD (i + 1) [] = cwL.getD 5 []
    · exact (rrc5n v i hi _ (fun m => ∀ k, k < 3 → ws.getD (i + 2) [] = owL.getD k [] → m = k) (fun W => rorg_any _ W) w (A 0 _ (by rw [Nat.add_zero, hN]; rfl)) (A 2 _ rfl) (A 1 _ (by rw [h5]; rfl))).mono fun e w' ⟨⟨m, z, hm, hq, hz, he⟩, hb⟩ => ⟨⟨⟨5, true, ⟨#[]⟩, (m : Int)⟩, i + 3, by rw [he, hz], cd_rel (Or.inl ⟨rfl, rfl, hN⟩) z0 fun c0 ok hnt hk hv => cd_org ok hnt (hk.trans h5) hv hq⟩, hb⟩
    by_cases h6 : ws.getD (i + 1) [] = cwL.getD 6 []
    · exact (rrc6n v i hi _ (fun m => ∀ u, u ≤ 4294967295 → ws.getD (i + 2) [] = Lib.decDigits u → m = u) (fun W => (rnumber_any _ W (sz _)).mono fun e w' ⟨⟨m, hm, he, hq⟩, hb⟩ => ⟨⟨m, hm, he, fun u hu hx => hq u hu (by rw [ba]; exact hx)⟩, hb⟩) w (A 0 _ (by rw [Nat.add_zero, hN]; rfl)) (A 2 _ rfl) (A 1 _ (by rw [h6]; rfl))).mono fun e w' ⟨⟨m, q, z, hm, hq, hw, hz, he⟩, hb⟩ => ⟨⟨⟨6, true, ⟨#[]⟩, q⟩, i + 3, by rw [he, hz], cd_rel (Or.inl ⟨rfl, rfl, hN⟩) z0 fun c0 ok hnt hk hv => cd_num ok hnt (hk.trans h6) hv hq hw⟩, hb⟩
    by_cases h7 : ws.getD (i + 1) [] = cwL.getD 7 []
    · exact (rrc7n v i hi _ (Ad.famOf (ws.getD (i + 2) [])) (fun W => (Ad.rfam_any _ W).mono fun e w' ⟨he, hb⟩ => ⟨by rw [he, ba], hb⟩) w (A 0 _ (by rw [Nat.add_zero, hN]; rfl)) (A 2 _ rfl) (A 1 _ (by rw [h7]; rfl))).mono fun e w' ⟨⟨z, hz, he⟩, hb⟩ => ⟨⟨⟨7, true, ⟨#[]⟩, Ad.famOf (ws.getD (i + 2) [])⟩, i + 3, by rw [he, hz], cd_rel (Or.inl ⟨rfl, rfl, hN⟩) z0 fun c0 ok hnt hk hv => cd_fam ok hnt (hk.trans h7) hv⟩, hb⟩
    exact (rrc0n v i hi ⟨(ws.getD (i + 2) []).toArray⟩ ⟨(ws.getD (i + 1) []).toArray⟩ (ne _ _ h1) (ne _ _ h2) (ne _ _ h3) (ne _ _ h4) (ne _ _ h5) (ne _ _ h6) (ne _ _ h7) w (A 0 _ (by rw [Nat.add_zero, hN]; rfl)) (A 2 _ rfl) (A 1 _ rfl)).mono fun e w' ⟨⟨z, hz, he⟩, hb⟩ => ⟨⟨⟨0, true, ⟨#[]⟩, 0⟩, i + 3, by rw [he, hz], cd_rel (Or.inl ⟨rfl, rfl, hN⟩) z0 fun c0 ok hnt hk hv => by
      rcases ok_k ok with e | e | e | e | e | e | e <;> rw [e] at hk
      · exact absurd hk.symm h1
      · exact absurd hk.symm h2
      · exact absurd hk.symm h3
      · exact absurd hk.symm h4
      · exact absurd hk.symm h5
      · exact absurd hk.symm h6
      · exact absurd hk.symm h7
      ⟩, hb⟩
  by_cases h1 : ws.getD (i + 0) [] = cwL.getD 1 []
  · exact (rrc1 v i hi _  w (A 1 _ rfl) (A 0 _ (by rw [h1]; rfl))).mono fun e w' ⟨⟨z, hz, he⟩, hb⟩ => ⟨⟨⟨1, false, ⟨(ws.getD (i + 1) []).toArray⟩, 0⟩, i + 2, by rw [he, hz], cd_rel (Or.inr ⟨rfl, rfl, hN⟩) (sz _) fun c0 ok hnt hk hv => cd_name (k := 1) (by omega) ok hnt (hk.trans h1) hv⟩, hb⟩
  by_cases h2 : ws.getD (i + 0) [] = cwL.getD 2 []
  · exact (rrc2 v i hi _  w (A 1 _ rfl) (A 0 _ (by rw [h2]; rfl))).mono fun e w' ⟨⟨z, hz, he⟩, hb⟩ => ⟨⟨⟨2, false, ⟨(ws.getD (i + 1) []).toArray⟩, 0⟩, i + 2, by rw [he, hz], cd_rel (Or.inr ⟨rfl, rfl, hN⟩) (sz _) fun c0 ok hnt hk hv => cd_name (k := 2) (by omega) ok hnt (hk.trans h2) hv⟩, hb⟩
  by_cases h3 : ws.getD (i + 0) [] = cwL.getD 3 []
  · exact (rrc3 v i hi _  w (A 1 _ rfl) (A 0 _ (by rw [h3]; rfl))).mono fun e w' ⟨⟨z, hz, he⟩, hb⟩ => ⟨⟨⟨3, false, ⟨(ws.getD (i + 1) []).toArray⟩, 0⟩, i + 2, by rw [he, hz], cd_rel (Or.inr ⟨rfl, rfl, hN⟩) (sz _) fun c0 ok hnt hk hv => cd_name (k := 3) (by omega) ok hnt (hk.trans h3) hv⟩, hb⟩
  by_cases h4 : ws.getD (i + 0) [] = cwL.getD 4 []
  · exact (rrc4 v i hi _  w (A 1 _ rfl) (A 0 _ (by rw [h4]; rfl))).mono fun e w' ⟨⟨z, hz, he⟩, hb⟩ => ⟨⟨⟨4, false, ⟨(ws.getD (i + 1) []).toArray⟩, 0⟩, i + 2, by rw [he, hz], cd_rel (Or.inr ⟨rfl, rfl, hN⟩) (sz _) fun c0 ok hnt hk hv => cd_name (k := 4) (by omega) ok hnt (hk.trans h4) hv⟩, hb⟩
  by_cases h5 : ws.getD (i + 0) [] = cwL.getD 5 []
  · exact (rrc5 v i hi _ (fun m => ∀ k, k < 3 → ws.getD (i + 1) [] = owL.getD k [] → m = k) (fun W => rorg_any _ W) w (A 1 _ rfl) (A 0 _ (by rw [h5]; rfl))).mono fun e w' ⟨⟨m, z, hm, hq, hz, he⟩, hb⟩ => ⟨⟨⟨5, false, ⟨#[]⟩, (m : Int)⟩, i + 2, by rw [he, hz], cd_rel (Or.inr ⟨rfl, rfl, hN⟩) z0 fun c0 ok hnt hk hv => cd_org ok hnt (hk.trans h5) hv hq⟩, hb⟩
  by_cases h6 : ws.getD (i + 0) [] = cwL.getD 6 []
  · exact (rrc6 v i hi _ (fun m => ∀ u, u ≤ 4294967295 → ws.getD (i + 1) [] = Lib.decDigits u → m = u) (fun W => (rnumber_any _ W (sz _)).mono fun e w' ⟨⟨m, hm, he, hq⟩, hb⟩ => ⟨⟨m, hm, he, fun u hu hx => hq u hu (by rw [ba]; exact hx)⟩, hb⟩) w (A 1 _ rfl) (A 0 _ (by rw [h6]; rfl))).mono fun e w' ⟨⟨m, q, z, hm, hq, hw, hz, he⟩, hb⟩ => ⟨⟨⟨6, false, ⟨#[]⟩, q⟩, i + 2, by rw [he, hz], cd_rel (Or.inr ⟨rfl, rfl, hN⟩) z0 fun c0 ok hnt hk hv => cd_num ok hnt (hk.trans h6) hv hq hw⟩, hb⟩
  by_cases h7 : ws.getD (i + 0) [] = cwL.getD 7 []
  · exact (rrc7 v i hi _ (Ad.famOf (ws.getD (i + 1) [])) (fun W => (Ad.rfam_any _ W).mono fun e w' ⟨he, hb⟩ => ⟨by rw [he, ba], hb⟩) w (A 1 _ rfl) (A 0 _ (by rw [h7]; rfl))).mono fun e w' ⟨⟨z, hz, he⟩, hb⟩ => ⟨⟨⟨7, false, ⟨#[]⟩, Ad.famOf (ws.getD (i + 1) [])⟩, i + 2, by rw [he, hz], cd_rel (Or.inr ⟨rfl, rfl, hN⟩) z0 fun c0 ok hnt hk hv => cd_fam ok hnt (hk.trans h7) hv⟩, hb⟩
  exact (rrc0 v i hi ⟨(ws.getD (i + 1) []).toArray⟩ ⟨(ws.getD (i + 0) []).toArray⟩ (ne _ _ h1) (ne _ _ h2) (ne _ _ h3) (ne _ _ h4) (ne _ _ h5) (ne _ _ h6) (ne _ _ h7) (ne _ _ hN) w (A 1 _ rfl) (A 0 _ rfl)).mono fun e w' ⟨⟨z, hz, he⟩, hb⟩ => ⟨⟨⟨0, false, ⟨#[]⟩, 0⟩, i + 2, by rw [he, hz], cd_rel (Or.inr ⟨rfl, rfl, hN⟩) z0 fun c0 ok hnt hk hv => by
    rcases ok_k ok with e | e | e | e | e | e | e <;> rw [e] at hk
    · exact absurd hk.symm h1
    · exact absurd hk.symm h2
    · exact absurd hk.symm h3
    · exact absurd hk.symm h4
    · exact absurd hk.symm h5
    · exact absurd hk.symm h6
    · exact absurd hk.symm h7
    ⟩, hb⟩
end Go.Proofs.YthaebbmekonacaaGreatDoor
