/-
  The reference reads an action.
-/
import Derived.Test.YthaebbmekonacaaGreatDoorRZ2
import Derived.Test.YthaebbmekonacaaGreatDoorRZ3
set_option linter.unusedVariables false
set_option linter.unusedSimpArgs false
set_option maxRecDepth 100000
namespace Go.Proofs.YthaebbmekonacaaGreatDoor
open Go.RowKit
set_option maxHeartbeats 2000000 in
theorem rra0 (v : Value) (i : Nat) (hi : i < 1099511627776) (X : ByteArray) (Y : ByteArray) (d1 : ¬ Y.toList = ([97, 99, 99, 101, 112, 116] : List UInt8)) (d2 : ¬ Y.toList = ([114, 101, 106, 101, 99, 116] : List UInt8)) (d3 : ¬ Y.toList = ([112, 114, 101, 102] : List UInt8)) (d4 : ¬ Y.toList = ([109, 101, 100] : List UInt8)) (d5 : ¬ Y.toList = ([110, 111, 45, 109, 101, 100] : List UInt8)) (d6 : ¬ Y.toList = ([97, 100, 100] : List UInt8)) (d7 : ¬ Y.toList = ([100, 101, 108] : List UInt8)) (d8 : ¬ Y.toList = ([112, 114, 101, 112, 101, 110, 100] : List UInt8)) (d9 : ¬ Y.toList = ([110, 101, 120, 116] : List UInt8)) (d10 : ¬ Y.toList = ([111, 114, 105, 103, 105, 110] : List UInt8)) (Q : Nat → Prop) (KN : ∀ W, Calls Tryz.prog 95 #[.string X] W fun e w' => (∃ n : Nat, n < 18446744073709551616 ∧ e = .returned (.int .u64 (n : Int)) ∧ Q n) ∧ Below W.heap.size W w') (w : World) (A1 : (∀ (z : Int) (W : World), z = ((i + 1 : Nat) : Int) → Below w.heap.size w W → Calls Tryz.prog 52 #[v, .int .i64 z] W fun e w' => e = .returned (.string X) ∧ w' = W)) (A0 : (∀ (z : Int) (W : World), z = ((i + 0 : Nat) : Int) → Below w.heap.size w W → Calls Tryz.prog 52 #[v, .int .i64 z] W fun e w' => e = .returned (.string Y) ∧ w' = W)) : Calls Tryz.prog 54 #[v, .int .i64 (i : Int)] w fun e w' => (∃ (z : Int), z = ((i + 1 : Nat) : Int) ∧ e = .returned (.tuple #[acV ⟨0, ⟨#[]⟩, 0, ⟨#[]⟩⟩, .int .i64 z])) ∧ Below w.heap.size w w' := by
  have HA1 : Hid (∀ (z : Int) (W : World), _) := A1
  have HA0 : Hid (∀ (z : Int) (W : World), _) := A0
  have HN : Hid (∀ W, _) := KN
  clear A1 A0 KN
  have g1 : (Y.toList == ([97, 99, 99, 101, 112, 116] : List UInt8)) = false := by simpa using d1
  have g2 : (Y.toList == ([114, 101, 106, 101, 99, 116] : List UInt8)) = false := by simpa using d2
  have g3 : (Y.toList == ([112, 114, 101, 102] : List UInt8)) = false := by simpa using d3
  have g4 : (Y.toList == ([109, 101, 100] : List UInt8)) = false := by simpa using d4
  have g5 : (Y.toList == ([110, 111, 45, 109, 101, 100] : List UInt8)) = false := by simpa using d5
  have g6 : (Y.toList == ([97, 100, 100] : List UInt8)) = false := by simpa using d6
  have g7 : (Y.toList == ([100, 101, 108] : List UInt8)) = false := by simpa using d7
  have g8 : (Y.toList == ([112, 114, 101, 112, 101, 110, 100] : List UInt8)) = false := by simpa using d8
  have g9 : (Y.toList == ([110, 101, 120, 116] : List UInt8)) = false := by simpa using d9
  have g10 : (Y.toList == ([111, 114, 105, 103, 105, 110] : List UInt8)) = false := by simpa using d10
  have hi0 : (0 : Int) ≤ (i : Int) := by omega
  have hi1 : (i : Int) < 1099511627776 := by omega
  obtain ⟨W1, hW1⟩ : ∃ W1, w.alloc (.cells #[.int .i64 0, .string ⟨#[]⟩, .int .u32 0, .string ⟨#[]⟩] 40) = W1 := ⟨_, rfl⟩
  have HB1 : Hid (Below w.heap.size w W1) := by unfold Hid; rw [← hW1]; exact (Below.refl _ _).alloc (Nat.le_refl _) _
  have HD1 : Hid (C4 W1 w.heap.size (.int .i64 0) (.string ⟨#[]⟩) (.int .u32 0) (.string ⟨#[]⟩)) := by unfold Hid; rw [← hW1]; exact C4.new w 40 _ _ _ _
  go_enter Tryz.func54, Tryz.ntmps54
  go_wp2_with fail
  refine Calls.mono (HA1.out _ _ (by omega) HB1.out) ?_
  rintro e Wq ⟨rfl, hq⟩
  subst Wq
  go_wp2_with fail
  refine Calls.mono (HN.out W1) ?_
  rintro e W2 ⟨⟨m, hm, rfl, hq⟩, hb⟩
  have HQ : Hid (Q m) := hq
  obtain ⟨p, hp⟩ : ∃ p, p = m % 4294967296 := ⟨_, rfl⟩
  have HP : Hid (p = m % 4294967296) := hp
  have hw : IntKind.u32.wrap (m : Int) = (p : Int) := by rw [IntKind.wrap_u32]; omega
  have HB2 : Hid (Below w.heap.size w W2) := HB1.out.trans (hb.mono HB1.out.size)
  have HD2 : Hid (_ : Prop) := HD1.out.below hb
  clear hb hm hq hp HB1 HD1 hW1
  go_wp2_with fail
  refine Calls.mono (HA0.out _ _ (by omega) HB2.out) ?_
  rintro e Wq ⟨rfl, hq⟩
  subst Wq
  have x0 := HD2.out.c0
  have x1 := HD2.out.c1
  have x2 := HD2.out.c2
  have x3 := HD2.out.c3
  have f0 := HD2.out.f 0
  have f1 := HD2.out.f 1
  have f2 := HD2.out.f 2
  have f3 := HD2.out.f 3
  have HF : Hid (C4 ((((W2.setCell ⟨w.heap.size, 0, none⟩ (.int .i64 0)).setCell ⟨w.heap.size, 1, none⟩ (.string ⟨#[]⟩)).setCell ⟨w.heap.size, 2, none⟩ (.int .u32 0)).setCell ⟨w.heap.size, 3, none⟩ (.string ⟨#[]⟩)) w.heap.size (.int .i64 0) (.string ⟨#[]⟩) (.int .u32 0) (.string ⟨#[]⟩)) := HD2.out.set0.set1.set2.set3
  have HBf : Hid (Below w.heap.size w ((((W2.setCell ⟨w.heap.size, 0, none⟩ (.int .i64 0)).setCell ⟨w.heap.size, 1, none⟩ (.string ⟨#[]⟩)).setCell ⟨w.heap.size, 2, none⟩ (.int .u32 0)).setCell ⟨w.heap.size, 3, none⟩ (.string ⟨#[]⟩))) := bset (bset (bset (bset HB2.out (Nat.le_refl _)) (Nat.le_refl _)) (Nat.le_refl _)) (Nat.le_refl _)
  go_wp2_with fail
  generalize ((((W2.setCell ⟨w.heap.size, 0, none⟩ (.int .i64 0)).setCell ⟨w.heap.size, 1, none⟩ (.string ⟨#[]⟩)).setCell ⟨w.heap.size, 2, none⟩ (.int .u32 0)).setCell ⟨w.heap.size, 3, none⟩ (.string ⟨#[]⟩)) = WF at *
  have e0 := HF.out.c0
  have e1 := HF.out.c1
  have e2 := HF.out.c2
  have e3 := HF.out.c3
  refine bodyPost_ret (v := .tuple #[.agg #[.int .i64 0, .string ⟨#[]⟩, .int .u32 0, .string ⟨#[]⟩], .int .i64 _]) (by simp [results, Tryz.results54, go_sem, e0, e1, e2, e3]; rfl) rfl ?_
  exact ⟨⟨_, by omega, rfl⟩, HBf.out⟩
set_option maxHeartbeats 2000000 in
theorem rra1 (v : Value) (i : Nat) (hi : i < 1099511627776) (X : ByteArray) (Q : Nat → Prop) (KN : ∀ W, Calls Tryz.prog 95 #[.string X] W fun e w' => (∃ n : Nat, n < 18446744073709551616 ∧ e = .returned (.int .u64 (n : Int)) ∧ Q n) ∧ Below W.heap.size W w') (w : World) (A1 : (∀ (z : Int) (W : World), z = ((i + 1 : Nat) : Int) → Below w.heap.size w W → Calls Tryz.prog 52 #[v, .int .i64 z] W fun e w' => e = .returned (.string X) ∧ w' = W)) (A0 : (∀ (z : Int) (W : World), z = ((i + 0 : Nat) : Int) → Below w.heap.size w W → Calls Tryz.prog 52 #[v, .int .i64 z] W fun e w' => e = .returned (.string ⟨#[97, 99, 99, 101, 112, 116]⟩) ∧ w' = W)) : Calls Tryz.prog 54 #[v, .int .i64 (i : Int)] w fun e w' => (∃ (z : Int), z = ((i + 1 : Nat) : Int) ∧ e = .returned (.tuple #[acV ⟨1, ⟨#[]⟩, 0, ⟨#[]⟩⟩, .int .i64 z])) ∧ Below w.heap.size w w' := by
  have HA1 : Hid (∀ (z : Int) (W : World), _) := A1
  have HA0 : Hid (∀ (z : Int) (W : World), _) := A0
  have HN : Hid (∀ W, _) := KN
  clear A1 A0 KN
  have hi0 : (0 : Int) ≤ (i : Int) := by omega
  have hi1 : (i : Int) < 1099511627776 := by omega
  obtain ⟨W1, hW1⟩ : ∃ W1, w.alloc (.cells #[.int .i64 0, .string ⟨#[]⟩, .int .u32 0, .string ⟨#[]⟩] 40) = W1 := ⟨_, rfl⟩
  have HB1 : Hid (Below w.heap.size w W1) := by unfold Hid; rw [← hW1]; exact (Below.refl _ _).alloc (Nat.le_refl _) _
  have HD1 : Hid (C4 W1 w.heap.size (.int .i64 0) (.string ⟨#[]⟩) (.int .u32 0) (.string ⟨#[]⟩)) := by unfold Hid; rw [← hW1]; exact C4.new w 40 _ _ _ _
  go_enter Tryz.func54, Tryz.ntmps54
  go_wp2_with fail
  refine Calls.mono (HA1.out _ _ (by omega) HB1.out) ?_
  rintro e Wq ⟨rfl, hq⟩
  subst Wq
  go_wp2_with fail
  refine Calls.mono (HN.out W1) ?_
  rintro e W2 ⟨⟨m, hm, rfl, hq⟩, hb⟩
  have HQ : Hid (Q m) := hq
  obtain ⟨p, hp⟩ : ∃ p, p = m % 4294967296 := ⟨_, rfl⟩
  have HP : Hid (p = m % 4294967296) := hp
  have hw : IntKind.u32.wrap (m : Int) = (p : Int) := by rw [IntKind.wrap_u32]; omega
  have HB2 : Hid (Below w.heap.size w W2) := HB1.out.trans (hb.mono HB1.out.size)
  have HD2 : Hid (_ : Prop) := HD1.out.below hb
  clear hb hm hq hp HB1 HD1 hW1
  go_wp2_with fail
  refine Calls.mono (HA0.out _ _ (by omega) HB2.out) ?_
  rintro e Wq ⟨rfl, hq⟩
  subst Wq
  have x0 := HD2.out.c0
  have x1 := HD2.out.c1
  have x2 := HD2.out.c2
  have x3 := HD2.out.c3
  have f0 := HD2.out.f 0
  have f1 := HD2.out.f 1
  have f2 := HD2.out.f 2
  have f3 := HD2.out.f 3
  have HF : Hid (C4 ((((W2.setCell ⟨w.heap.size, 0, none⟩ (.int .i64 1)).setCell ⟨w.heap.size, 1, none⟩ (.string ⟨#[]⟩)).setCell ⟨w.heap.size, 2, none⟩ (.int .u32 0)).setCell ⟨w.heap.size, 3, none⟩ (.string ⟨#[]⟩)) w.heap.size (.int .i64 1) (.string ⟨#[]⟩) (.int .u32 0) (.string ⟨#[]⟩)) := HD2.out.set0.set1.set2.set3
  have HBf : Hid (Below w.heap.size w ((((W2.setCell ⟨w.heap.size, 0, none⟩ (.int .i64 1)).setCell ⟨w.heap.size, 1, none⟩ (.string ⟨#[]⟩)).setCell ⟨w.heap.size, 2, none⟩ (.int .u32 0)).setCell ⟨w.heap.size, 3, none⟩ (.string ⟨#[]⟩))) := bset (bset (bset (bset HB2.out (Nat.le_refl _)) (Nat.le_refl _)) (Nat.le_refl _)) (Nat.le_refl _)
  go_wp2_with fail
  generalize ((((W2.setCell ⟨w.heap.size, 0, none⟩ (.int .i64 1)).setCell ⟨w.heap.size, 1, none⟩ (.string ⟨#[]⟩)).setCell ⟨w.heap.size, 2, none⟩ (.int .u32 0)).setCell ⟨w.heap.size, 3, none⟩ (.string ⟨#[]⟩)) = WF at *
  have e0 := HF.out.c0
  have e1 := HF.out.c1
  have e2 := HF.out.c2
  have e3 := HF.out.c3
  refine bodyPost_ret (v := .tuple #[.agg #[.int .i64 1, .string ⟨#[]⟩, .int .u32 0, .string ⟨#[]⟩], .int .i64 _]) (by simp [results, Tryz.results54, go_sem, e0, e1, e2, e3]; rfl) rfl ?_
  exact ⟨⟨_, by omega, rfl⟩, HBf.out⟩
set_option maxHeartbeats 2000000 in
theorem rra2 (v : Value) (i : Nat) (hi : i < 1099511627776) (X : ByteArray) (Q : Nat → Prop) (KN : ∀ W, Calls Tryz.prog 95 #[.string X] W fun e w' => (∃ n : Nat, n < 18446744073709551616 ∧ e = .returned (.int .u64 (n : Int)) ∧ Q n) ∧ Below W.heap.size W w') (w : World) (A1 : (∀ (z : Int) (W : World), z = ((i + 1 : Nat) : Int) → Below w.heap.size w W → Calls Tryz.prog 52 #[v, .int .i64 z] W fun e w' => e = .returned (.string X) ∧ w' = W)) (A0 : (∀ (z : Int) (W : World), z = ((i + 0 : Nat) : Int) → Below w.heap.size w W → Calls Tryz.prog 52 #[v, .int .i64 z] W fun e w' => e = .returned (.string ⟨#[114, 101, 106, 101, 99, 116]⟩) ∧ w' = W)) : Calls Tryz.prog 54 #[v, .int .i64 (i : Int)] w fun e w' => (∃ (z : Int), z = ((i + 1 : Nat) : Int) ∧ e = .returned (.tuple #[acV ⟨2, ⟨#[]⟩, 0, ⟨#[]⟩⟩, .int .i64 z])) ∧ Below w.heap.size w w' := by
  have HA1 : Hid (∀ (z : Int) (W : World), _) := A1
  have HA0 : Hid (∀ (z : Int) (W : World), _) := A0
  have HN : Hid (∀ W, _) := KN
  clear A1 A0 KN
  have hi0 : (0 : Int) ≤ (i : Int) := by omega
  have hi1 : (i : Int) < 1099511627776 := by omega
  obtain ⟨W1, hW1⟩ : ∃ W1, w.alloc (.cells #[.int .i64 0, .string ⟨#[]⟩, .int .u32 0, .string ⟨#[]⟩] 40) = W1 := ⟨_, rfl⟩
  have HB1 : Hid (Below w.heap.size w W1) := by unfold Hid; rw [← hW1]; exact (Below.refl _ _).alloc (Nat.le_refl _) _
  have HD1 : Hid (C4 W1 w.heap.size (.int .i64 0) (.string ⟨#[]⟩) (.int .u32 0) (.string ⟨#[]⟩)) := by unfold Hid; rw [← hW1]; exact C4.new w 40 _ _ _ _
  go_enter Tryz.func54, Tryz.ntmps54
  go_wp2_with fail
  refine Calls.mono (HA1.out _ _ (by omega) HB1.out) ?_
  rintro e Wq ⟨rfl, hq⟩
  subst Wq
  go_wp2_with fail
  refine Calls.mono (HN.out W1) ?_
  rintro e W2 ⟨⟨m, hm, rfl, hq⟩, hb⟩
  have HQ : Hid (Q m) := hq
  obtain ⟨p, hp⟩ : ∃ p, p = m % 4294967296 := ⟨_, rfl⟩
  have HP : Hid (p = m % 4294967296) := hp
  have hw : IntKind.u32.wrap (m : Int) = (p : Int) := by rw [IntKind.wrap_u32]; omega
  have HB2 : Hid (Below w.heap.size w W2) := HB1.out.trans (hb.mono HB1.out.size)
  have HD2 : Hid (_ : Prop) := HD1.out.below hb
  clear hb hm hq hp HB1 HD1 hW1
  go_wp2_with fail
  refine Calls.mono (HA0.out _ _ (by omega) HB2.out) ?_
  rintro e Wq ⟨rfl, hq⟩
  subst Wq
  have x0 := HD2.out.c0
  have x1 := HD2.out.c1
  have x2 := HD2.out.c2
  have x3 := HD2.out.c3
  have f0 := HD2.out.f 0
  have f1 := HD2.out.f 1
  have f2 := HD2.out.f 2
  have f3 := HD2.out.f 3
  have HF : Hid (C4 ((((W2.setCell ⟨w.heap.size, 0, none⟩ (.int .i64 2)).setCell ⟨w.heap.size, 1, none⟩ (.string ⟨#[]⟩)).setCell ⟨w.heap.size, 2, none⟩ (.int .u32 0)).setCell ⟨w.heap.size, 3, none⟩ (.string ⟨#[]⟩)) w.heap.size (.int .i64 2) (.string ⟨#[]⟩) (.int .u32 0) (.string ⟨#[]⟩)) := HD2.out.set0.set1.set2.set3
  have HBf : Hid (Below w.heap.size w ((((W2.setCell ⟨w.heap.size, 0, none⟩ (.int .i64 2)).setCell ⟨w.heap.size, 1, none⟩ (.string ⟨#[]⟩)).setCell ⟨w.heap.size, 2, none⟩ (.int .u32 0)).setCell ⟨w.heap.size, 3, none⟩ (.string ⟨#[]⟩))) := bset (bset (bset (bset HB2.out (Nat.le_refl _)) (Nat.le_refl _)) (Nat.le_refl _)) (Nat.le_refl _)
  go_wp2_with fail
  generalize ((((W2.setCell ⟨w.heap.size, 0, none⟩ (.int .i64 2)).setCell ⟨w.heap.size, 1, none⟩ (.string ⟨#[]⟩)).setCell ⟨w.heap.size, 2, none⟩ (.int .u32 0)).setCell ⟨w.heap.size, 3, none⟩ (.string ⟨#[]⟩)) = WF at *
  have e0 := HF.out.c0
  have e1 := HF.out.c1
  have e2 := HF.out.c2
  have e3 := HF.out.c3
  refine bodyPost_ret (v := .tuple #[.agg #[.int .i64 2, .string ⟨#[]⟩, .int .u32 0, .string ⟨#[]⟩], .int .i64 _]) (by simp [results, Tryz.results54, go_sem, e0, e1, e2, e3]; rfl) rfl ?_
  exact ⟨⟨_, by omega, rfl⟩, HBf.out⟩
set_option maxHeartbeats 2000000 in
theorem rra3 (v : Value) (i : Nat) (hi : i < 1099511627776) (X : ByteArray) (Q : Nat → Prop) (KN : ∀ W, Calls Tryz.prog 95 #[.string X] W fun e w' => (∃ n : Nat, n < 18446744073709551616 ∧ e = .returned (.int .u64 (n : Int)) ∧ Q n) ∧ Below W.heap.size W w') (w : World) (A1 : (∀ (z : Int) (W : World), z = ((i + 1 : Nat) : Int) → Below w.heap.size w W → Calls Tryz.prog 52 #[v, .int .i64 z] W fun e w' => e = .returned (.string X) ∧ w' = W)) (A0 : (∀ (z : Int) (W : World), z = ((i + 0 : Nat) : Int) → Below w.heap.size w W → Calls Tryz.prog 52 #[v, .int .i64 z] W fun e w' => e = .returned (.string ⟨#[112, 114, 101, 102]⟩) ∧ w' = W)) : Calls Tryz.prog 54 #[v, .int .i64 (i : Int)] w fun e w' => (∃ (m p : Nat) (z : Int), Q m ∧ p = m % 4294967296 ∧ z = ((i + 2 : Nat) : Int) ∧ e = .returned (.tuple #[acV ⟨3, ⟨#[]⟩, p, ⟨#[]⟩⟩, .int .i64 z])) ∧ Below w.heap.size w w' := by
  have HA1 : Hid (∀ (z : Int) (W : World), _) := A1
  have HA0 : Hid (∀ (z : Int) (W : World), _) := A0
  have HN : Hid (∀ W, _) := KN
  clear A1 A0 KN
  have hi0 : (0 : Int) ≤ (i : Int) := by omega
  have hi1 : (i : Int) < 1099511627776 := by omega
  obtain ⟨W1, hW1⟩ : ∃ W1, w.alloc (.cells #[.int .i64 0, .string ⟨#[]⟩, .int .u32 0, .string ⟨#[]⟩] 40) = W1 := ⟨_, rfl⟩
  have HB1 : Hid (Below w.heap.size w W1) := by unfold Hid; rw [← hW1]; exact (Below.refl _ _).alloc (Nat.le_refl _) _
  have HD1 : Hid (C4 W1 w.heap.size (.int .i64 0) (.string ⟨#[]⟩) (.int .u32 0) (.string ⟨#[]⟩)) := by unfold Hid; rw [← hW1]; exact C4.new w 40 _ _ _ _
  go_enter Tryz.func54, Tryz.ntmps54
  go_wp2_with fail
  refine Calls.mono (HA1.out _ _ (by omega) HB1.out) ?_
  rintro e Wq ⟨rfl, hq⟩
  subst Wq
  go_wp2_with fail
  refine Calls.mono (HN.out W1) ?_
  rintro e W2 ⟨⟨m, hm, rfl, hq⟩, hb⟩
  have HQ : Hid (Q m) := hq
  obtain ⟨p, hp⟩ : ∃ p, p = m % 4294967296 := ⟨_, rfl⟩
  have HP : Hid (p = m % 4294967296) := hp
  have hw : IntKind.u32.wrap (m : Int) = (p : Int) := by rw [IntKind.wrap_u32]; omega
  have HB2 : Hid (Below w.heap.size w W2) := HB1.out.trans (hb.mono HB1.out.size)
  have HD2 : Hid (_ : Prop) := HD1.out.below hb
  clear hb hm hq hp HB1 HD1 hW1
  go_wp2_with fail
  refine Calls.mono (HA0.out _ _ (by omega) HB2.out) ?_
  rintro e Wq ⟨rfl, hq⟩
  subst Wq
  have x0 := HD2.out.c0
  have x1 := HD2.out.c1
  have x2 := HD2.out.c2
  have x3 := HD2.out.c3
  have f0 := HD2.out.f 0
  have f1 := HD2.out.f 1
  have f2 := HD2.out.f 2
  have f3 := HD2.out.f 3
  have HF : Hid (C4 ((((W2.setCell ⟨w.heap.size, 0, none⟩ (.int .i64 3)).setCell ⟨w.heap.size, 1, none⟩ (.string ⟨#[]⟩)).setCell ⟨w.heap.size, 2, none⟩ (.int .u32 (p : Int))).setCell ⟨w.heap.size, 3, none⟩ (.string ⟨#[]⟩)) w.heap.size (.int .i64 3) (.string ⟨#[]⟩) (.int .u32 (p : Int)) (.string ⟨#[]⟩)) := HD2.out.set0.set1.set2.set3
  have HBf : Hid (Below w.heap.size w ((((W2.setCell ⟨w.heap.size, 0, none⟩ (.int .i64 3)).setCell ⟨w.heap.size, 1, none⟩ (.string ⟨#[]⟩)).setCell ⟨w.heap.size, 2, none⟩ (.int .u32 (p : Int))).setCell ⟨w.heap.size, 3, none⟩ (.string ⟨#[]⟩))) := bset (bset (bset (bset HB2.out (Nat.le_refl _)) (Nat.le_refl _)) (Nat.le_refl _)) (Nat.le_refl _)
  go_wp2_with fail
  generalize ((((W2.setCell ⟨w.heap.size, 0, none⟩ (.int .i64 3)).setCell ⟨w.heap.size, 1, none⟩ (.string ⟨#[]⟩)).setCell ⟨w.heap.size, 2, none⟩ (.int .u32 (p : Int))).setCell ⟨w.heap.size, 3, none⟩ (.string ⟨#[]⟩)) = WF at *
  have e0 := HF.out.c0
  have e1 := HF.out.c1
  have e2 := HF.out.c2
  have e3 := HF.out.c3
  refine bodyPost_ret (v := .tuple #[.agg #[.int .i64 3, .string ⟨#[]⟩, .int .u32 (p : Int), .string ⟨#[]⟩], .int .i64 _]) (by simp [results, Tryz.results54, go_sem, e0, e1, e2, e3]; rfl) rfl ?_
  exact ⟨⟨m, p, _, HQ.out, HP.out, by omega, rfl⟩, HBf.out⟩
set_option maxHeartbeats 2000000 in
theorem rra4 (v : Value) (i : Nat) (hi : i < 1099511627776) (X : ByteArray) (Q : Nat → Prop) (KN : ∀ W, Calls Tryz.prog 95 #[.string X] W fun e w' => (∃ n : Nat, n < 18446744073709551616 ∧ e = .returned (.int .u64 (n : Int)) ∧ Q n) ∧ Below W.heap.size W w') (w : World) (A1 : (∀ (z : Int) (W : World), z = ((i + 1 : Nat) : Int) → Below w.heap.size w W → Calls Tryz.prog 52 #[v, .int .i64 z] W fun e w' => e = .returned (.string X) ∧ w' = W)) (A0 : (∀ (z : Int) (W : World), z = ((i + 0 : Nat) : Int) → Below w.heap.size w W → Calls Tryz.prog 52 #[v, .int .i64 z] W fun e w' => e = .returned (.string ⟨#[109, 101, 100]⟩) ∧ w' = W)) : Calls Tryz.prog 54 #[v, .int .i64 (i : Int)] w fun e w' => (∃ (m p : Nat) (z : Int), Q m ∧ p = m % 4294967296 ∧ z = ((i + 2 : Nat) : Int) ∧ e = .returned (.tuple #[acV ⟨4, ⟨#[]⟩, p, ⟨#[]⟩⟩, .int .i64 z])) ∧ Below w.heap.size w w' := by
  have HA1 : Hid (∀ (z : Int) (W : World), _) := A1
  have HA0 : Hid (∀ (z : Int) (W : World), _) := A0
  have HN : Hid (∀ W, _) := KN
  clear A1 A0 KN
  have hi0 : (0 : Int) ≤ (i : Int) := by omega
  have hi1 : (i : Int) < 1099511627776 := by omega
  obtain ⟨W1, hW1⟩ : ∃ W1, w.alloc (.cells #[.int .i64 0, .string ⟨#[]⟩, .int .u32 0, .string ⟨#[]⟩] 40) = W1 := ⟨_, rfl⟩
  have HB1 : Hid (Below w.heap.size w W1) := by unfold Hid; rw [← hW1]; exact (Below.refl _ _).alloc (Nat.le_refl _) _
  have HD1 : Hid (C4 W1 w.heap.size (.int .i64 0) (.string ⟨#[]⟩) (.int .u32 0) (.string ⟨#[]⟩)) := by unfold Hid; rw [← hW1]; exact C4.new w 40 _ _ _ _
  go_enter Tryz.func54, Tryz.ntmps54
  go_wp2_with fail
  refine Calls.mono (HA1.out _ _ (by omega) HB1.out) ?_
  rintro e Wq ⟨rfl, hq⟩
  subst Wq
  go_wp2_with fail
  refine Calls.mono (HN.out W1) ?_
  rintro e W2 ⟨⟨m, hm, rfl, hq⟩, hb⟩
  have HQ : Hid (Q m) := hq
  obtain ⟨p, hp⟩ : ∃ p, p = m % 4294967296 := ⟨_, rfl⟩
  have HP : Hid (p = m % 4294967296) := hp
  have hw : IntKind.u32.wrap (m : Int) = (p : Int) := by rw [IntKind.wrap_u32]; omega
  have HB2 : Hid (Below w.heap.size w W2) := HB1.out.trans (hb.mono HB1.out.size)
  have HD2 : Hid (_ : Prop) := HD1.out.below hb
  clear hb hm hq hp HB1 HD1 hW1
  go_wp2_with fail
  refine Calls.mono (HA0.out _ _ (by omega) HB2.out) ?_
  rintro e Wq ⟨rfl, hq⟩
  subst Wq
  have x0 := HD2.out.c0
  have x1 := HD2.out.c1
  have x2 := HD2.out.c2
  have x3 := HD2.out.c3
  have f0 := HD2.out.f 0
  have f1 := HD2.out.f 1
  have f2 := HD2.out.f 2
  have f3 := HD2.out.f 3
  have HF : Hid (C4 ((((W2.setCell ⟨w.heap.size, 0, none⟩ (.int .i64 4)).setCell ⟨w.heap.size, 1, none⟩ (.string ⟨#[]⟩)).setCell ⟨w.heap.size, 2, none⟩ (.int .u32 (p : Int))).setCell ⟨w.heap.size, 3, none⟩ (.string ⟨#[]⟩)) w.heap.size (.int .i64 4) (.string ⟨#[]⟩) (.int .u32 (p : Int)) (.string ⟨#[]⟩)) := HD2.out.set0.set1.set2.set3
  have HBf : Hid (Below w.heap.size w ((((W2.setCell ⟨w.heap.size, 0, none⟩ (.int .i64 4)).setCell ⟨w.heap.size, 1, none⟩ (.string ⟨#[]⟩)).setCell ⟨w.heap.size, 2, none⟩ (.int .u32 (p : Int))).setCell ⟨w.heap.size, 3, none⟩ (.string ⟨#[]⟩))) := bset (bset (bset (bset HB2.out (Nat.le_refl _)) (Nat.le_refl _)) (Nat.le_refl _)) (Nat.le_refl _)
  go_wp2_with fail
  generalize ((((W2.setCell ⟨w.heap.size, 0, none⟩ (.int .i64 4)).setCell ⟨w.heap.size, 1, none⟩ (.string ⟨#[]⟩)).setCell ⟨w.heap.size, 2, none⟩ (.int .u32 (p : Int))).setCell ⟨w.heap.size, 3, none⟩ (.string ⟨#[]⟩)) = WF at *
  have e0 := HF.out.c0
  have e1 := HF.out.c1
  have e2 := HF.out.c2
  have e3 := HF.out.c3
  refine bodyPost_ret (v := .tuple #[.agg #[.int .i64 4, .string ⟨#[]⟩, .int .u32 (p : Int), .string ⟨#[]⟩], .int .i64 _]) (by simp [results, Tryz.results54, go_sem, e0, e1, e2, e3]; rfl) rfl ?_
  exact ⟨⟨m, p, _, HQ.out, HP.out, by omega, rfl⟩, HBf.out⟩
set_option maxHeartbeats 2000000 in
theorem rra5 (v : Value) (i : Nat) (hi : i < 1099511627776) (X : ByteArray) (Q : Nat → Prop) (KN : ∀ W, Calls Tryz.prog 95 #[.string X] W fun e w' => (∃ n : Nat, n < 18446744073709551616 ∧ e = .returned (.int .u64 (n : Int)) ∧ Q n) ∧ Below W.heap.size W w') (w : World) (A1 : (∀ (z : Int) (W : World), z = ((i + 1 : Nat) : Int) → Below w.heap.size w W → Calls Tryz.prog 52 #[v, .int .i64 z] W fun e w' => e = .returned (.string X) ∧ w' = W)) (A0 : (∀ (z : Int) (W : World), z = ((i + 0 : Nat) : Int) → Below w.heap.size w W → Calls Tryz.prog 52 #[v, .int .i64 z] W fun e w' => e = .returned (.string ⟨#[110, 111, 45, 109, 101, 100]⟩) ∧ w' = W)) : Calls Tryz.prog 54 #[v, .int .i64 (i : Int)] w fun e w' => (∃ (z : Int), z = ((i + 1 : Nat) : Int) ∧ e = .returned (.tuple #[acV ⟨5, ⟨#[]⟩, 0, ⟨#[]⟩⟩, .int .i64 z])) ∧ Below w.heap.size w w' := by
  have HA1 : Hid (∀ (z : Int) (W : World), _) := A1
  have HA0 : Hid (∀ (z : Int) (W : World), _) := A0
  have HN : Hid (∀ W, _) := KN
  clear A1 A0 KN
  have hi0 : (0 : Int) ≤ (i : Int) := by omega
  have hi1 : (i : Int) < 1099511627776 := by omega
  obtain ⟨W1, hW1⟩ : ∃ W1, w.alloc (.cells #[.int .i64 0, .string ⟨#[]⟩, .int .u32 0, .string ⟨#[]⟩] 40) = W1 := ⟨_, rfl⟩
  have HB1 : Hid (Below w.heap.size w W1) := by unfold Hid; rw [← hW1]; exact (Below.refl _ _).alloc (Nat.le_refl _) _
  have HD1 : Hid (C4 W1 w.heap.size (.int .i64 0) (.string ⟨#[]⟩) (.int .u32 0) (.string ⟨#[]⟩)) := by unfold Hid; rw [← hW1]; exact C4.new w 40 _ _ _ _
  go_enter Tryz.func54, Tryz.ntmps54
  go_wp2_with fail
  refine Calls.mono (HA1.out _ _ (by omega) HB1.out) ?_
  rintro e Wq ⟨rfl, hq⟩
  subst Wq
  go_wp2_with fail
  refine Calls.mono (HN.out W1) ?_
  rintro e W2 ⟨⟨m, hm, rfl, hq⟩, hb⟩
  have HQ : Hid (Q m) := hq
  obtain ⟨p, hp⟩ : ∃ p, p = m % 4294967296 := ⟨_, rfl⟩
  have HP : Hid (p = m % 4294967296) := hp
  have hw : IntKind.u32.wrap (m : Int) = (p : Int) := by rw [IntKind.wrap_u32]; omega
  have HB2 : Hid (Below w.heap.size w W2) := HB1.out.trans (hb.mono HB1.out.size)
  have HD2 : Hid (_ : Prop) := HD1.out.below hb
  clear hb hm hq hp HB1 HD1 hW1
  go_wp2_with fail
  refine Calls.mono (HA0.out _ _ (by omega) HB2.out) ?_
  rintro e Wq ⟨rfl, hq⟩
  subst Wq
  have x0 := HD2.out.c0
  have x1 := HD2.out.c1
  have x2 := HD2.out.c2
  have x3 := HD2.out.c3
  have f0 := HD2.out.f 0
  have f1 := HD2.out.f 1
  have f2 := HD2.out.f 2
  have f3 := HD2.out.f 3
  have HF : Hid (C4 ((((W2.setCell ⟨w.heap.size, 0, none⟩ (.int .i64 5)).setCell ⟨w.heap.size, 1, none⟩ (.string ⟨#[]⟩)).setCell ⟨w.heap.size, 2, none⟩ (.int .u32 0)).setCell ⟨w.heap.size, 3, none⟩ (.string ⟨#[]⟩)) w.heap.size (.int .i64 5) (.string ⟨#[]⟩) (.int .u32 0) (.string ⟨#[]⟩)) := HD2.out.set0.set1.set2.set3
  have HBf : Hid (Below w.heap.size w ((((W2.setCell ⟨w.heap.size, 0, none⟩ (.int .i64 5)).setCell ⟨w.heap.size, 1, none⟩ (.string ⟨#[]⟩)).setCell ⟨w.heap.size, 2, none⟩ (.int .u32 0)).setCell ⟨w.heap.size, 3, none⟩ (.string ⟨#[]⟩))) := bset (bset (bset (bset HB2.out (Nat.le_refl _)) (Nat.le_refl _)) (Nat.le_refl _)) (Nat.le_refl _)
  go_wp2_with fail
  generalize ((((W2.setCell ⟨w.heap.size, 0, none⟩ (.int .i64 5)).setCell ⟨w.heap.size, 1, none⟩ (.string ⟨#[]⟩)).setCell ⟨w.heap.size, 2, none⟩ (.int .u32 0)).setCell ⟨w.heap.size, 3, none⟩ (.string ⟨#[]⟩)) = WF at *
  have e0 := HF.out.c0
  have e1 := HF.out.c1
  have e2 := HF.out.c2
  have e3 := HF.out.c3
  refine bodyPost_ret (v := .tuple #[.agg #[.int .i64 5, .string ⟨#[]⟩, .int .u32 0, .string ⟨#[]⟩], .int .i64 _]) (by simp [results, Tryz.results54, go_sem, e0, e1, e2, e3]; rfl) rfl ?_
  exact ⟨⟨_, by omega, rfl⟩, HBf.out⟩
set_option maxHeartbeats 2000000 in
theorem rra6 (v : Value) (i : Nat) (hi : i < 1099511627776) (X : ByteArray) (Q2 : Nat → Prop) (KC : ∀ W, Calls Tryz.prog 97 #[.string X] W fun e w' => (∃ (c : Nat) (er : Int), c < 4294967296 ∧ Q2 c ∧ e = .returned (.tuple #[.int .u32 (c : Int), .int .i64 er])) ∧ Below W.heap.size W w') (Q : Nat → Prop) (KN : ∀ W, Calls Tryz.prog 95 #[.string X] W fun e w' => (∃ n : Nat, n < 18446744073709551616 ∧ e = .returned (.int .u64 (n : Int)) ∧ Q n) ∧ Below W.heap.size W w') (w : World) (A1 : (∀ (z : Int) (W : World), z = ((i + 1 : Nat) : Int) → Below w.heap.size w W → Calls Tryz.prog 52 #[v, .int .i64 z] W fun e w' => e = .returned (.string X) ∧ w' = W)) (A0 : (∀ (z : Int) (W : World), z = ((i + 0 : Nat) : Int) → Below w.heap.size w W → Calls Tryz.prog 52 #[v, .int .i64 z] W fun e w' => e = .returned (.string ⟨#[97, 100, 100]⟩) ∧ w' = W)) : Calls Tryz.prog 54 #[v, .int .i64 (i : Int)] w fun e w' => (∃ (c : Nat) (z : Int), c < 4294967296 ∧ Q2 c ∧ z = ((i + 2 : Nat) : Int) ∧ e = .returned (.tuple #[acV ⟨6, ⟨#[]⟩, c, ⟨#[]⟩⟩, .int .i64 z])) ∧ Below w.heap.size w w' := by
  have HA1 : Hid (∀ (z : Int) (W : World), _) := A1
  have HA0 : Hid (∀ (z : Int) (W : World), _) := A0
  have HN : Hid (∀ W, _) := KN
  have HKC : Hid (∀ W, _) := KC
  clear KC
  clear A1 A0 KN
  have hi0 : (0 : Int) ≤ (i : Int) := by omega
  have hi1 : (i : Int) < 1099511627776 := by omega
  obtain ⟨W1, hW1⟩ : ∃ W1, w.alloc (.cells #[.int .i64 0, .string ⟨#[]⟩, .int .u32 0, .string ⟨#[]⟩] 40) = W1 := ⟨_, rfl⟩
  have HB1 : Hid (Below w.heap.size w W1) := by unfold Hid; rw [← hW1]; exact (Below.refl _ _).alloc (Nat.le_refl _) _
  have HD1 : Hid (C4 W1 w.heap.size (.int .i64 0) (.string ⟨#[]⟩) (.int .u32 0) (.string ⟨#[]⟩)) := by unfold Hid; rw [← hW1]; exact C4.new w 40 _ _ _ _
  go_enter Tryz.func54, Tryz.ntmps54
  go_wp2_with fail
  refine Calls.mono (HA1.out _ _ (by omega) HB1.out) ?_
  rintro e Wq ⟨rfl, hq⟩
  subst Wq
  go_wp2_with fail
  refine Calls.mono (HN.out W1) ?_
  rintro e W2 ⟨⟨m, hm, rfl, hq⟩, hb⟩
  have HQ : Hid (Q m) := hq
  obtain ⟨p, hp⟩ : ∃ p, p = m % 4294967296 := ⟨_, rfl⟩
  have HP : Hid (p = m % 4294967296) := hp
  have hw : IntKind.u32.wrap (m : Int) = (p : Int) := by rw [IntKind.wrap_u32]; omega
  have HB2 : Hid (Below w.heap.size w W2) := HB1.out.trans (hb.mono HB1.out.size)
  have HD2 : Hid (_ : Prop) := HD1.out.below hb
  clear hb hm hq hp HB1 HD1 hW1
  go_wp2_with fail
  refine Calls.mono (HA0.out _ _ (by omega) HB2.out) ?_
  rintro e Wq ⟨rfl, hq⟩
  subst Wq
  go_wp2_with fail
  refine Calls.mono (HKC.out W2) ?_
  rintro e W3 ⟨⟨c, er, hc, hq2, rfl⟩, hb⟩
  have HQ2 : Hid (_ ∧ Q2 c) := ⟨hc, hq2⟩
  have HB3 : Hid (Below w.heap.size w W3) := HB2.out.trans (hb.mono HB2.out.size)
  have HD3 : Hid (_ : Prop) := HD2.out.below hb
  clear hb hc hq2 HB2 HD2
  have x0 := HD3.out.c0
  have x1 := HD3.out.c1
  have x2 := HD3.out.c2
  have x3 := HD3.out.c3
  have f0 := HD3.out.f 0
  have f1 := HD3.out.f 1
  have f2 := HD3.out.f 2
  have f3 := HD3.out.f 3
  have HF : Hid (C4 ((((W3.setCell ⟨w.heap.size, 0, none⟩ (.int .i64 6)).setCell ⟨w.heap.size, 1, none⟩ (.string ⟨#[]⟩)).setCell ⟨w.heap.size, 2, none⟩ (.int .u32 (c : Int))).setCell ⟨w.heap.size, 3, none⟩ (.string ⟨#[]⟩)) w.heap.size (.int .i64 6) (.string ⟨#[]⟩) (.int .u32 (c : Int)) (.string ⟨#[]⟩)) := HD3.out.set0.set1.set2.set3
  have HBf : Hid (Below w.heap.size w ((((W3.setCell ⟨w.heap.size, 0, none⟩ (.int .i64 6)).setCell ⟨w.heap.size, 1, none⟩ (.string ⟨#[]⟩)).setCell ⟨w.heap.size, 2, none⟩ (.int .u32 (c : Int))).setCell ⟨w.heap.size, 3, none⟩ (.string ⟨#[]⟩))) := bset (bset (bset (bset HB3.out (Nat.le_refl _)) (Nat.le_refl _)) (Nat.le_refl _)) (Nat.le_refl _)
  go_wp2_with fail
  generalize ((((W3.setCell ⟨w.heap.size, 0, none⟩ (.int .i64 6)).setCell ⟨w.heap.size, 1, none⟩ (.string ⟨#[]⟩)).setCell ⟨w.heap.size, 2, none⟩ (.int .u32 (c : Int))).setCell ⟨w.heap.size, 3, none⟩ (.string ⟨#[]⟩)) = WF at *
  have e0 := HF.out.c0
  have e1 := HF.out.c1
  have e2 := HF.out.c2
  have e3 := HF.out.c3
  refine bodyPost_ret (v := .tuple #[.agg #[.int .i64 6, .string ⟨#[]⟩, .int .u32 (c : Int), .string ⟨#[]⟩], .int .i64 _]) (by simp [results, Tryz.results54, go_sem, e0, e1, e2, e3]; rfl) rfl ?_
  exact ⟨⟨_, _, HQ2.out.1, HQ2.out.2, by omega, rfl⟩, HBf.out⟩
set_option maxHeartbeats 2000000 in
theorem rra7 (v : Value) (i : Nat) (hi : i < 1099511627776) (X : ByteArray) (Q : Nat → Prop) (KN : ∀ W, Calls Tryz.prog 95 #[.string X] W fun e w' => (∃ n : Nat, n < 18446744073709551616 ∧ e = .returned (.int .u64 (n : Int)) ∧ Q n) ∧ Below W.heap.size W w') (w : World) (A1 : (∀ (z : Int) (W : World), z = ((i + 1 : Nat) : Int) → Below w.heap.size w W → Calls Tryz.prog 52 #[v, .int .i64 z] W fun e w' => e = .returned (.string X) ∧ w' = W)) (A0 : (∀ (z : Int) (W : World), z = ((i + 0 : Nat) : Int) → Below w.heap.size w W → Calls Tryz.prog 52 #[v, .int .i64 z] W fun e w' => e = .returned (.string ⟨#[100, 101, 108]⟩) ∧ w' = W)) : Calls Tryz.prog 54 #[v, .int .i64 (i : Int)] w fun e w' => (∃ (z : Int), z = ((i + 2 : Nat) : Int) ∧ e = .returned (.tuple #[acV ⟨7, X, 0, ⟨#[]⟩⟩, .int .i64 z])) ∧ Below w.heap.size w w' := by
  have HA1 : Hid (∀ (z : Int) (W : World), _) := A1
  have HA0 : Hid (∀ (z : Int) (W : World), _) := A0
  have HN : Hid (∀ W, _) := KN
  clear A1 A0 KN
  have hi0 : (0 : Int) ≤ (i : Int) := by omega
  have hi1 : (i : Int) < 1099511627776 := by omega
  obtain ⟨W1, hW1⟩ : ∃ W1, w.alloc (.cells #[.int .i64 0, .string ⟨#[]⟩, .int .u32 0, .string ⟨#[]⟩] 40) = W1 := ⟨_, rfl⟩
  have HB1 : Hid (Below w.heap.size w W1) := by unfold Hid; rw [← hW1]; exact (Below.refl _ _).alloc (Nat.le_refl _) _
  have HD1 : Hid (C4 W1 w.heap.size (.int .i64 0) (.string ⟨#[]⟩) (.int .u32 0) (.string ⟨#[]⟩)) := by unfold Hid; rw [← hW1]; exact C4.new w 40 _ _ _ _
  go_enter Tryz.func54, Tryz.ntmps54
  go_wp2_with fail
  refine Calls.mono (HA1.out _ _ (by omega) HB1.out) ?_
  rintro e Wq ⟨rfl, hq⟩
  subst Wq
  go_wp2_with fail
  refine Calls.mono (HN.out W1) ?_
  rintro e W2 ⟨⟨m, hm, rfl, hq⟩, hb⟩
  have HQ : Hid (Q m) := hq
  obtain ⟨p, hp⟩ : ∃ p, p = m % 4294967296 := ⟨_, rfl⟩
  have HP : Hid (p = m % 4294967296) := hp
  have hw : IntKind.u32.wrap (m : Int) = (p : Int) := by rw [IntKind.wrap_u32]; omega
  have HB2 : Hid (Below w.heap.size w W2) := HB1.out.trans (hb.mono HB1.out.size)
  have HD2 : Hid (_ : Prop) := HD1.out.below hb
  clear hb hm hq hp HB1 HD1 hW1
  go_wp2_with fail
  refine Calls.mono (HA0.out _ _ (by omega) HB2.out) ?_
  rintro e Wq ⟨rfl, hq⟩
  subst Wq
  have x0 := HD2.out.c0
  have x1 := HD2.out.c1
  have x2 := HD2.out.c2
  have x3 := HD2.out.c3
  have f0 := HD2.out.f 0
  have f1 := HD2.out.f 1
  have f2 := HD2.out.f 2
  have f3 := HD2.out.f 3
  have HF : Hid (C4 ((((W2.setCell ⟨w.heap.size, 0, none⟩ (.int .i64 7)).setCell ⟨w.heap.size, 1, none⟩ (.string X)).setCell ⟨w.heap.size, 2, none⟩ (.int .u32 0)).setCell ⟨w.heap.size, 3, none⟩ (.string ⟨#[]⟩)) w.heap.size (.int .i64 7) (.string X) (.int .u32 0) (.string ⟨#[]⟩)) := HD2.out.set0.set1.set2.set3
  have HBf : Hid (Below w.heap.size w ((((W2.setCell ⟨w.heap.size, 0, none⟩ (.int .i64 7)).setCell ⟨w.heap.size, 1, none⟩ (.string X)).setCell ⟨w.heap.size, 2, none⟩ (.int .u32 0)).setCell ⟨w.heap.size, 3, none⟩ (.string ⟨#[]⟩))) := bset (bset (bset (bset HB2.out (Nat.le_refl _)) (Nat.le_refl _)) (Nat.le_refl _)) (Nat.le_refl _)
  go_wp2_with fail
  generalize ((((W2.setCell ⟨w.heap.size, 0, none⟩ (.int .i64 7)).setCell ⟨w.heap.size, 1, none⟩ (.string X)).setCell ⟨w.heap.size, 2, none⟩ (.int .u32 0)).setCell ⟨w.heap.size, 3, none⟩ (.string ⟨#[]⟩)) = WF at *
  have e0 := HF.out.c0
  have e1 := HF.out.c1
  have e2 := HF.out.c2
  have e3 := HF.out.c3
  refine bodyPost_ret (v := .tuple #[.agg #[.int .i64 7, .string X, .int .u32 0, .string ⟨#[]⟩], .int .i64 _]) (by simp [results, Tryz.results54, go_sem, e0, e1, e2, e3]; rfl) rfl ?_
  exact ⟨⟨_, by omega, rfl⟩, HBf.out⟩
set_option maxHeartbeats 2000000 in
theorem rra8 (v : Value) (i : Nat) (hi : i < 1099511627776) (X : ByteArray) (Q : Nat → Prop) (KN : ∀ W, Calls Tryz.prog 95 #[.string X] W fun e w' => (∃ n : Nat, n < 18446744073709551616 ∧ e = .returned (.int .u64 (n : Int)) ∧ Q n) ∧ Below W.heap.size W w') (w : World) (A1 : (∀ (z : Int) (W : World), z = ((i + 1 : Nat) : Int) → Below w.heap.size w W → Calls Tryz.prog 52 #[v, .int .i64 z] W fun e w' => e = .returned (.string X) ∧ w' = W)) (A0 : (∀ (z : Int) (W : World), z = ((i + 0 : Nat) : Int) → Below w.heap.size w W → Calls Tryz.prog 52 #[v, .int .i64 z] W fun e w' => e = .returned (.string ⟨#[112, 114, 101, 112, 101, 110, 100]⟩) ∧ w' = W)) : Calls Tryz.prog 54 #[v, .int .i64 (i : Int)] w fun e w' => (∃ (m p : Nat) (z : Int), Q m ∧ p = m % 4294967296 ∧ z = ((i + 2 : Nat) : Int) ∧ e = .returned (.tuple #[acV ⟨8, ⟨#[]⟩, p, ⟨#[]⟩⟩, .int .i64 z])) ∧ Below w.heap.size w w' := by
  have HA1 : Hid (∀ (z : Int) (W : World), _) := A1
  have HA0 : Hid (∀ (z : Int) (W : World), _) := A0
  have HN : Hid (∀ W, _) := KN
  clear A1 A0 KN
  have hi0 : (0 : Int) ≤ (i : Int) := by omega
  have hi1 : (i : Int) < 1099511627776 := by omega
  obtain ⟨W1, hW1⟩ : ∃ W1, w.alloc (.cells #[.int .i64 0, .string ⟨#[]⟩, .int .u32 0, .string ⟨#[]⟩] 40) = W1 := ⟨_, rfl⟩
  have HB1 : Hid (Below w.heap.size w W1) := by unfold Hid; rw [← hW1]; exact (Below.refl _ _).alloc (Nat.le_refl _) _
  have HD1 : Hid (C4 W1 w.heap.size (.int .i64 0) (.string ⟨#[]⟩) (.int .u32 0) (.string ⟨#[]⟩)) := by unfold Hid; rw [← hW1]; exact C4.new w 40 _ _ _ _
  go_enter Tryz.func54, Tryz.ntmps54
  go_wp2_with fail
  refine Calls.mono (HA1.out _ _ (by omega) HB1.out) ?_
  rintro e Wq ⟨rfl, hq⟩
  subst Wq
  go_wp2_with fail
  refine Calls.mono (HN.out W1) ?_
  rintro e W2 ⟨⟨m, hm, rfl, hq⟩, hb⟩
  have HQ : Hid (Q m) := hq
  obtain ⟨p, hp⟩ : ∃ p, p = m % 4294967296 := ⟨_, rfl⟩
  have HP : Hid (p = m % 4294967296) := hp
  have hw : IntKind.u32.wrap (m : Int) = (p : Int) := by rw [IntKind.wrap_u32]; omega
  have HB2 : Hid (Below w.heap.size w W2) := HB1.out.trans (hb.mono HB1.out.size)
  have HD2 : Hid (_ : Prop) := HD1.out.below hb
  clear hb hm hq hp HB1 HD1 hW1
  go_wp2_with fail
  refine Calls.mono (HA0.out _ _ (by omega) HB2.out) ?_
  rintro e Wq ⟨rfl, hq⟩
  subst Wq
  have x0 := HD2.out.c0
  have x1 := HD2.out.c1
  have x2 := HD2.out.c2
  have x3 := HD2.out.c3
  have f0 := HD2.out.f 0
  have f1 := HD2.out.f 1
  have f2 := HD2.out.f 2
  have f3 := HD2.out.f 3
  have HF : Hid (C4 ((((W2.setCell ⟨w.heap.size, 0, none⟩ (.int .i64 8)).setCell ⟨w.heap.size, 1, none⟩ (.string ⟨#[]⟩)).setCell ⟨w.heap.size, 2, none⟩ (.int .u32 (p : Int))).setCell ⟨w.heap.size, 3, none⟩ (.string ⟨#[]⟩)) w.heap.size (.int .i64 8) (.string ⟨#[]⟩) (.int .u32 (p : Int)) (.string ⟨#[]⟩)) := HD2.out.set0.set1.set2.set3
  have HBf : Hid (Below w.heap.size w ((((W2.setCell ⟨w.heap.size, 0, none⟩ (.int .i64 8)).setCell ⟨w.heap.size, 1, none⟩ (.string ⟨#[]⟩)).setCell ⟨w.heap.size, 2, none⟩ (.int .u32 (p : Int))).setCell ⟨w.heap.size, 3, none⟩ (.string ⟨#[]⟩))) := bset (bset (bset (bset HB2.out (Nat.le_refl _)) (Nat.le_refl _)) (Nat.le_refl _)) (Nat.le_refl _)
  go_wp2_with fail
  generalize ((((W2.setCell ⟨w.heap.size, 0, none⟩ (.int .i64 8)).setCell ⟨w.heap.size, 1, none⟩ (.string ⟨#[]⟩)).setCell ⟨w.heap.size, 2, none⟩ (.int .u32 (p : Int))).setCell ⟨w.heap.size, 3, none⟩ (.string ⟨#[]⟩)) = WF at *
  have e0 := HF.out.c0
  have e1 := HF.out.c1
  have e2 := HF.out.c2
  have e3 := HF.out.c3
  refine bodyPost_ret (v := .tuple #[.agg #[.int .i64 8, .string ⟨#[]⟩, .int .u32 (p : Int), .string ⟨#[]⟩], .int .i64 _]) (by simp [results, Tryz.results54, go_sem, e0, e1, e2, e3]; rfl) rfl ?_
  exact ⟨⟨m, p, _, HQ.out, HP.out, by omega, rfl⟩, HBf.out⟩
set_option maxHeartbeats 2000000 in
theorem rra9 (v : Value) (i : Nat) (hi : i < 1099511627776) (X : ByteArray) (Q3 : ByteArray → Prop) (KC : ∀ W, Calls Tryz.prog 98 #[.string X] W fun e w' => (∃ (b : ByteArray) (er : Int), b.size ≤ 16 ∧ Q3 b ∧ e = .returned (.tuple #[.string b, .int .i64 er])) ∧ Below W.heap.size W w') (Q : Nat → Prop) (KN : ∀ W, Calls Tryz.prog 95 #[.string X] W fun e w' => (∃ n : Nat, n < 18446744073709551616 ∧ e = .returned (.int .u64 (n : Int)) ∧ Q n) ∧ Below W.heap.size W w') (w : World) (A1 : (∀ (z : Int) (W : World), z = ((i + 1 : Nat) : Int) → Below w.heap.size w W → Calls Tryz.prog 52 #[v, .int .i64 z] W fun e w' => e = .returned (.string X) ∧ w' = W)) (A0 : (∀ (z : Int) (W : World), z = ((i + 0 : Nat) : Int) → Below w.heap.size w W → Calls Tryz.prog 52 #[v, .int .i64 z] W fun e w' => e = .returned (.string ⟨#[110, 101, 120, 116]⟩) ∧ w' = W)) : Calls Tryz.prog 54 #[v, .int .i64 (i : Int)] w fun e w' => (∃ (b : ByteArray) (z : Int), b.size ≤ 16 ∧ Q3 b ∧ z = ((i + 2 : Nat) : Int) ∧ e = .returned (.tuple #[acV ⟨9, ⟨#[]⟩, 0, b⟩, .int .i64 z])) ∧ Below w.heap.size w w' := by
  have HA1 : Hid (∀ (z : Int) (W : World), _) := A1
  have HA0 : Hid (∀ (z : Int) (W : World), _) := A0
  have HN : Hid (∀ W, _) := KN
  have HKC : Hid (∀ W, _) := KC
  clear KC
  clear A1 A0 KN
  have hi0 : (0 : Int) ≤ (i : Int) := by omega
  have hi1 : (i : Int) < 1099511627776 := by omega
  obtain ⟨W1, hW1⟩ : ∃ W1, w.alloc (.cells #[.int .i64 0, .string ⟨#[]⟩, .int .u32 0, .string ⟨#[]⟩] 40) = W1 := ⟨_, rfl⟩
  have HB1 : Hid (Below w.heap.size w W1) := by unfold Hid; rw [← hW1]; exact (Below.refl _ _).alloc (Nat.le_refl _) _
  have HD1 : Hid (C4 W1 w.heap.size (.int .i64 0) (.string ⟨#[]⟩) (.int .u32 0) (.string ⟨#[]⟩)) := by unfold Hid; rw [← hW1]; exact C4.new w 40 _ _ _ _
  go_enter Tryz.func54, Tryz.ntmps54
  go_wp2_with fail
  refine Calls.mono (HA1.out _ _ (by omega) HB1.out) ?_
  rintro e Wq ⟨rfl, hq⟩
  subst Wq
  go_wp2_with fail
  refine Calls.mono (HN.out W1) ?_
  rintro e W2 ⟨⟨m, hm, rfl, hq⟩, hb⟩
  have HQ : Hid (Q m) := hq
  obtain ⟨p, hp⟩ : ∃ p, p = m % 4294967296 := ⟨_, rfl⟩
  have HP : Hid (p = m % 4294967296) := hp
  have hw : IntKind.u32.wrap (m : Int) = (p : Int) := by rw [IntKind.wrap_u32]; omega
  have HB2 : Hid (Below w.heap.size w W2) := HB1.out.trans (hb.mono HB1.out.size)
  have HD2 : Hid (_ : Prop) := HD1.out.below hb
  clear hb hm hq hp HB1 HD1 hW1
  go_wp2_with fail
  refine Calls.mono (HA0.out _ _ (by omega) HB2.out) ?_
  rintro e Wq ⟨rfl, hq⟩
  subst Wq
  go_wp2_with fail
  refine Calls.mono (HKC.out W2) ?_
  rintro e W3 ⟨⟨b, er, hc, hq2, rfl⟩, hb⟩
  have HQ2 : Hid (_ ∧ Q3 b) := ⟨hc, hq2⟩
  have HB3 : Hid (Below w.heap.size w W3) := HB2.out.trans (hb.mono HB2.out.size)
  have HD3 : Hid (_ : Prop) := HD2.out.below hb
  clear hb hc hq2 HB2 HD2
  have x0 := HD3.out.c0
  have x1 := HD3.out.c1
  have x2 := HD3.out.c2
  have x3 := HD3.out.c3
  have f0 := HD3.out.f 0
  have f1 := HD3.out.f 1
  have f2 := HD3.out.f 2
  have f3 := HD3.out.f 3
  have HF : Hid (C4 ((((W3.setCell ⟨w.heap.size, 0, none⟩ (.int .i64 9)).setCell ⟨w.heap.size, 1, none⟩ (.string ⟨#[]⟩)).setCell ⟨w.heap.size, 2, none⟩ (.int .u32 0)).setCell ⟨w.heap.size, 3, none⟩ (.string b)) w.heap.size (.int .i64 9) (.string ⟨#[]⟩) (.int .u32 0) (.string b)) := HD3.out.set0.set1.set2.set3
  have HBf : Hid (Below w.heap.size w ((((W3.setCell ⟨w.heap.size, 0, none⟩ (.int .i64 9)).setCell ⟨w.heap.size, 1, none⟩ (.string ⟨#[]⟩)).setCell ⟨w.heap.size, 2, none⟩ (.int .u32 0)).setCell ⟨w.heap.size, 3, none⟩ (.string b))) := bset (bset (bset (bset HB3.out (Nat.le_refl _)) (Nat.le_refl _)) (Nat.le_refl _)) (Nat.le_refl _)
  go_wp2_with fail
  generalize ((((W3.setCell ⟨w.heap.size, 0, none⟩ (.int .i64 9)).setCell ⟨w.heap.size, 1, none⟩ (.string ⟨#[]⟩)).setCell ⟨w.heap.size, 2, none⟩ (.int .u32 0)).setCell ⟨w.heap.size, 3, none⟩ (.string b)) = WF at *
  have e0 := HF.out.c0
  have e1 := HF.out.c1
  have e2 := HF.out.c2
  have e3 := HF.out.c3
  refine bodyPost_ret (v := .tuple #[.agg #[.int .i64 9, .string ⟨#[]⟩, .int .u32 0, .string b], .int .i64 _]) (by simp [results, Tryz.results54, go_sem, e0, e1, e2, e3]; rfl) rfl ?_
  exact ⟨⟨_, _, HQ2.out.1, HQ2.out.2, by omega, rfl⟩, HBf.out⟩
set_option maxHeartbeats 2000000 in
theorem rra10 (v : Value) (i : Nat) (hi : i < 1099511627776) (X : ByteArray) (Q2 : Nat → Prop) (KC : ∀ W, Calls Tryz.prog 94 #[.string X] W fun e w' => (∃ c : Nat, c ≤ 3 ∧ e = .returned (.int .i64 (c : Int)) ∧ Q2 c) ∧ Below W.heap.size W w') (Q : Nat → Prop) (KN : ∀ W, Calls Tryz.prog 95 #[.string X] W fun e w' => (∃ n : Nat, n < 18446744073709551616 ∧ e = .returned (.int .u64 (n : Int)) ∧ Q n) ∧ Below W.heap.size W w') (w : World) (A1 : (∀ (z : Int) (W : World), z = ((i + 1 : Nat) : Int) → Below w.heap.size w W → Calls Tryz.prog 52 #[v, .int .i64 z] W fun e w' => e = .returned (.string X) ∧ w' = W)) (A0 : (∀ (z : Int) (W : World), z = ((i + 0 : Nat) : Int) → Below w.heap.size w W → Calls Tryz.prog 52 #[v, .int .i64 z] W fun e w' => e = .returned (.string ⟨#[111, 114, 105, 103, 105, 110]⟩) ∧ w' = W)) : Calls Tryz.prog 54 #[v, .int .i64 (i : Int)] w fun e w' => (∃ (c : Nat) (z : Int), c ≤ 3 ∧ Q2 c ∧ z = ((i + 2 : Nat) : Int) ∧ e = .returned (.tuple #[acV ⟨10, ⟨#[]⟩, c, ⟨#[]⟩⟩, .int .i64 z])) ∧ Below w.heap.size w w' := by
  have HA1 : Hid (∀ (z : Int) (W : World), _) := A1
  have HA0 : Hid (∀ (z : Int) (W : World), _) := A0
  have HN : Hid (∀ W, _) := KN
  have HKC : Hid (∀ W, _) := KC
  clear KC
  clear A1 A0 KN
  have hi0 : (0 : Int) ≤ (i : Int) := by omega
  have hi1 : (i : Int) < 1099511627776 := by omega
  obtain ⟨W1, hW1⟩ : ∃ W1, w.alloc (.cells #[.int .i64 0, .string ⟨#[]⟩, .int .u32 0, .string ⟨#[]⟩] 40) = W1 := ⟨_, rfl⟩
  have HB1 : Hid (Below w.heap.size w W1) := by unfold Hid; rw [← hW1]; exact (Below.refl _ _).alloc (Nat.le_refl _) _
  have HD1 : Hid (C4 W1 w.heap.size (.int .i64 0) (.string ⟨#[]⟩) (.int .u32 0) (.string ⟨#[]⟩)) := by unfold Hid; rw [← hW1]; exact C4.new w 40 _ _ _ _
  go_enter Tryz.func54, Tryz.ntmps54
  go_wp2_with fail
  refine Calls.mono (HA1.out _ _ (by omega) HB1.out) ?_
  rintro e Wq ⟨rfl, hq⟩
  subst Wq
  go_wp2_with fail
  refine Calls.mono (HN.out W1) ?_
  rintro e W2 ⟨⟨m, hm, rfl, hq⟩, hb⟩
  have HQ : Hid (Q m) := hq
  obtain ⟨p, hp⟩ : ∃ p, p = m % 4294967296 := ⟨_, rfl⟩
  have HP : Hid (p = m % 4294967296) := hp
  have hw : IntKind.u32.wrap (m : Int) = (p : Int) := by rw [IntKind.wrap_u32]; omega
  have HB2 : Hid (Below w.heap.size w W2) := HB1.out.trans (hb.mono HB1.out.size)
  have HD2 : Hid (_ : Prop) := HD1.out.below hb
  clear hb hm hq hp HB1 HD1 hW1
  go_wp2_with fail
  refine Calls.mono (HA0.out _ _ (by omega) HB2.out) ?_
  rintro e Wq ⟨rfl, hq⟩
  subst Wq
  go_wp2_with fail
  refine Calls.mono (HKC.out W2) ?_
  rintro e W3 ⟨⟨c, hc, rfl, hq2⟩, hb⟩
  have HQ2 : Hid (_ ∧ Q2 c) := ⟨hc, hq2⟩
  have hwc : IntKind.u32.wrap (c : Int) = (c : Int) := by rw [IntKind.wrap_u32]; omega
  have HB3 : Hid (Below w.heap.size w W3) := HB2.out.trans (hb.mono HB2.out.size)
  have HD3 : Hid (_ : Prop) := HD2.out.below hb
  clear hb hc hq2 HB2 HD2
  have x0 := HD3.out.c0
  have x1 := HD3.out.c1
  have x2 := HD3.out.c2
  have x3 := HD3.out.c3
  have f0 := HD3.out.f 0
  have f1 := HD3.out.f 1
  have f2 := HD3.out.f 2
  have f3 := HD3.out.f 3
  have HF : Hid (C4 ((((W3.setCell ⟨w.heap.size, 0, none⟩ (.int .i64 10)).setCell ⟨w.heap.size, 1, none⟩ (.string ⟨#[]⟩)).setCell ⟨w.heap.size, 2, none⟩ (.int .u32 (c : Int))).setCell ⟨w.heap.size, 3, none⟩ (.string ⟨#[]⟩)) w.heap.size (.int .i64 10) (.string ⟨#[]⟩) (.int .u32 (c : Int)) (.string ⟨#[]⟩)) := HD3.out.set0.set1.set2.set3
  have HBf : Hid (Below w.heap.size w ((((W3.setCell ⟨w.heap.size, 0, none⟩ (.int .i64 10)).setCell ⟨w.heap.size, 1, none⟩ (.string ⟨#[]⟩)).setCell ⟨w.heap.size, 2, none⟩ (.int .u32 (c : Int))).setCell ⟨w.heap.size, 3, none⟩ (.string ⟨#[]⟩))) := bset (bset (bset (bset HB3.out (Nat.le_refl _)) (Nat.le_refl _)) (Nat.le_refl _)) (Nat.le_refl _)
  go_wp2_with fail
  generalize ((((W3.setCell ⟨w.heap.size, 0, none⟩ (.int .i64 10)).setCell ⟨w.heap.size, 1, none⟩ (.string ⟨#[]⟩)).setCell ⟨w.heap.size, 2, none⟩ (.int .u32 (c : Int))).setCell ⟨w.heap.size, 3, none⟩ (.string ⟨#[]⟩)) = WF at *
  have e0 := HF.out.c0
  have e1 := HF.out.c1
  have e2 := HF.out.c2
  have e3 := HF.out.c3
  refine bodyPost_ret (v := .tuple #[.agg #[.int .i64 10, .string ⟨#[]⟩, .int .u32 (c : Int), .string ⟨#[]⟩], .int .i64 _]) (by simp [results, Tryz.results54, go_sem, e0, e1, e2, e3]; rfl) rfl ?_
  exact ⟨⟨_, _, HQ2.out.1, HQ2.out.2, by omega, rfl⟩, HBf.out⟩
/-- What the reference's reading of an action is. -/
def AcRel (ws : List (List UInt8)) (i : Nat) (a : Ac) (j : Nat) : Prop := i + 1 ≤ j ∧ j ≤ i + 2 ∧ a.nm.size ≤ 281474976710656 ∧ a.ad.size ≤ 16 ∧ a.n < 4294967296 ∧ ∀ a0 r, okA' a0 = true → a0.n < 4294967296 → ws.drop i = wA a0 ++ r → a = a0 ∧ j = i + (wA a0).length
theorem ac_rel {ws : List (List UInt8)} {i j : Nat} {a : Ac} (h1 : i + 1 ≤ j) (h2 : j ≤ i + 2) (hs : a.nm.size ≤ 281474976710656) (ha : a.ad.size ≤ 16) (hn : a.n < 4294967296) (H : ∀ a0, okA' a0 = true → a0.n < 4294967296 → awL.getD a0.k.toNat [] = ws.getD i [] → (avT a0 ≠ [] → avT a0 = ws.getD (i + 1) []) → a = a0 ∧ (avT a0 = [] ∧ j = i + 1 ∨ avT a0 ≠ [] ∧ j = i + 2)) : AcRel ws i a j := by
  refine ⟨h1, h2, hs, ha, hn, fun a0 r ok hb hd => ?_⟩
  have g0 := drop_getD hd 0
  have g1 := drop_getD hd 1
  rw [Nat.add_zero] at g0
  unfold wA at g0 g1 ⊢
  obtain ⟨e1, e2⟩ := H a0 ok hb g0.symm (fun hne => by rw [if_neg hne] at g1; exact g1.symm)
  rcases e2 with ⟨e2, e3⟩ | ⟨e2, e3⟩
  · rw [if_pos e2]; exact ⟨e1, e3⟩
  · rw [if_neg e2]; exact ⟨e1, e3⟩
theorem oka_k {a : Ac} (h : okA' a = true) : 1 ≤ a.k ∧ a.k ≤ 10 := by
  rcases okA_kinds h with ⟨hk, _⟩ | ⟨hk, _⟩ | ⟨hk, _⟩ | ⟨hk, _⟩ | ⟨hk, _⟩ <;> omega
theorem ak_of {a : Ac} {k : Nat} (h : okA' a = true) (hk : k < 11) (e : awL.getD a.k.toNat [] = awL.getD k []) : a.k = (k : Int) := by
  have hq : ∀ x : Nat, x < 11 → ∀ b : Nat, b < 11 → 1 ≤ x → awL.getD x [] = awL.getD b [] → x = b := by decide
  have h7 := oka_k h
  have := hq a.k.toNat (by omega) k hk (by omega) e
  omega
theorem ac_ext {a : Ac} {k : Int} {n : Nat} {nm ad : ByteArray} (h1 : a.k = k) (h2 : a.nm = nm) (h3 : a.n = n) (h4 : a.ad = ad) : (⟨k, nm, n, ad⟩ : Ac) = a := by
  cases a; dsimp only at h1 h2 h3 h4; rw [h1, h2, h3, h4]
theorem ac_bare {a : Ac} {k : Nat} {i : Nat} (hk : k = 1 ∨ k = 2 ∨ k = 5) (ok : okA' a = true) (e : awL.getD a.k.toNat [] = awL.getD k []) : (⟨(k : Int), ⟨#[]⟩, 0, ⟨#[]⟩⟩ : Ac) = a ∧ (avT a = [] ∧ i + 1 = i + 1 ∨ avT a ≠ [] ∧ i + 1 = i + 2) := by
  have h1 := ak_of ok (by omega) e
  rcases okA_kinds ok with ⟨_, hn, h0, ha⟩ | ⟨hq, _⟩ | ⟨hq, _⟩ | ⟨hq, _⟩ | ⟨hq, _⟩
  · refine ⟨ac_ext h1 (bs_nil hn) h0 (bs_nil ha), Or.inl ⟨?_, rfl⟩⟩
    unfold avT
    rw [if_neg (by omega), if_neg (by omega), if_neg (by omega), if_neg (by omega), bs_nil hn]
  all_goals omega
theorem ac_num {a : Ac} {k i m p : Nat} {x : List UInt8} (hk : k = 3 ∨ k = 4 ∨ k = 8) (ok : okA' a = true) (hb : a.n < 4294967296) (e : awL.getD a.k.toNat [] = awL.getD k []) (hv : avT a ≠ [] → avT a = x) (hQ : ∀ u, u ≤ 4294967295 → x = Lib.decDigits u → m = u) (hp : p = m % 4294967296) : (⟨(k : Int), ⟨#[]⟩, p, ⟨#[]⟩⟩ : Ac) = a ∧ (avT a = [] ∧ i + 2 = i + 1 ∨ avT a ≠ [] ∧ i + 2 = i + 2) := by
  have h1 := ak_of ok (by omega) e
  have hA : avT a = Lib.decDigits a.n := by unfold avT; rw [if_pos (by omega)]
  have hne : avT a ≠ [] := by rw [hA]; exact digits_ne a.n
  rcases okA_kinds ok with ⟨hq, _⟩ | ⟨_, hn, ha⟩ | ⟨hq, _⟩ | ⟨hq, _⟩ | ⟨hq, _⟩
  · omega
  · have := hQ a.n (by omega) (by rw [← hv hne, hA])
    exact ⟨ac_ext h1 (bs_nil hn) (by omega) (bs_nil ha), Or.inr ⟨hne, rfl⟩⟩
  all_goals omega
theorem ac_com {a : Ac} {i c : Nat} {x : List UInt8} (ok : okA' a = true) (hb : a.n < 4294967296) (e : awL.getD a.k.toNat [] = awL.getD 6 []) (hv : avT a ≠ [] → avT a = x) (hQ : ∀ u, u < 4294967296 → x = comT u → c = u) : (⟨6, ⟨#[]⟩, c, ⟨#[]⟩⟩ : Ac) = a ∧ (avT a = [] ∧ i + 2 = i + 1 ∨ avT a ≠ [] ∧ i + 2 = i + 2) := by
  have h1 := ak_of (k := 6) ok (by omega) e
  have hA : avT a = comT a.n := by unfold avT; rw [if_neg (by omega), if_pos (by omega)]
  have hne : avT a ≠ [] := by rw [hA]; exact com_not a.n
  rcases okA_kinds ok with ⟨hq, _⟩ | ⟨_, hn, ha⟩ | ⟨hq, _⟩ | ⟨hq, _⟩ | ⟨hq, _⟩
  · omega
  · exact ⟨ac_ext h1 (bs_nil hn) (hQ a.n hb (by rw [← hv hne, hA])).symm (bs_nil ha), Or.inr ⟨hne, rfl⟩⟩
  all_goals omega
theorem ac_del {a : Ac} {i : Nat} {x : List UInt8} (ok : okA' a = true) (e : awL.getD a.k.toNat [] = awL.getD 7 []) (hv : avT a ≠ [] → avT a = x) : (⟨7, ⟨x.toArray⟩, 0, ⟨#[]⟩⟩ : Ac) = a ∧ (avT a = [] ∧ i + 2 = i + 1 ∨ avT a ≠ [] ∧ i + 2 = i + 2) := by
  have h1 := ak_of (k := 7) ok (by omega) e
  have hA : avT a = a.nm.data.toList := by unfold avT; rw [if_neg (by omega), if_neg (by omega), if_neg (by omega), if_neg (by omega)]
  rcases okA_kinds ok with ⟨hq, _⟩ | ⟨hq, _⟩ | ⟨_, h0, ha, hnm⟩ | ⟨hq, _⟩ | ⟨hq, _⟩
  · omega
  · omega
  · have hne : avT a ≠ [] := by rw [hA]; exact name_not hnm
    exact ⟨ac_ext h1 (by rw [← hv hne, hA, bs_back]) h0 (bs_nil ha), Or.inr ⟨hne, rfl⟩⟩
  all_goals omega
theorem ac_adr {a : Ac} {i : Nat} {b : ByteArray} {x : List UInt8} (ok : okA' a = true) (e : awL.getD a.k.toNat [] = awL.getD 9 []) (hv : avT a ≠ [] → avT a = x) (hQ : ∀ u : ByteArray, (u.size = 4 ∨ u.size = 16) → x = adT u → b = u) : (⟨9, ⟨#[]⟩, 0, b⟩ : Ac) = a ∧ (avT a = [] ∧ i + 2 = i + 1 ∨ avT a ≠ [] ∧ i + 2 = i + 2) := by
  have h1 := ak_of (k := 9) ok (by omega) e
  have hA : avT a = adT a.ad := by unfold avT; rw [if_neg (by omega), if_neg (by omega), if_pos (by omega)]
  rcases okA_kinds ok with ⟨hq, _⟩ | ⟨hq, _⟩ | ⟨hq, _⟩ | ⟨_, hn, h0, ha⟩ | ⟨hq, _⟩
  · omega
  · omega
  · omega
  · have hne : avT a ≠ [] := by rw [hA]; exact adT_not _ ha
    exact ⟨ac_ext h1 (bs_nil hn) h0 (hQ a.ad ha (by rw [← hv hne, hA])).symm, Or.inr ⟨hne, rfl⟩⟩
  · omega
theorem ac_org {a : Ac} {i c : Nat} {x : List UInt8} (ok : okA' a = true) (e : awL.getD a.k.toNat [] = awL.getD 10 []) (hv : avT a ≠ [] → avT a = x) (hQ : ∀ k, k < 3 → x = owL.getD k [] → c = k) : (⟨10, ⟨#[]⟩, c, ⟨#[]⟩⟩ : Ac) = a ∧ (avT a = [] ∧ i + 2 = i + 1 ∨ avT a ≠ [] ∧ i + 2 = i + 2) := by
  have h1 := ak_of (k := 10) ok (by omega) e
  have hA : avT a = owL.getD a.n [] := by unfold avT; rw [if_neg (by omega), if_neg (by omega), if_neg (by omega), if_pos (by omega)]
  rcases okA_kinds ok with ⟨hq, _⟩ | ⟨hq, _⟩ | ⟨hq, _⟩ | ⟨hq, _⟩ | ⟨_, hn, ha, h2⟩
  · omega
  · omega
  · omega
  · omega
  · have hne : avT a ≠ [] := by
      rw [hA]
      rcases (show a.n = 0 ∨ a.n = 1 ∨ a.n = 2 by omega) with h | h | h <;> rw [h] <;> decide
    exact ⟨ac_ext h1 (bs_nil hn) (hQ a.n (by omega) (by rw [← hv hne, hA])).symm (bs_nil ha), Or.inr ⟨hne, rfl⟩⟩
theorem raction_read (v : Value) (ws : List (List UInt8)) (i : Nat) (w : World) (h : WsAt w v ws) (hi : i < 1099511627776) (hl : ∀ x ∈ ws, x.length ≤ 4294967296) : Calls Tryz.prog 54 #[v, .int .i64 (i : Int)] w fun e w' => (∃ a j, e = .returned (.tuple #[acV a, .int .i64 ((j : Nat) : Int)]) ∧ AcRel ws i a j) ∧ Below w.heap.size w w' := by
  have A : ∀ (t : Nat) (Y : ByteArray), (⟨(ws.getD (i + t) []).toArray⟩ : ByteArray) = Y → ∀ (z : Int) (W : World), z = ((i + t : Nat) : Int) → Below w.heap.size w W → Calls Tryz.prog 52 #[v, .int .i64 z] W fun e w' => e = .returned (.string Y) ∧ w' = W := fun t Y hY z W hz hb => by
    subst hz
    rw [← hY]
    exact rat_any v ws (i + t) W (h.below hb)
  have hx : ∀ t, (ws.getD t []).length ≤ 4294967296 := fun t => by
    rw [List.getD_eq_getElem?_getD]
    by_cases ht : t < ws.length
    · rw [List.getElem?_eq_getElem ht]; exact hl _ (List.getElem_mem ht)
    · rw [List.getElem?_eq_none (by omega)]; simp
  have sz : ∀ t, (⟨(ws.getD t []).toArray⟩ : ByteArray).size ≤ 4294967296 := fun t => by
    rw [show (⟨(ws.getD t []).toArray⟩ : ByteArray).size = (ws.getD t []).length from List.size_toArray ..]; exact hx t
  have ba : ∀ x : List UInt8, (⟨x.toArray⟩ : ByteArray).data.toList = x := fun x => by simp
  have ne : ∀ (t : Nat) (l : List UInt8), ws.getD t [] ≠ l → ¬ (⟨(ws.getD t []).toArray⟩ : ByteArray).toList = l := fun t l hn => by rw [ByteArray.toList_eq]; simpa using hn
  have z0 : (0 : Nat) ≤ 281474976710656 := by omega
  have y0 : (0 : Nat) ≤ 16 := by omega
  have KN : ∀ W, Calls Tryz.prog 95 #[.string ⟨(ws.getD (i + 1) []).toArray⟩] W fun e w' => (∃ n : Nat, n < 18446744073709551616 ∧ e = .returned (.int .u64 (n : Int)) ∧ ∀ u, u ≤ 4294967295 → ws.getD (i + 1) [] = Lib.decDigits u → n = u) ∧ Below W.heap.size W w' := fun W => (rnumber_any _ W (Nat.le_trans (sz _) (by omega))).mono fun e w' ⟨⟨m, hm, he, hq⟩, hb⟩ => ⟨⟨m, hm, he, fun u hu hx => hq u hu (by rw [ba]; exact hx)⟩, hb⟩
  have KC : ∀ W, Calls Tryz.prog 97 #[.string ⟨(ws.getD (i + 1) []).toArray⟩] W fun e w' => (∃ (c : Nat) (er : Int), c < 4294967296 ∧ (∀ u, u < 4294967296 → ws.getD (i + 1) [] = comT u → c = u) ∧ e = .returned (.tuple #[.int .u32 (c : Int), .int .i64 er])) ∧ Below W.heap.size W w' := fun W => (rcparse_any _ (sz _) W).mono fun e w' ⟨⟨c, er, hc, he, hq⟩, hb⟩ => ⟨⟨c, er, hc, (fun u hu hx => hq u hu (by rw [ba]; exact hx)), he⟩, hb⟩
  have KA : ∀ W, Calls Tryz.prog 98 #[.string ⟨(ws.getD (i + 1) []).toArray⟩] W fun e w' => (∃ (b : ByteArray) (er : Int), b.size ≤ 16 ∧ (∀ u : ByteArray, (u.size = 4 ∨ u.size = 16) → ws.getD (i + 1) [] = adT u → b = u) ∧ e = .returned (.tuple #[.string b, .int .i64 er])) ∧ Below W.heap.size W w' := fun W => (Ad.raddrL _ (Nat.le_trans (sz _) (by unfold maxLen; omega)) W).mono fun e w' ⟨⟨o, ho, he⟩, hb⟩ => by
    rw [ba] at ho
    cases o with
    | none => exact ⟨⟨⟨#[]⟩, 4, y0, (fun u hu hx => by cases ho.full u hu hx), he⟩, hb⟩
    | some b => exact ⟨⟨b, 0, (by have := (ho.sound b rfl).1; omega), (fun u hu hx => Option.some.inj (ho.full u hu hx)), he⟩, hb⟩
  by_cases h1 : ws.getD i [] = awL.getD 1 []
  · exact (rra1 v i hi _ _ KN w (A 1 _ rfl) (A 0 _ (by rw [Nat.add_zero, h1]; rfl))).mono fun e w' ⟨⟨z, hz, he⟩, hb⟩ => ⟨⟨⟨1, ⟨#[]⟩, 0, ⟨#[]⟩⟩, i + 1, by rw [he, hz], ac_rel (by omega) (by omega) z0 y0 (by decide) fun a0 ok hn hk hv => ac_bare (k := 1) (by omega) ok (hk.trans h1)⟩, hb⟩
  by_cases h2 : ws.getD i [] = awL.getD 2 []
  · exact (rra2 v i hi _ _ KN w (A 1 _ rfl) (A 0 _ (by rw [Nat.add_zero, h2]; rfl))).mono fun e w' ⟨⟨z, hz, he⟩, hb⟩ => ⟨⟨⟨2, ⟨#[]⟩, 0, ⟨#[]⟩⟩, i + 1, by rw [he, hz], ac_rel (by omega) (by omega) z0 y0 (by decide) fun a0 ok hn hk hv => ac_bare (k := 2) (by omega) ok (hk.trans h2)⟩, hb⟩
  by_cases h3 : ws.getD i [] = awL.getD 3 []
  · exact (rra3 v i hi _ _ KN w (A 1 _ rfl) (A 0 _ (by rw [Nat.add_zero, h3]; rfl))).mono fun e w' ⟨⟨m, p, z, hq, hp, hz, he⟩, hb⟩ => ⟨⟨⟨3, ⟨#[]⟩, p, ⟨#[]⟩⟩, i + 2, by rw [he, hz], ac_rel (by omega) (by omega) z0 y0 (by show p < 4294967296; omega) fun a0 ok hn hk hv => ac_num (k := 3) (by omega) ok hn (hk.trans h3) hv hq hp⟩, hb⟩
  by_cases h4 : ws.getD i [] = awL.getD 4 []
  · exact (rra4 v i hi _ _ KN w (A 1 _ rfl) (A 0 _ (by rw [Nat.add_zero, h4]; rfl))).mono fun e w' ⟨⟨m, p, z, hq, hp, hz, he⟩, hb⟩ => ⟨⟨⟨4, ⟨#[]⟩, p, ⟨#[]⟩⟩, i + 2, by rw [he, hz], ac_rel (by omega) (by omega) z0 y0 (by show p < 4294967296; omega) fun a0 ok hn hk hv => ac_num (k := 4) (by omega) ok hn (hk.trans h4) hv hq hp⟩, hb⟩
  by_cases h5 : ws.getD i [] = awL.getD 5 []
  · exact (rra5 v i hi _ _ KN w (A 1 _ rfl) (A 0 _ (by rw [Nat.add_zero, h5]; rfl))).mono fun e w' ⟨⟨z, hz, he⟩, hb⟩ => ⟨⟨⟨5, ⟨#[]⟩, 0, ⟨#[]⟩⟩, i + 1, by rw [he, hz], ac_rel (by omega) (by omega) z0 y0 (by decide) fun a0 ok hn hk hv => ac_bare (k := 5) (by omega) ok (hk.trans h5)⟩, hb⟩
  by_cases h6 : ws.getD i [] = awL.getD 6 []
  · exact (rra6 v i hi _ _ KC _ KN w (A 1 _ rfl) (A 0 _ (by rw [Nat.add_zero, h6]; rfl))).mono fun e w' ⟨⟨c, z, hc, hq, hz, he⟩, hb⟩ => ⟨⟨⟨6, ⟨#[]⟩, c, ⟨#[]⟩⟩, i + 2, by rw [he, hz], ac_rel (by omega) (by omega) z0 y0 hc fun a0 ok hn hk hv => ac_com ok hn (hk.trans h6) hv hq⟩, hb⟩
  by_cases h7 : ws.getD i [] = awL.getD 7 []
  · exact (rra7 v i hi _ _ KN w (A 1 _ rfl) (A 0 _ (by rw [Nat.add_zero, h7]; rfl))).mono fun e w' ⟨⟨z, hz, he⟩, hb⟩ => ⟨⟨⟨7, ⟨(ws.getD (i + 1) []).toArray⟩, 0, ⟨#[]⟩⟩, i + 2, by rw [he, hz], ac_rel (by omega) (by omega) (Nat.le_trans (sz _) (by omega)) y0 (by show (0 : Nat) < 4294967296; omega) fun a0 ok hn hk hv => ac_del ok (hk.trans h7) hv⟩, hb⟩
  by_cases h8 : ws.getD i [] = awL.getD 8 []
  · exact (rra8 v i hi _ _ KN w (A 1 _ rfl) (A 0 _ (by rw [Nat.add_zero, h8]; rfl))).mono fun e w' ⟨⟨m, p, z, hq, hp, hz, he⟩, hb⟩ => ⟨⟨⟨8, ⟨#[]⟩, p, ⟨#[]⟩⟩, i + 2, by rw [he, hz], ac_rel (by omega) (by omega) z0 y0 (by show p < 4294967296; omega) fun a0 ok hn hk hv => ac_num (k := 8) (by omega) ok hn (hk.trans h8) hv hq hp⟩, hb⟩
  by_cases h9 : ws.getD i [] = awL.getD 9 []
  · exact (rra9 v i hi _ _ KA _ KN w (A 1 _ rfl) (A 0 _ (by rw [Nat.add_zero, h9]; rfl))).mono fun e w' ⟨⟨b, z, hc, hq, hz, he⟩, hb⟩ => ⟨⟨⟨9, ⟨#[]⟩, 0, b⟩, i + 2, by rw [he, hz], ac_rel (by omega) (by omega) z0 hc (by show (0 : Nat) < 4294967296; omega) fun a0 ok hn hk hv => ac_adr ok (hk.trans h9) hv hq⟩, hb⟩
  by_cases h10 : ws.getD i [] = awL.getD 10 []
  · exact (rra10 v i hi _ _ (fun W => rorg_any _ W) _ KN w (A 1 _ rfl) (A 0 _ (by rw [Nat.add_zero, h10]; rfl))).mono fun e w' ⟨⟨c, z, hc, hq, hz, he⟩, hb⟩ => ⟨⟨⟨10, ⟨#[]⟩, c, ⟨#[]⟩⟩, i + 2, by rw [he, hz], ac_rel (by omega) (by omega) z0 y0 (by show c < 4294967296; omega) fun a0 ok hn hk hv => ac_org ok (hk.trans h10) hv hq⟩, hb⟩
  exact (rra0 v i hi _ ⟨(ws.getD i []).toArray⟩ (ne _ _ h1) (ne _ _ h2) (ne _ _ h3) (ne _ _ h4) (ne _ _ h5) (ne _ _ h6) (ne _ _ h7) (ne _ _ h8) (ne _ _ h9) (ne _ _ h10) _ KN w (A 1 _ rfl) (A 0 _ rfl)).mono fun e w' ⟨⟨z, hz, he⟩, hb⟩ => ⟨⟨⟨0, ⟨#[]⟩, 0, ⟨#[]⟩⟩, i + 1, by rw [he, hz], ac_rel (by omega) (by omega) z0 y0 (by decide) fun a0 ok hn hk hv => by
    have hK := oka_k ok
    rcases (show a0.k = 1 ∨ a0.k = 2 ∨ a0.k = 3 ∨ a0.k = 4 ∨ a0.k = 5 ∨ a0.k = 6 ∨ a0.k = 7 ∨ a0.k = 8 ∨ a0.k = 9 ∨ a0.k = 10 by omega) with e | e | e | e | e | e | e | e | e | e <;> rw [e] at hk
    · exact absurd hk.symm h1
    · exact absurd hk.symm h2
    · exact absurd hk.symm h3
    · exact absurd hk.symm h4
    · exact absurd hk.symm h5
    · exact absurd hk.symm h6
    · exact absurd hk.symm h7
    · exact absurd hk.symm h8
    · exact absurd hk.symm h9
    · exact absurd hk.symm h10
    ⟩, hb⟩
end Go.Proofs.YthaebbmekonacaaGreatDoor

set_option linter.unusedVariables false
set_option linter.unusedSimpArgs false
set_option maxRecDepth 100000
namespace Go.Proofs.YthaebbmekonacaaGreatDoor
open Go.RowKit
def Fits (ws : List (List UInt8)) (T : Tm) : Prop := okT T = true ∧ (∀ a ∈ T.acs, a.n < 4294967296) ∧ ws = wT T
def SzC (cs : List Cd) : Prop := ∀ c ∈ cs, c.nm.size ≤ 281474976710656
def SzA (acs : List Ac) : Prop := ∀ a ∈ acs, a.nm.size ≤ 281474976710656 ∧ a.ad.size ≤ 16 ∧ a.n < 4294967296
def actsW (T : Tm) : List (List UInt8) := flatW (T.acs.map wA) []
structure InvA (ws : List (List UInt8)) (k : Nat) (cs : List Cd) : Prop where
  sz : SzC cs
  len : cs.length ≤ k
  top : k ≤ ws.length + 4
  fit : ∀ T, Fits ws T → T.cs ≠ [] ∧ ∃ n, cs = T.cs.take n ∧ (n < T.cs.length ∧ ws.drop k = (if n = 0 then ifW else andW) :: flatW ((T.cs.drop n).map wC) (thenW :: actsW T) ∧ (n = 0 → k = 0) ∨ n = T.cs.length ∧ ws.drop k = thenW :: actsW T ∧ k ≠ 0)
structure MidA (ws : List (List UInt8)) (k : Nat) (cs : List Cd) : Prop where
  sz : SzC cs
  len : cs.length ≤ k
  top : k ≤ ws.length + 4
  fit : ∀ T, Fits ws T → cs = T.cs ∧ ws.drop k = thenW :: actsW T
structure InvB (ws : List (List UInt8)) (k : Nat) (cs : List Cd) (acs : List Ac) (first : Bool) : Prop where
  sz : SzC cs
  sa : SzA acs
  len : cs.length ≤ ws.length + 4
  lea : acs.length ≤ k
  top : k ≤ ws.length + 4
  fit : ∀ T, Fits ws T → cs = T.cs ∧ ∃ n, acs = T.acs.take n ∧ (n < T.acs.length ∧ ws.drop k = (if n = 0 then thenW else andW) :: flatW ((T.acs.drop n).map wA) [] ∧ (n = 0 → first = true) ∨ n = T.acs.length ∧ ws.drop k = [])
theorem fits_if {ws : List (List UInt8)} {T : Tm} (h : Fits ws T) (hc : T.cs ≠ []) : ws = ifW :: flatW (T.cs.map wC) (thenW :: actsW T) := by
  have := wt_if T hc []
  rw [List.append_nil] at this
  rw [h.2.2, this]; rfl
theorem fits_no {ws : List (List UInt8)} {T : Tm} (h : Fits ws T) (hc : T.cs = []) : ws = thenW :: actsW T := by
  have := wt_no T hc []
  rw [List.append_nil] at this
  rw [h.2.2, this]; rfl
theorem fits_acs {ws : List (List UInt8)} {T : Tm} (h : Fits ws T) : 0 < T.acs.length := by
  have := (ok_term h.1).2.1
  omega
theorem InvA.start {ws : List (List UInt8)} (h0 : ws.getD 0 [] = ifW) : InvA ws 0 [] := by
  refine ⟨fun c hc => by simp at hc, Nat.le_refl _, by omega, fun T hT => ?_⟩
  have hc : T.cs ≠ [] := fun e => by
    rw [fits_no hT e] at h0
    exact absurd h0 (by show ¬ (thenW = ifW); decide)
  refine ⟨hc, 0, rfl, Or.inl ⟨List.length_pos_iff.2 hc, ?_, fun _ => rfl⟩⟩
  rw [List.drop_zero, if_pos rfl, List.drop_zero]
  exact fits_if hT hc
theorem MidA.start {ws : List (List UInt8)} (h0 : ws.getD 0 [] ≠ ifW) : MidA ws 0 [] := by
  refine ⟨fun c hc => by simp at hc, Nat.le_refl _, by omega, fun T hT => ?_⟩
  have hc : T.cs = [] := by
    by_cases e : T.cs = []
    · exact e
    · rw [fits_if hT e] at h0
      exact absurd rfl h0
  exact ⟨hc.symm, by rw [List.drop_zero]; exact fits_no hT hc⟩
theorem drop_tail {ws r : List (List UInt8)} {k : Nat} {x : List UInt8} (h : ws.drop k = x :: r) : ws.drop (k + 1) = r ∧ k < ws.length ∧ ws.getD k [] = x := by
  refine ⟨?_, ?_, ?_⟩
  · rw [← List.drop_drop, h]; rfl
  · have := congrArg List.length h
    rw [List.length_drop] at this
    simp at this
    omega
  · have := drop_getD h 0
    rw [Nat.add_zero] at this
    exact this
theorem flat_step {α : Type} {wf : α → List (List UInt8)} {L : List α} {n : Nat} (h : n < L.length) (t : List (List UInt8)) : flatW ((L.drop n).map wf) t = wf L[n] ++ (if n + 1 < L.length then andW :: flatW ((L.drop (n + 1)).map wf) t else t) := by
  rw [List.drop_eq_getElem_cons h, List.map_cons]
  by_cases h2 : n + 1 < L.length
  · rw [if_pos h2, List.drop_eq_getElem_cons h2, List.map_cons]; rfl
  · rw [if_neg h2, List.drop_eq_nil_of_le (by omega), List.map_nil]; rfl
theorem InvA.step {ws : List (List UInt8)} {k j : Nat} {cs : List Cd} {c : Cd} (h : InvA ws k cs) (hk : k < ws.length) (ha : k = 0 ∨ ws.getD k [] = andW) (hr : CdRel ws (k + 1) c j) : InvA ws j (cs ++ [c]) := by
  obtain ⟨r1, r2, r3, r4⟩ := hr
  refine ⟨?_, ?_, by omega, fun T hT => ?_⟩
  · intro x hx
    rcases List.mem_append.1 hx with e | e
    · exact h.sz x e
    · rw [List.mem_singleton.1 e]; exact r3
  · rw [List.length_append, List.length_singleton]; have := h.len; omega
  · obtain ⟨hc, n, hn, hd⟩ := h.fit T hT
    refine ⟨hc, n + 1, ?_⟩
    rcases hd with ⟨h1, h2, h3⟩ | ⟨h1, h2, h3⟩
    · have ht := (drop_tail h2).1
      rw [flat_step h1] at ht
      obtain ⟨e1, e2⟩ := r4 T.cs[n] _ ((ok_term hT.1).2.2.2.1 _ (List.getElem_mem h1)) ht
      have hj : ws.drop j = (if n + 1 < T.cs.length then andW :: flatW ((T.cs.drop (n + 1)).map wC) (thenW :: actsW T) else thenW :: actsW T) := by
        rw [e2, ← List.drop_drop, ht, List.drop_left]
      refine ⟨by rw [hn, e1, List.take_succ_eq_append_getElem h1], ?_⟩
      by_cases h4 : n + 1 < T.cs.length
      · rw [if_pos h4] at hj
        exact Or.inl ⟨h4, by rw [if_neg (by omega)]; exact hj, fun e => by omega⟩
      · rw [if_neg h4] at hj
        exact Or.inr ⟨by omega, hj, by omega⟩
    · rcases ha with e | e
      · exact absurd e h3
      · rw [(drop_tail h2).2.2] at e
        exact absurd e (by show ¬ (thenW = andW); decide)
theorem InvA.done {ws : List (List UInt8)} {k : Nat} {cs : List Cd} (h : InvA ws k cs) (hno : ¬ (k < ws.length ∧ (k = 0 ∨ ws.getD k [] = andW))) : MidA ws k cs := by
  refine ⟨h.sz, h.len, h.top, fun T hT => ?_⟩
  obtain ⟨hc, n, hn, hd⟩ := h.fit T hT
  rcases hd with ⟨h1, h2, h3⟩ | ⟨h1, h2, h3⟩
  · obtain ⟨t1, t2, t3⟩ := drop_tail h2
    refine absurd ⟨t2, ?_⟩ hno
    by_cases e : n = 0
    · exact Or.inl (h3 e)
    · rw [if_neg e] at t3; exact Or.inr t3
  · exact ⟨by rw [hn, h1, List.take_length], h2⟩
theorem InvB.start {ws : List (List UInt8)} {k : Nat} {cs : List Cd} (h : MidA ws k cs) : InvB ws k cs [] true := by
  refine ⟨h.sz, fun a ha => by simp at ha, Nat.le_trans h.len h.top, Nat.zero_le _, h.top, fun T hT => ?_⟩
  obtain ⟨h1, h2⟩ := h.fit T hT
  exact ⟨h1, 0, rfl, Or.inl ⟨fits_acs hT, by rw [if_pos rfl, List.drop_zero]; exact h2, fun _ => rfl⟩⟩
theorem InvB.step {ws : List (List UInt8)} {k j : Nat} {cs : List Cd} {acs : List Ac} {first : Bool} {a : Ac} (h : InvB ws k cs acs first) (hk : k < ws.length) (hr : AcRel ws (k + 1) a j) : InvB ws j cs (acs ++ [a]) false := by
  obtain ⟨r1, r2, r3, r4, r5, r6⟩ := hr
  refine ⟨h.sz, ?_, h.len, ?_, by omega, fun T hT => ?_⟩
  · intro x hx
    rcases List.mem_append.1 hx with e | e
    · exact h.sa x e
    · rw [List.mem_singleton.1 e]; exact ⟨r3, r4, r5⟩
  · rw [List.length_append, List.length_singleton]; have := h.lea; omega
  · obtain ⟨hc, n, hn, hd⟩ := h.fit T hT
    refine ⟨hc, n + 1, ?_⟩
    rcases hd with ⟨h1, h2, h3⟩ | ⟨h1, h2⟩
    · have ht := (drop_tail h2).1
      rw [flat_step h1] at ht
      obtain ⟨e1, e2⟩ := r6 T.acs[n] _ ((ok_term hT.1).2.2.2.2.1 _ (List.getElem_mem h1)) (hT.2.1 _ (List.getElem_mem h1)) ht
      have hj : ws.drop j = (if n + 1 < T.acs.length then andW :: flatW ((T.acs.drop (n + 1)).map wA) [] else []) := by
        rw [e2, ← List.drop_drop, ht, List.drop_left]
      refine ⟨by rw [hn, e1, List.take_succ_eq_append_getElem h1], ?_⟩
      by_cases h4 : n + 1 < T.acs.length
      · rw [if_pos h4] at hj
        exact Or.inl ⟨h4, by rw [if_neg (by omega)]; exact hj, fun e => by omega⟩
      · rw [if_neg h4] at hj
        exact Or.inr ⟨by omega, hj⟩
    · have := congrArg List.length h2
      rw [List.length_drop] at this
      simp at this
      omega
theorem InvB.done {ws : List (List UInt8)} {k : Nat} {cs : List Cd} {acs : List Ac} {first : Bool} (h : InvB ws k cs acs first) (hno : ¬ (k < ws.length ∧ (first = true ∨ ws.getD k [] = andW))) : ∀ T, Fits ws T → (⟨cs, acs⟩ : Tm) = T := by
  intro T hT
  obtain ⟨hc, n, hn, hd⟩ := h.fit T hT
  rcases hd with ⟨h1, h2, h3⟩ | ⟨h1, h2⟩
  · obtain ⟨t1, t2, t3⟩ := drop_tail h2
    refine absurd ⟨t2, ?_⟩ hno
    by_cases e : n = 0
    · exact Or.inl (h3 e)
    · rw [if_neg e] at t3; exact Or.inr t3
  · rw [h1, List.take_length] at hn
    rw [hc, hn]
/-- The term that the reference reads is the one that stands there. -/
theorem ref_reads {cm : List UInt8 → Option Nat} {ad : List UInt8 → Option ByteArray} (K : Knows cm ad) {s : List UInt8} {T : Tm} (hF : ∀ T', Fits (spl s) T' → T = T') (hn : ∀ a ∈ T.acs, a.n < 4294967296) (hs : Sml (spl s)) : (okT T = true ∧ tT T = s → rdT cm ad (spl s) = some T) ∧ (¬ (okT T = true ∧ tT T = s) → rdT cm ad (spl s) = none) := by
  have key : ∀ T', okT T' = true → tT T' = s → (∀ a ∈ T'.acs, a.n < 4294967296) → spl s = wT T' := fun T' h1 h2 h3 => by rw [← h2]; exact spl_t T' h1
  refine ⟨fun ⟨h1, h2⟩ => ?_, fun h => ?_⟩
  · rw [key T h1 h2 hn]; exact rdT_of K h1 hn
  · cases e : rdT cm ad (spl s) with
    | none => rfl
    | some T' =>
      obtain ⟨h1, h2⟩ := rdT_back K e
      have h3 := (rdT_small K e hs).2
      have := hF T' ⟨h1, h3, key T' h1 h2 h3⟩
      rw [this] at h
      exact absurd ⟨h1, h2⟩ h
end Go.Proofs.YthaebbmekonacaaGreatDoor
