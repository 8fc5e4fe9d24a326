/-
  The reference reads a term: a word at a place, a number, an origin.
-/
import Derived.Test.YthaebbmekonacaaGreatDoorRFA
import Derived.Test.YthaebbmekonacaaGreatDoorPTT
set_option linter.unusedVariables false
set_option linter.unusedSimpArgs false
set_option maxRecDepth 100000
namespace Go.Proofs.YthaebbmekonacaaGreatDoor
open Go.RowKit
/-- The words of a text, in memory. -/
def WsAt (w : World) (v : Value) (ws : List (List UInt8)) : Prop := ∃ g cap, v = .slice (some ⟨g, 0, none⟩) ws.length cap ∧ ∀ j (h : j < ws.length), w.cell? ⟨g, j, none⟩ = some (.string ⟨(ws[j]).toArray⟩)
theorem WsAt.below {w w' : World} {v : Value} {ws : List (List UInt8)} (h : WsAt w v ws) (hb : Below w.heap.size w w') : WsAt w' v ws := by
  obtain ⟨g, cap, rfl, hc⟩ := h
  exact ⟨g, cap, rfl, fun j hj => below_cell hb (hc j hj)⟩
theorem rat_any (v : Value) (ws : List (List UInt8)) (i : Nat) (w : World) (h : WsAt w v ws) : Calls Tryz.prog 52 #[v, .int .i64 (i : Int)] w fun e w' => e = .returned (.string ⟨(ws.getD i []).toArray⟩) ∧ w' = w := by
  obtain ⟨g, cap, rfl, hc⟩ := h
  by_cases hi : i < ws.length
  · have hx := hc i hi
    have hlt : (i : Int) < (ws.length : Int) := by omega
    have hge : (0 : Int) ≤ (i : Int) := by omega
    rw [List.getD_eq_getElem?_getD, List.getElem?_eq_getElem hi, Option.getD_some]
    clear hc
    generalize ws[i] = x at *
    generalize ws.length = n at *
    go_enter Tryz.func52, Tryz.ntmps52
    go_wp2
    go_ret
    exact ⟨rfl, rfl⟩
  · have hlt : ¬ (i : Int) < (ws.length : Int) := by omega
    rw [List.getD_eq_getElem?_getD, List.getElem?_eq_none (by omega), Option.getD_none]
    clear hc
    generalize ws.length = n at *
    go_enter Tryz.func52, Tryz.ntmps52
    go_wp2
    go_ret
    exact ⟨rfl, rfl⟩
theorem rnumber_any (x : ByteArray) (w : World) (hs : x.size ≤ 281474976710656) : Calls Tryz.prog 95 #[.string x] w fun e w' => (∃ v : Nat, v < 18446744073709551616 ∧ e = .returned (.int .u64 (v : Int)) ∧ ∀ u, u ≤ 4294967295 → x.data.toList = Lib.decDigits u → v = u) ∧ Below w.heap.size w w' := by
  have HR : Hid (Calls Tryz.prog 139 #[.string x, .int .u64 10, .int .u64 4294967295] w (Ad.RdOk Lib.decDigits 4294967295 x w)) := Ad.rread10 4294967295 (by decide) (by decide) x w hs
  clear hs
  go_enter Tryz.func95, Tryz.ntmps95
  go_wp2_with fail
  refine Calls.mono HR.out ?_
  rintro e w' ⟨v, b, hv, rfl, hb, hy, hn⟩
  have HN : Hid (_ : Prop) := hn
  have HB : Hid (Below _ _ _) := hb
  have HV : Hid (_ : Prop) := hv
  clear hy hn hb hv
  go_wp2
  go_ret
  exact ⟨⟨v, HV.out, rfl, fun u hu he => (HN.out u hu he).1⟩, HB.out⟩
theorem rorg0 (s n0 n1 n2 : ByteArray) (w : World) (K0 : ∀ X, Calls Tryz.prog 81 #[.int .i64 0] X fun e w' => e = .returned (.string n0) ∧ Below X.heap.size X w') (K1 : ∀ X, Calls Tryz.prog 81 #[.int .i64 1] X fun e w' => e = .returned (.string n1) ∧ Below X.heap.size X w') (K2 : ∀ X, Calls Tryz.prog 81 #[.int .i64 2] X fun e w' => e = .returned (.string n2) ∧ Below X.heap.size X w') (d0 : (n0.toList == s.toList) = true) : Calls Tryz.prog 94 #[.string s] w fun e w' => e = .returned (.int .i64 0) ∧ Below w.heap.size w w' := by
  have H0 : Hid (∀ X, _) := K0
  have H1 : Hid (∀ X, _) := K1
  have H2 : Hid (∀ X, _) := K2
  clear K0 K1 K2
  go_enter Tryz.func94, Tryz.ntmps94
  go_wp2
  refine wp_loop_rounds 1 ?_
  rw [rounds_succ]
  go_wp2_with fail
  refine Calls.mono (H0.out _) ?_
  rintro e w1 ⟨rfl, hb1⟩
  have HB1 : Hid (Below w.heap.size w w1) := hb1
  clear hb1
  go_wp2
  go_ret
  exact ⟨rfl, HB1.out⟩
theorem rorg1 (s n0 n1 n2 : ByteArray) (w : World) (K0 : ∀ X, Calls Tryz.prog 81 #[.int .i64 0] X fun e w' => e = .returned (.string n0) ∧ Below X.heap.size X w') (K1 : ∀ X, Calls Tryz.prog 81 #[.int .i64 1] X fun e w' => e = .returned (.string n1) ∧ Below X.heap.size X w') (K2 : ∀ X, Calls Tryz.prog 81 #[.int .i64 2] X fun e w' => e = .returned (.string n2) ∧ Below X.heap.size X w') (d0 : (n0.toList == s.toList) = false) (d1 : (n1.toList == s.toList) = true) : Calls Tryz.prog 94 #[.string s] w fun e w' => e = .returned (.int .i64 1) ∧ Below w.heap.size w w' := by
  have H0 : Hid (∀ X, _) := K0
  have H1 : Hid (∀ X, _) := K1
  have H2 : Hid (∀ X, _) := K2
  clear K0 K1 K2
  go_enter Tryz.func94, Tryz.ntmps94
  go_wp2
  refine wp_loop_rounds 2 ?_
  rw [rounds_succ]
  go_wp2_with fail
  refine Calls.mono (H0.out _) ?_
  rintro e w1 ⟨rfl, hb1⟩
  have HB1 : Hid (Below w.heap.size w w1) := hb1
  clear hb1
  go_wp2
  rw [rounds_succ]
  go_wp2_with fail
  refine Calls.mono (H1.out _) ?_
  rintro e w2 ⟨rfl, hb2⟩
  have HB2 : Hid (Below w.heap.size w w2) := HB1.out.trans (hb2.mono HB1.out.size)
  clear hb2
  go_wp2
  go_ret
  exact ⟨rfl, HB2.out⟩
theorem rorg2 (s n0 n1 n2 : ByteArray) (w : World) (K0 : ∀ X, Calls Tryz.prog 81 #[.int .i64 0] X fun e w' => e = .returned (.string n0) ∧ Below X.heap.size X w') (K1 : ∀ X, Calls Tryz.prog 81 #[.int .i64 1] X fun e w' => e = .returned (.string n1) ∧ Below X.heap.size X w') (K2 : ∀ X, Calls Tryz.prog 81 #[.int .i64 2] X fun e w' => e = .returned (.string n2) ∧ Below X.heap.size X w') (d0 : (n0.toList == s.toList) = false) (d1 : (n1.toList == s.toList) = false) (d2 : (n2.toList == s.toList) = true) : Calls Tryz.prog 94 #[.string s] w fun e w' => e = .returned (.int .i64 2) ∧ Below w.heap.size w w' := by
  have H0 : Hid (∀ X, _) := K0
  have H1 : Hid (∀ X, _) := K1
  have H2 : Hid (∀ X, _) := K2
  clear K0 K1 K2
  go_enter Tryz.func94, Tryz.ntmps94
  go_wp2
  refine wp_loop_rounds 3 ?_
  rw [rounds_succ]
  go_wp2_with fail
  refine Calls.mono (H0.out _) ?_
  rintro e w1 ⟨rfl, hb1⟩
  have HB1 : Hid (Below w.heap.size w w1) := hb1
  clear hb1
  go_wp2
  rw [rounds_succ]
  go_wp2_with fail
  refine Calls.mono (H1.out _) ?_
  rintro e w2 ⟨rfl, hb2⟩
  have HB2 : Hid (Below w.heap.size w w2) := HB1.out.trans (hb2.mono HB1.out.size)
  clear hb2
  go_wp2
  rw [rounds_succ]
  go_wp2_with fail
  refine Calls.mono (H2.out _) ?_
  rintro e w3 ⟨rfl, hb3⟩
  have HB3 : Hid (Below w.heap.size w w3) := HB2.out.trans (hb3.mono HB2.out.size)
  clear hb3
  go_wp2
  go_ret
  exact ⟨rfl, HB3.out⟩
theorem rorg3 (s n0 n1 n2 : ByteArray) (w : World) (K0 : ∀ X, Calls Tryz.prog 81 #[.int .i64 0] X fun e w' => e = .returned (.string n0) ∧ Below X.heap.size X w') (K1 : ∀ X, Calls Tryz.prog 81 #[.int .i64 1] X fun e w' => e = .returned (.string n1) ∧ Below X.heap.size X w') (K2 : ∀ X, Calls Tryz.prog 81 #[.int .i64 2] X fun e w' => e = .returned (.string n2) ∧ Below X.heap.size X w') (d0 : (n0.toList == s.toList) = false) (d1 : (n1.toList == s.toList) = false) (d2 : (n2.toList == s.toList) = false) : Calls Tryz.prog 94 #[.string s] w fun e w' => e = .returned (.int .i64 3) ∧ Below w.heap.size w w' := by
  have H0 : Hid (∀ X, _) := K0
  have H1 : Hid (∀ X, _) := K1
  have H2 : Hid (∀ X, _) := K2
  clear K0 K1 K2
  go_enter Tryz.func94, Tryz.ntmps94
  go_wp2
  refine wp_loop_rounds 4 ?_
  rw [rounds_succ]
  go_wp2_with fail
  refine Calls.mono (H0.out _) ?_
  rintro e w1 ⟨rfl, hb1⟩
  have HB1 : Hid (Below w.heap.size w w1) := hb1
  clear hb1
  go_wp2
  rw [rounds_succ]
  go_wp2_with fail
  refine Calls.mono (H1.out _) ?_
  rintro e w2 ⟨rfl, hb2⟩
  have HB2 : Hid (Below w.heap.size w w2) := HB1.out.trans (hb2.mono HB1.out.size)
  clear hb2
  go_wp2
  rw [rounds_succ]
  go_wp2_with fail
  refine Calls.mono (H2.out _) ?_
  rintro e w3 ⟨rfl, hb3⟩
  have HB3 : Hid (Below w.heap.size w w3) := HB2.out.trans (hb3.mono HB2.out.size)
  clear hb3
  go_wp2
  rw [rounds_succ]
  go_wp2
  go_ret
  exact ⟨rfl, HB3.out⟩
theorem eq_bool (a b : List UInt8) : ((⟨a.toArray⟩ : ByteArray).toList == (⟨b.toArray⟩ : ByteArray).toList) = decide (a = b) := by
  rw [ByteArray.toList_eq, ByteArray.toList_eq]
  by_cases h : a = b
  · rw [h]; simp
  · rw [decide_eq_false h]; simpa using h
theorem rorg_any (x : List UInt8) (w : World) : Calls Tryz.prog 94 #[.string ⟨x.toArray⟩] w fun e w' => (∃ n : Nat, n ≤ 3 ∧ e = .returned (.int .i64 (n : Int)) ∧ ∀ k, k < 3 → x = owL.getD k [] → n = k) ∧ Below w.heap.size w w' := by
  have K0 : ∀ X, Calls Tryz.prog 81 #[.int .i64 0] X fun e w' => e = .returned (.string ⟨(owL.getD 0 []).toArray⟩) ∧ Below X.heap.size X w' := fun X => rorigin 0 (by omega) X
  have K1 : ∀ X, Calls Tryz.prog 81 #[.int .i64 1] X fun e w' => e = .returned (.string ⟨(owL.getD 1 []).toArray⟩) ∧ Below X.heap.size X w' := fun X => rorigin 1 (by omega) X
  have K2 : ∀ X, Calls Tryz.prog 81 #[.int .i64 2] X fun e w' => e = .returned (.string ⟨(owL.getD 2 []).toArray⟩) ∧ Below X.heap.size X w' := fun X => rorigin 2 (by omega) X
  by_cases h0 : owL.getD 0 [] = x
  · refine (rorg0 _ _ _ _ w K0 K1 K2 (by rw [eq_bool]; exact decide_eq_true h0)).mono fun e w' ⟨h, hb⟩ => ⟨⟨0, by omega, h, fun k hk he => ?_⟩, hb⟩
    rw [← h0] at he
    rcases (show k = 0 ∨ k = 1 ∨ k = 2 by omega) with rfl | rfl | rfl
    · rfl
    · exact absurd he (by decide)
    · exact absurd he (by decide)
  by_cases h1 : owL.getD 1 [] = x
  · refine (rorg1 _ _ _ _ w K0 K1 K2 (by rw [eq_bool]; exact decide_eq_false h0) (by rw [eq_bool]; exact decide_eq_true h1)).mono fun e w' ⟨h, hb⟩ => ⟨⟨1, by omega, h, fun k hk he => ?_⟩, hb⟩
    rw [← h1] at he
    rcases (show k = 0 ∨ k = 1 ∨ k = 2 by omega) with rfl | rfl | rfl
    · exact absurd he (by decide)
    · rfl
    · exact absurd he (by decide)
  by_cases h2 : owL.getD 2 [] = x
  · refine (rorg2 _ _ _ _ w K0 K1 K2 (by rw [eq_bool]; exact decide_eq_false h0) (by rw [eq_bool]; exact decide_eq_false h1) (by rw [eq_bool]; exact decide_eq_true h2)).mono fun e w' ⟨h, hb⟩ => ⟨⟨2, by omega, h, fun k hk he => ?_⟩, hb⟩
    rw [← h2] at he
    rcases (show k = 0 ∨ k = 1 ∨ k = 2 by omega) with rfl | rfl | rfl
    · exact absurd he (by decide)
    · exact absurd he (by decide)
    · rfl
  · refine (rorg3 _ _ _ _ w K0 K1 K2 (by rw [eq_bool]; exact decide_eq_false h0) (by rw [eq_bool]; exact decide_eq_false h1) (by rw [eq_bool]; exact decide_eq_false h2)).mono fun e w' ⟨h, hb⟩ => ⟨⟨3, by omega, h, fun k hk he => ?_⟩, hb⟩
    rcases (show k = 0 ∨ k = 1 ∨ k = 2 by omega) with rfl | rfl | rfl
    · exact absurd he.symm h0
    · exact absurd he.symm h1
    · exact absurd he.symm h2
end Go.Proofs.YthaebbmekonacaaGreatDoor
