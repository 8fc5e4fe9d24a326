/-
  Notes: put, Note, Told, and the reference's.
-/
import Derived.Test.YtkaghjohkhlimabDoorMB
import Derived.Deep.RegionHeld3
import Derived.Laws.StructEq
namespace Go.Proofs.YtkaghjohkhlimabDoor
open Go.RowKit
theorem app_l (a b : List UInt8) : (⟨a.toArray⟩ : ByteArray) ++ (⟨b.toArray⟩ : ByteArray) = ⟨(a ++ b).toArray⟩ := by
  apply ByteArray.ext
  rw [ByteArray.data_append]
  simp
theorem list_size (l : List UInt8) : (⟨l.toArray⟩ : ByteArray).size = l.length := rfl
theorem below_cell {w w' : World} {b i : Nat} {v : Value} (hb : Below w.heap.size w w') (h : w.cell? ⟨b, i, none⟩ = some v) : w'.cell? ⟨b, i, none⟩ = some v :=
  (hb.cell (p := ⟨b, i, none⟩) (lt_of_cell h)).trans h
theorem put_l (l : List UInt8) (v n : Nat) (w : World) (h0 : 1 ≤ n) (h1 : n ≤ 8) (hv : v < 256 ^ n) (hl : l.length ≤ 100000) :
    Calls Tryd.prog 14 #[.string ⟨l.toArray⟩, .int .u64 (v : Int), .int .i64 (n : Int)] w fun e w' => e = .returned (.string ⟨(l ++ laid v n).toArray⟩) ∧ Below w.heap.size w w' := by
  have HK : Hid (_ : Prop) := put_yes ⟨l.toArray⟩ v n w h0 h1 hv (by rw [list_size]; omega)
  rw [app_l] at HK
  clear h0 h1 hv hl
  go_enter Tryd.func14, Tryd.ntmps14
  go_wp2_with (go_at_call 21; refine Calls.mono HK.out ?_; rintro e w2 ⟨rfl, hb2⟩)
  go_ret
  exact ⟨rfl, hb2⟩
/-- A note's cells. -/
def ntC (c s : Nat) (d : List UInt8) : Array Value := #[.int .u8 (c : Int), .int .u8 (s : Int), .string ⟨d.toArray⟩]
/-- Told's answer. -/
def tdC (a : Int) (c s : Nat) : Array Value := if a = 3 then ntC c s [] else ntC 0 0 []
/-- A note's bytes. -/
def ntL (c s : Nat) (d : List UInt8) : List UInt8 := laid c 1 ++ laid s 1 ++ d
/-- What Note answers. -/
def ntA (c s : Nat) (d : List UInt8) : Value :=
  if c = 0 then .tuple #[.string ⟨#[]⟩, .int .i64 2] else if 4075 < d.length then .tuple #[.string ⟨#[]⟩, .int .i64 3] else .tuple #[.string ⟨(ntL c s d).toArray⟩, .int .i64 0]
set_option maxHeartbeats 1600000 in
theorem note_any (c s : Nat) (d : List UInt8) (hc : c < 256) (hs : s < 256) (hd : d.length ≤ 281474976710656) (w : World) : Calls Tryd.prog 6 #[.agg (ntC c s d)] w fun e w' => e = .returned (ntA c s d) ∧ Below w.heap.size w w' := by
  have hb : Below w.heap.size w (w.alloc (.cells #[.int .u8 (c : Int), .int .u8 (s : Int), .string ⟨d.toArray⟩] 32)) := (Below.refl _ _).alloc (Nat.le_refl _) _
  by_cases h0 : c = 0
  · have HA : Hid (ntA c s d = .tuple #[.string ⟨#[]⟩, .int .i64 2]) := by unfold Hid ntA; rw [if_pos h0]
    rw [HA.out]
    subst h0
    clear HA hc hs hd
    unfold ntC
    go_enter Tryd.func6, Tryd.ntmps6
    go_wp2
    go_ret2
    exact ⟨rfl, hb⟩
  · have g0 : ((c : Int) == 0) = false := beq_eq_false_iff_ne.2 (by omega)
    have hsz : (⟨d.toArray⟩ : ByteArray).size = d.length := rfl
    by_cases h1 : 4075 < d.length
    · have HA : Hid (ntA c s d = .tuple #[.string ⟨#[]⟩, .int .i64 3]) := by unfold Hid ntA; rw [if_neg h0, if_pos h1]
      have g1 : (4077 : Int) < 2 + (d.length : Int) := by omega
      have g2 : IntKind.i64.wrap (2 + (d.length : Int)) = 2 + (d.length : Int) := by simp [IntKind.wrap, IntKind.signed, IntKind.bits]; omega
      rw [HA.out]
      clear HA hc hs h1 h0
      unfold ntC
      go_enter Tryd.func6, Tryd.ntmps6
      go_wp2
      go_ret2
      exact ⟨rfl, hb⟩
    · have HA : Hid (ntA c s d = .tuple #[.string ⟨(ntL c s d).toArray⟩, .int .i64 0]) := by unfold Hid ntA; rw [if_neg h0, if_neg h1]
      have g1 : decide ((4077 : Int) < 2 + (d.length : Int)) = false := by simp; omega
      have g2 : IntKind.i64.wrap (2 + (d.length : Int)) = 2 + (d.length : Int) := by simp [IntKind.wrap, IntKind.signed, IntKind.bits]; omega
      rw [HA.out]
      have gc : IntKind.u64.wrap (c : Int) = (c : Int) := by simp [IntKind.wrap, IntKind.signed, IntKind.bits]; omega
      have gs : IntKind.u64.wrap (s : Int) = (s : Int) := by simp [IntKind.wrap, IntKind.signed, IntKind.bits]; omega
      have K1 : Hid (_ : Prop) := put_l [] c 1 (w.alloc (.cells #[.int .u8 (c : Int), .int .u8 (s : Int), .string ⟨d.toArray⟩] 32)) (by omega) (by omega) (by omega) (by simp)
      have K2 : Hid (∀ X, Calls Tryd.prog 14 #[.string ⟨(laid c 1).toArray⟩, .int .u64 (s : Int), .int .i64 1] X fun e w' => e = .returned (.string ⟨(laid c 1 ++ laid s 1).toArray⟩) ∧ Below X.heap.size X w') := fun X => put_l (laid c 1) s 1 X (by omega) (by omega) (by omega) (by rw [laid_length]; omega)
      have hap := app_l (laid c 1 ++ laid s 1) d
      have HE : Hid ((laid c 1 ++ laid s 1) ++ d = ntL c s d) := rfl
      have hs2 : (⟨(laid c 1 ++ laid s 1).toArray⟩ : ByteArray).size = 2 := by rw [list_size, List.length_append, laid_length, laid_length]
      have q0 : (w.alloc (.cells #[.int .u8 (c : Int), .int .u8 (s : Int), .string ⟨d.toArray⟩] 32)).cell? ⟨w.heap.size, 0, none⟩ = some (.int .u8 (c : Int)) := by simp
      have q1 : (w.alloc (.cells #[.int .u8 (c : Int), .int .u8 (s : Int), .string ⟨d.toArray⟩] 32)).cell? ⟨w.heap.size, 1, none⟩ = some (.int .u8 (s : Int)) := by simp
      have q2 : (w.alloc (.cells #[.int .u8 (c : Int), .int .u8 (s : Int), .string ⟨d.toArray⟩] 32)).cell? ⟨w.heap.size, 2, none⟩ = some (.string ⟨d.toArray⟩) := by simp
      rw [HE.out] at hap
      generalize ntL c s d = R at *
      generalize laid c 1 ++ laid s 1 = X2 at *
      have HB : Hid (Below _ _ _) := hb
      clear HA hc hs h1 h0 hb HE
      unfold ntC
      go_enter Tryd.func6, Tryd.ntmps6
      go_wp2_with fail
      refine Calls.mono K1.out ?_
      rintro e w1 ⟨rfl, hb1⟩
      have q1 := below_cell hb1 q1
      have q2 := below_cell hb1 q2
      have HB1 : Hid (Below w.heap.size w w1) := HB.out.trans (hb1.mono HB.out.size)
      clear hb1 q0 K1 HB
      go_wp2
      go_region_held (fun w' => w'.cell? ⟨w.heap.size, 1, none⟩ = some (.int .u8 (s : Int)) ∧ w'.cell? ⟨w.heap.size, 2, none⟩ = some (.string ⟨d.toArray⟩)) (go_keep)
        (first | (go_at_call 14; refine Calls.mono (K2.out _) ?_; rintro e w5 ⟨rfl, hb5⟩; have q1 := below_cell hb5 q1; have q2 := below_cell hb5 q2))
      all_goals go_wp2
      all_goals go_ret2
      all_goals exact ⟨rfl, (below_drewN HB1.out 1).trans (hb5.mono HB1.out.size)⟩
end Go.Proofs.YtkaghjohkhlimabDoor
