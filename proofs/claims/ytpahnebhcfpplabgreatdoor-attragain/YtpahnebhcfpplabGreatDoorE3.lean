/-
  The values of aggregators, as package attr lays them.
-/
import Derived.Test.YtpahnebhcfpplabGreatDoorE2
namespace Go.Proofs.YtpahnebhcfpplabGreatDoor
open Go.RowKit
set_option maxRecDepth 100000 in
set_option maxHeartbeats 800000 in
theorem layAgg_four (p qf qs a id : Nat) (w : World) (hqf : w.cell? ⟨qf, 0, none⟩ = some (.bool true)) (hqs : w.cell? ⟨qs, 0, none⟩ = some (.int .i64 4)) (h8 : w.cell? ⟨p, 8, none⟩ = some (.int .u32 (a : Int))) (h9 : w.cell? ⟨p, 9, none⟩ = some (.int .u32 (id : Int))) (ha : a < 4294967296) (hi : id < 4294967296) :
    Calls Tryz.prog 92 #[.pointer (some ⟨p, 0, none⟩), .pointer (some ⟨qf, 0, none⟩), .pointer (some ⟨qs, 0, none⟩)] w fun e w' => e = .returned (.tuple #[.string ⟨(laid a 4 ++ laid id 4).toArray⟩, .bool (decide (0 < a))]) ∧ Below w.heap.size w w' := by
  have hw : (a : Int) % 18446744073709551616 = a := by omega
  have hw2 : (id : Int) % 18446744073709551616 = id := by omega
  have hwr : IntKind.u64.wrap (id : Int) = (id : Int) := by rw [IntKind.wrap_u64]; omega
  have HS : Hid (_ = _) := strAdd (laid a 4) (laid id 4)
  have HD : Hid (decide ((0 : Int) < (a : Int)) = decide (0 < a)) := by unfold Hid; simp
  have HP1 : Hid (∀ W, Calls Tryz.prog 20 #[.int .u64 (a : Nat), .int .i64 4] W fun e w' => e = .returned (.string ⟨(laid a 4).toArray⟩) ∧ Below W.heap.size W w') := fun W => put47 a 4 W (by omega) (by omega) (by omega)
  have HP2 : Hid (∀ W, Calls Tryz.prog 20 #[.int .u64 (id : Int), .int .i64 4] W fun e w' => e = .returned (.string ⟨(laid id 4).toArray⟩) ∧ Below W.heap.size W w') := fun W => put47 id 4 W (by omega) (by omega) (by omega)
  generalize (⟨(laid a 4 ++ laid id 4).toArray⟩ : ByteArray) = bs at *
  have hz1 : (⟨(laid a 4).toArray⟩ : ByteArray).size = 4 := laid_length _ _
  have hz2 : (⟨(laid id 4).toArray⟩ : ByteArray).size = 4 := laid_length _ _
  generalize (⟨(laid a 4).toArray⟩ : ByteArray) = b1 at *
  generalize (⟨(laid id 4).toArray⟩ : ByteArray) = b2 at *
  have hadd : ∀ W, (Op.stringOp .add b1 b2).run Tryz.prog W = .ok (.string (b1 ++ b2)) W := fun W => by
    have h := run_string_add_if (P := Tryz.prog) W b1 b2
    rw [if_neg (by rw [hz1, hz2]; omega)] at h
    exact h
  clear hz1 hz2
  have tok1 : True := trivial
  go_enter Tryz.func92, Tryz.ntmps92
  go_wp2
  go_region_held (fun w' => w'.cell? ⟨qs, 0, none⟩ = some (.int .i64 4) ∧ w'.cell? ⟨p, 8, none⟩ = some (.int .u32 (a : Int)) ∧ w'.cell? ⟨p, 9, none⟩ = some (.int .u32 (id : Int))) (go_keep)
    (first | (go_at_call 20; have _t := tok1; refine (HP1.out _).mono ?_; rintro e w5 ⟨rfl, hb5⟩; have q0 := below_cell (w := w.drew) hb5 hqs; have q1 := below_cell (w := w.drew) hb5 h8; have q2 := below_cell (w := w.drew) hb5 h9; clear tok1) | (go_at_call 20; (try rw [hwr]); refine (HP2.out _).mono ?_; rintro e w6 ⟨rfl, hb6⟩; have r0 := below_cell hb6 q0; have r1 := below_cell hb6 q1; have r2 := below_cell hb6 q2))
  have HB2 : Hid (Below w.heap.size w w6) := ((Below.refl w.heap.size w).drew.trans (hb5.mono (Nat.le_refl _))).trans (hb6.mono hb5.size)
  clear hb5 hb6 hqf hqs h8 h9 q0 q1 q2 r0 r1 r2
  go_wp2
  go_ret2
  exact ⟨by rw [HS.out]; rfl, HB2.out⟩
set_option maxRecDepth 100000 in
set_option maxHeartbeats 800000 in
theorem layAgg_two (p qf qs a id : Nat) (w : World) (hqf : w.cell? ⟨qf, 0, none⟩ = some (.bool false)) (hqs : w.cell? ⟨qs, 0, none⟩ = some (.int .i64 2)) (h8 : w.cell? ⟨p, 8, none⟩ = some (.int .u32 (a : Int))) (h9 : w.cell? ⟨p, 9, none⟩ = some (.int .u32 (id : Int))) (ha : a < 4294967296) (hi : id < 4294967296) (hs : a ≤ 65535) :
    Calls Tryz.prog 92 #[.pointer (some ⟨p, 0, none⟩), .pointer (some ⟨qf, 0, none⟩), .pointer (some ⟨qs, 0, none⟩)] w fun e w' => e = .returned (.tuple #[.string ⟨(laid a 2 ++ laid id 4).toArray⟩, .bool (decide (0 < a))]) ∧ Below w.heap.size w w' := by
  have hw : (a : Int) % 18446744073709551616 = a := by omega
  have hw2 : (id : Int) % 18446744073709551616 = id := by omega
  have hwr : IntKind.u64.wrap (id : Int) = (id : Int) := by rw [IntKind.wrap_u64]; omega
  have HS : Hid (_ = _) := strAdd (laid a 2) (laid id 4)
  have HD : Hid (decide ((0 : Int) < (a : Int)) = decide (0 < a)) := by unfold Hid; simp
  have HP1 : Hid (∀ W, Calls Tryz.prog 20 #[.int .u64 (a : Nat), .int .i64 2] W fun e w' => e = .returned (.string ⟨(laid a 2).toArray⟩) ∧ Below W.heap.size W w') := fun W => put47 a 2 W (by omega) (by omega) (by omega)
  have HP2 : Hid (∀ W, Calls Tryz.prog 20 #[.int .u64 (id : Int), .int .i64 4] W fun e w' => e = .returned (.string ⟨(laid id 4).toArray⟩) ∧ Below W.heap.size W w') := fun W => put47 id 4 W (by omega) (by omega) (by omega)
  generalize (⟨(laid a 2 ++ laid id 4).toArray⟩ : ByteArray) = bs at *
  have hz1 : (⟨(laid a 2).toArray⟩ : ByteArray).size = 2 := laid_length _ _
  have hz2 : (⟨(laid id 4).toArray⟩ : ByteArray).size = 4 := laid_length _ _
  generalize (⟨(laid a 2).toArray⟩ : ByteArray) = b1 at *
  generalize (⟨(laid id 4).toArray⟩ : ByteArray) = b2 at *
  have hadd : ∀ W, (Op.stringOp .add b1 b2).run Tryz.prog W = .ok (.string (b1 ++ b2)) W := fun W => by
    have h := run_string_add_if (P := Tryz.prog) W b1 b2
    rw [if_neg (by rw [hz1, hz2]; omega)] at h
    exact h
  clear hz1 hz2
  have tok1 : True := trivial
  go_enter Tryz.func92, Tryz.ntmps92
  go_wp2
  go_region_held (fun w' => w'.cell? ⟨qs, 0, none⟩ = some (.int .i64 2) ∧ w'.cell? ⟨p, 8, none⟩ = some (.int .u32 (a : Int)) ∧ w'.cell? ⟨p, 9, none⟩ = some (.int .u32 (id : Int))) (go_keep)
    (first | (go_at_call 20; have _t := tok1; refine (HP1.out _).mono ?_; rintro e w5 ⟨rfl, hb5⟩; have q0 := below_cell (w := w.drew) hb5 hqs; have q1 := below_cell (w := w.drew) hb5 h8; have q2 := below_cell (w := w.drew) hb5 h9; clear tok1) | (go_at_call 20; (try rw [hwr]); refine (HP2.out _).mono ?_; rintro e w6 ⟨rfl, hb6⟩; have r0 := below_cell hb6 q0; have r1 := below_cell hb6 q1; have r2 := below_cell hb6 q2))
  have HB2 : Hid (Below w.heap.size w w6) := ((Below.refl w.heap.size w).drew.trans (hb5.mono (Nat.le_refl _))).trans (hb6.mono hb5.size)
  clear hb5 hb6 hqf hqs h8 h9 q0 q1 q2 r0 r1 r2
  go_wp2
  go_ret2
  exact ⟨by rw [HS.out]; rfl, HB2.out⟩
set_option maxRecDepth 100000 in
set_option maxHeartbeats 800000 in
theorem layAgg_long (p qf qs a id : Nat) (w : World) (hqf : w.cell? ⟨qf, 0, none⟩ = some (.bool false)) (hqs : w.cell? ⟨qs, 0, none⟩ = some (.int .i64 2)) (h8 : w.cell? ⟨p, 8, none⟩ = some (.int .u32 (a : Int))) (h9 : w.cell? ⟨p, 9, none⟩ = some (.int .u32 (id : Int))) (ha : a < 4294967296) (hi : id < 4294967296) (hs : 65535 < a) :
    Calls Tryz.prog 92 #[.pointer (some ⟨p, 0, none⟩), .pointer (some ⟨qf, 0, none⟩), .pointer (some ⟨qs, 0, none⟩)] w fun e w' => e = .returned (.tuple #[.string ⟨(laid 23456 2 ++ laid id 4).toArray⟩, .bool (decide (0 < a))]) ∧ Below w.heap.size w w' := by
  have hw : (a : Int) % 18446744073709551616 = a := by omega
  have hw2 : (id : Int) % 18446744073709551616 = id := by omega
  have hwr : IntKind.u64.wrap (id : Int) = (id : Int) := by rw [IntKind.wrap_u64]; omega
  have HS : Hid (_ = _) := strAdd (laid 23456 2) (laid id 4)
  have HD : Hid (decide ((0 : Int) < (a : Int)) = decide (0 < a)) := by unfold Hid; simp
  have HP1 : Hid (∀ W, Calls Tryz.prog 20 #[.int .u64 (23456 : Nat), .int .i64 2] W fun e w' => e = .returned (.string ⟨(laid 23456 2).toArray⟩) ∧ Below W.heap.size W w') := fun W => put47 23456 2 W (by omega) (by omega) (by omega)
  have HP2 : Hid (∀ W, Calls Tryz.prog 20 #[.int .u64 (id : Int), .int .i64 4] W fun e w' => e = .returned (.string ⟨(laid id 4).toArray⟩) ∧ Below W.heap.size W w') := fun W => put47 id 4 W (by omega) (by omega) (by omega)
  generalize (⟨(laid 23456 2 ++ laid id 4).toArray⟩ : ByteArray) = bs at *
  have hz1 : (⟨(laid 23456 2).toArray⟩ : ByteArray).size = 2 := laid_length _ _
  have hz2 : (⟨(laid id 4).toArray⟩ : ByteArray).size = 4 := laid_length _ _
  generalize (⟨(laid 23456 2).toArray⟩ : ByteArray) = b1 at *
  generalize (⟨(laid id 4).toArray⟩ : ByteArray) = b2 at *
  have hadd : ∀ W, (Op.stringOp .add b1 b2).run Tryz.prog W = .ok (.string (b1 ++ b2)) W := fun W => by
    have h := run_string_add_if (P := Tryz.prog) W b1 b2
    rw [if_neg (by rw [hz1, hz2]; omega)] at h
    exact h
  clear hz1 hz2
  have tok1 : True := trivial
  go_enter Tryz.func92, Tryz.ntmps92
  go_wp2
  go_region_held (fun w' => w'.cell? ⟨qs, 0, none⟩ = some (.int .i64 2) ∧ w'.cell? ⟨p, 8, none⟩ = some (.int .u32 (a : Int)) ∧ w'.cell? ⟨p, 9, none⟩ = some (.int .u32 (id : Int))) (go_keep)
    (first | (go_at_call 20; have _t := tok1; refine (HP1.out _).mono ?_; rintro e w5 ⟨rfl, hb5⟩; have q0 := below_cell (w := w.drew) hb5 hqs; have q1 := below_cell (w := w.drew) hb5 h8; have q2 := below_cell (w := w.drew) hb5 h9; clear tok1) | (go_at_call 20; (try rw [hwr]); refine (HP2.out _).mono ?_; rintro e w6 ⟨rfl, hb6⟩; have r0 := below_cell hb6 q0; have r1 := below_cell hb6 q1; have r2 := below_cell hb6 q2))
  have HB2 : Hid (Below w.heap.size w w6) := ((Below.refl w.heap.size w).drew.trans (hb5.mono (Nat.le_refl _))).trans (hb6.mono hb5.size)
  clear hb5 hb6 hqf hqs h8 h9 q0 q1 q2 r0 r1 r2
  go_wp2
  go_ret2
  exact ⟨by rw [HS.out]; rfl, HB2.out⟩
end Go.Proofs.YtpahnebhcfpplabGreatDoor
