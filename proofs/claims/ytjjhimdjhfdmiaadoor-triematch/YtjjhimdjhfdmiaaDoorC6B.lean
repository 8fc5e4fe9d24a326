/-
  set, where a new node parts two keys.
-/
import Derived.Test.YtjjhimdjhfdmiaaDoorC6A
namespace Go.Proofs.YtjjhimdjhfdmiaaDoor
open Go.Deep (BT)
variable {oo : Nat}
open Go.RowKit
set_option maxRecDepth 100000 in
set_option maxHeartbeats 800000 in
theorem set_B0 (S : Nat → Prop) (k : ByteArray) (n : Nat) (v : Int) (row : ByteArray) (len : Nat) (has : Bool) (val : Int) (l r : T) (m : Nat) (s1 : len ≤ 8 * row.size) (z1 : row.size ≤ 25) (hn : n ≤ 8 * k.size) (hk : k.size ≤ 25) (hm : com row k (min len n) = m) (hlt : m < len) (hmn : m < n) (hb0 : bt row m = 0) (hb1 : bt k m = 1) :
    SetOk S k n v (.node len oo ⟨row, has, val⟩ l r) (.node m 0 ⟨k, false, 0⟩ (.node len oo ⟨row, has, val⟩ l r) (.node n 0 ⟨k, true, v⟩ .nil .nil)) := by
  intro p w hr hS
  obtain ⟨b, p0, p1, rfl, hSb, hb, hnd, hl, hrr⟩ := hr
  have k0 : KeyAt (w.alloc (.cells #[.string k, .int .i64 n] 58)) w.heap.size k n := KeyAt.new w _ k n rfl
  have hB : Below w.heap.size w (w.alloc (.cells #[.string k, .int .i64 n] 58)) := (Below.refl _ _).alloc (Nat.le_refl _) _
  have hn1 := hnd.kept hB hb
  have n0 := hn1.c0
  have n1 := hn1.c1
  have hbk : b < w.heap.size + 1 := by omega
  have hz1 : w.heap.size < w.heap.size + 1 := by omega
  go_enter Tryd.func23, Tryd.ntmps23
  go_wp2
  go_region_held (fun w' => w'.cell? ⟨b, 0, none⟩ = some (.string row) ∧ w'.cell? ⟨b, 1, none⟩ = some (.int .i64 len) ∧ w'.cell? ⟨w.heap.size, 0, none⟩ = some (.string k) ∧ w'.cell? ⟨w.heap.size, 1, none⟩ = some (.int .i64 n)) (go_keep)
    (first | (go_at_call 43; refine (com_any row k len n _ s1 hn z1).mono ?_; rintro e w2 ⟨rfl, hb2⟩; have k2 := k0.drew.kept hb2 (by simp); have hn2 := hn1.drew.kept hb2 (by simp; omega); obtain ⟨q0, q1, q2, q3, q4, q5⟩ := hn2; obtain ⟨v0, v1⟩ := k2))
  have hB2 : Below w.heap.size w w2 := hB.trans ((Below.refl _ _).drew.trans (hb2.mono (by simp)))
  have hz2 : w.heap.size < w2.heap.size := by have := hb2.size; simp at this; omega
  have hbb : b < w2.heap.size := by omega
  have ne1 : w2.heap.size ≠ w.heap.size := by omega
  have ne2 : w2.heap.size ≠ b := by omega
  clear n0 n1
  have hnode : Rep S w (.node len oo ⟨row, has, val⟩ l r) (some ⟨b, 0, none⟩) := ⟨b, p0, p1, rfl, hSb, hb, hnd, hl, hrr⟩
  clear hl hrr hnd
  go_wp2_with fail
  refine (kbit_any row len m _ z1 (by omega)).mono ?_
  rintro e w3 ⟨rfl, hb3⟩
  have hn3 := (NodeAt.new w2 _ k m false 0 none none rfl).kept hb3 (by simp)
  have hf3 := (FreeAt.new w2 w2.heap.size #[.string k, .int .i64 m, .bool false, .int .i64 0, .pointer none, .pointer none] 77 rfl).kept hb3 (by simp)
  have hB3 : Below w2.heap.size w2 w3 := ((Below.refl _ _).alloc (Nat.le_refl _) _).trans (hb3.mono (by simp))
  have hz3 : w2.heap.size < w3.heap.size := by have := hb3.size; simp at this; omega
  have k3 := (KeyAt.mk v0 v1 : KeyAt w2 w.heap.size k n).kept hB3 hz2
  obtain ⟨d0, d1, d2, d3, d4, d5⟩ := id hn3
  obtain ⟨g0, g1, g2, g3, g4, g5⟩ := id hf3
  obtain ⟨y0, y1⟩ := id k3
  have le2 : w.heap.size ≤ w2.heap.size := Nat.le_of_lt hz2
  have nek : ((m : Int) == (n : Int)) = false := beq_eq_false_iff_ne.2 (by omega)
  go_wp2_with fail
  have hn4 := hn3.set4 (some ⟨b, 0, none⟩)
  have hf4 := hf3.set ⟨w2.heap.size, 4, none⟩ (.pointer (some ⟨b, 0, none⟩))
  have k4 : KeyAt (w3.setCell ⟨w2.heap.size, 4, none⟩ (.pointer (some ⟨b, 0, none⟩))) w.heap.size k n := ⟨by rw [World.cell?_setCell_other _ _ _ _ (fun h => ne1 (congrArg Addr.block h))]; exact y0, by rw [World.cell?_setCell_other _ _ _ _ (fun h => ne1 (congrArg Addr.block h))]; exact y1⟩
  have hB4 := (hB2.trans (hB3.mono le2)).setCell (p := ⟨w2.heap.size, 4, none⟩) le2 (.pointer (some ⟨b, 0, none⟩))
  have hz4 : w2.heap.size < (w3.setCell ⟨w2.heap.size, 4, none⟩ (.pointer (some ⟨b, 0, none⟩))).heap.size := by simp; omega
  clear d0 d1 d2 d3 d4 d5 g0 g1 g2 g3 g4 g5 y0 y1 hn3 hf3 hb3 hB3 hz3 k3 hb2
  generalize w3.setCell ⟨w2.heap.size, 4, none⟩ (.pointer (some ⟨b, 0, none⟩)) = w4 at *
  refine (kbit_any k n m _ hk (by omega)).mono ?_
  rintro e w5 ⟨rfl, hb5⟩
  have hn5 := hn4.kept hb5 hz4
  have hf5 := hf4.kept hb5 hz4
  have k5 := k4.kept hb5 (by omega)
  have hB5 := hB4.trans (hb5.mono hB4.size)
  have hz5 := Nat.lt_of_lt_of_le hz4 hb5.size
  clear hn4 hf4 k4 hB4 hz4 hb5
  obtain ⟨d0, d1, d2, d3, d4, d5⟩ := id hn5
  obtain ⟨y0, y1⟩ := id k5
  have hset := set_nil (fun j => S j ∧ j ≠ w2.heap.size) k n v none w5.drew rep_nil (fun j hj => ⟨hS j (Nat.le_trans hB5.size hj), fun e => absurd (Nat.lt_of_lt_of_le hz5 hj) (by rw [e]; exact Nat.lt_irrefl _)⟩)
  go_wp2
  go_region_with (first | (go_at_call 23; refine hset.mono ?_; rintro e w6 ⟨p9, rfl, hr9, hb6⟩; have hn6 := hn5.drew.kept hb6 hz5; have hf6 := hf5.drew.kept hb6 hz5; obtain ⟨t0, t1, t2, t3, t4, t5⟩ := id hn6; obtain ⟨g0, g1, g2, g3, g4, g5⟩ := id hf6; obtain ⟨x0, x1⟩ := k5.drew.kept hb6 (by simp; omega)))
  all_goals
    have hB6 : Below w.heap.size w w6 := hB5.drew.trans (hb6.mono hB5.size)
    have hz6 : w2.heap.size < w6.heap.size := Nat.lt_of_lt_of_le hz5 hb6.size
    go_wp2
    go_ret
    have hW := hB6.setCell (p := ⟨w2.heap.size, 5, none⟩) le2 (.pointer p9)
    exact ⟨_, rfl, ⟨w2.heap.size, (some ⟨b, 0, none⟩), p9, rfl, hS _ le2, by simp; omega, hn6.set5 p9, hnode.below hW, hr9.set _ _⟩, hW⟩
set_option maxRecDepth 100000 in
set_option maxHeartbeats 800000 in
theorem set_B1 (S : Nat → Prop) (k : ByteArray) (n : Nat) (v : Int) (row : ByteArray) (len : Nat) (has : Bool) (val : Int) (l r : T) (m : Nat) (s1 : len ≤ 8 * row.size) (z1 : row.size ≤ 25) (hn : n ≤ 8 * k.size) (hk : k.size ≤ 25) (hm : com row k (min len n) = m) (hlt : m < len) (hmn : m < n) (hb0 : bt row m = 1) (hb1 : bt k m = 0) :
    SetOk S k n v (.node len oo ⟨row, has, val⟩ l r) (.node m 0 ⟨k, false, 0⟩ (.node n 0 ⟨k, true, v⟩ .nil .nil) (.node len oo ⟨row, has, val⟩ l r)) := by
  intro p w hr hS
  obtain ⟨b, p0, p1, rfl, hSb, hb, hnd, hl, hrr⟩ := hr
  have k0 : KeyAt (w.alloc (.cells #[.string k, .int .i64 n] 58)) w.heap.size k n := KeyAt.new w _ k n rfl
  have hB : Below w.heap.size w (w.alloc (.cells #[.string k, .int .i64 n] 58)) := (Below.refl _ _).alloc (Nat.le_refl _) _
  have hn1 := hnd.kept hB hb
  have n0 := hn1.c0
  have n1 := hn1.c1
  have hbk : b < w.heap.size + 1 := by omega
  have hz1 : w.heap.size < w.heap.size + 1 := by omega
  go_enter Tryd.func23, Tryd.ntmps23
  go_wp2
  go_region_held (fun w' => w'.cell? ⟨b, 0, none⟩ = some (.string row) ∧ w'.cell? ⟨b, 1, none⟩ = some (.int .i64 len) ∧ w'.cell? ⟨w.heap.size, 0, none⟩ = some (.string k) ∧ w'.cell? ⟨w.heap.size, 1, none⟩ = some (.int .i64 n)) (go_keep)
    (first | (go_at_call 43; refine (com_any row k len n _ s1 hn z1).mono ?_; rintro e w2 ⟨rfl, hb2⟩; have k2 := k0.drew.kept hb2 (by simp); have hn2 := hn1.drew.kept hb2 (by simp; omega); obtain ⟨q0, q1, q2, q3, q4, q5⟩ := hn2; obtain ⟨v0, v1⟩ := k2))
  have hB2 : Below w.heap.size w w2 := hB.trans ((Below.refl _ _).drew.trans (hb2.mono (by simp)))
  have hz2 : w.heap.size < w2.heap.size := by have := hb2.size; simp at this; omega
  have hbb : b < w2.heap.size := by omega
  have ne1 : w2.heap.size ≠ w.heap.size := by omega
  have ne2 : w2.heap.size ≠ b := by omega
  clear n0 n1
  have hnode : Rep S w (.node len oo ⟨row, has, val⟩ l r) (some ⟨b, 0, none⟩) := ⟨b, p0, p1, rfl, hSb, hb, hnd, hl, hrr⟩
  clear hl hrr hnd
  go_wp2_with fail
  refine (kbit_any row len m _ z1 (by omega)).mono ?_
  rintro e w3 ⟨rfl, hb3⟩
  have hn3 := (NodeAt.new w2 _ k m false 0 none none rfl).kept hb3 (by simp)
  have hf3 := (FreeAt.new w2 w2.heap.size #[.string k, .int .i64 m, .bool false, .int .i64 0, .pointer none, .pointer none] 77 rfl).kept hb3 (by simp)
  have hB3 : Below w2.heap.size w2 w3 := ((Below.refl _ _).alloc (Nat.le_refl _) _).trans (hb3.mono (by simp))
  have hz3 : w2.heap.size < w3.heap.size := by have := hb3.size; simp at this; omega
  have k3 := (KeyAt.mk v0 v1 : KeyAt w2 w.heap.size k n).kept hB3 hz2
  obtain ⟨d0, d1, d2, d3, d4, d5⟩ := id hn3
  obtain ⟨g0, g1, g2, g3, g4, g5⟩ := id hf3
  obtain ⟨y0, y1⟩ := id k3
  have le2 : w.heap.size ≤ w2.heap.size := Nat.le_of_lt hz2
  have nek : ((m : Int) == (n : Int)) = false := beq_eq_false_iff_ne.2 (by omega)
  go_wp2_with fail
  have hn4 := hn3.set5 (some ⟨b, 0, none⟩)
  have hf4 := hf3.set ⟨w2.heap.size, 5, none⟩ (.pointer (some ⟨b, 0, none⟩))
  have k4 : KeyAt (w3.setCell ⟨w2.heap.size, 5, none⟩ (.pointer (some ⟨b, 0, none⟩))) w.heap.size k n := ⟨by rw [World.cell?_setCell_other _ _ _ _ (fun h => ne1 (congrArg Addr.block h))]; exact y0, by rw [World.cell?_setCell_other _ _ _ _ (fun h => ne1 (congrArg Addr.block h))]; exact y1⟩
  have hB4 := (hB2.trans (hB3.mono le2)).setCell (p := ⟨w2.heap.size, 5, none⟩) le2 (.pointer (some ⟨b, 0, none⟩))
  have hz4 : w2.heap.size < (w3.setCell ⟨w2.heap.size, 5, none⟩ (.pointer (some ⟨b, 0, none⟩))).heap.size := by simp; omega
  clear d0 d1 d2 d3 d4 d5 g0 g1 g2 g3 g4 g5 y0 y1 hn3 hf3 hb3 hB3 hz3 k3 hb2
  generalize w3.setCell ⟨w2.heap.size, 5, none⟩ (.pointer (some ⟨b, 0, none⟩)) = w4 at *
  refine (kbit_any k n m _ hk (by omega)).mono ?_
  rintro e w5 ⟨rfl, hb5⟩
  have hn5 := hn4.kept hb5 hz4
  have hf5 := hf4.kept hb5 hz4
  have k5 := k4.kept hb5 (by omega)
  have hB5 := hB4.trans (hb5.mono hB4.size)
  have hz5 := Nat.lt_of_lt_of_le hz4 hb5.size
  clear hn4 hf4 k4 hB4 hz4 hb5
  obtain ⟨d0, d1, d2, d3, d4, d5⟩ := id hn5
  obtain ⟨y0, y1⟩ := id k5
  have hset := set_nil (fun j => S j ∧ j ≠ w2.heap.size) k n v none w5.drew rep_nil (fun j hj => ⟨hS j (Nat.le_trans hB5.size hj), fun e => absurd (Nat.lt_of_lt_of_le hz5 hj) (by rw [e]; exact Nat.lt_irrefl _)⟩)
  go_wp2
  go_region_with (first | (go_at_call 23; refine hset.mono ?_; rintro e w6 ⟨p9, rfl, hr9, hb6⟩; have hn6 := hn5.drew.kept hb6 hz5; have hf6 := hf5.drew.kept hb6 hz5; obtain ⟨t0, t1, t2, t3, t4, t5⟩ := id hn6; obtain ⟨g0, g1, g2, g3, g4, g5⟩ := id hf6; obtain ⟨x0, x1⟩ := k5.drew.kept hb6 (by simp; omega)))
  all_goals
    have hB6 : Below w.heap.size w w6 := hB5.drew.trans (hb6.mono hB5.size)
    have hz6 : w2.heap.size < w6.heap.size := Nat.lt_of_lt_of_le hz5 hb6.size
    go_wp2
    go_ret
    have hW := hB6.setCell (p := ⟨w2.heap.size, 4, none⟩) le2 (.pointer p9)
    exact ⟨_, rfl, ⟨w2.heap.size, p9, (some ⟨b, 0, none⟩), rfl, hS _ le2, by simp; omega, hn6.set4 p9, hr9.set _ _, hnode.below hW⟩, hW⟩
end Go.Proofs.YtjjhimdjhfdmiaaDoor
