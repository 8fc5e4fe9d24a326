/-
  set, where the key is the node's own.
-/
import Derived.Test.YtjjhimdjhfdmiaaDoorC6A
namespace Go.Proofs.YtjjhimdjhfdmiaaDoor
open Go.Deep (BT)
variable {oo : Nat}
open Go.RowKit
set_option maxRecDepth 100000 in
set_option maxHeartbeats 800000 in
theorem set_C (S : Nat → Prop) (k : ByteArray) (n : Nat) (v : Int) (row : ByteArray) (has : Bool) (val : Int) (l r : T) (s1 : n ≤ 8 * row.size) (z1 : row.size ≤ 25) (hn : n ≤ 8 * k.size) (hm : com row k n = n)  :
    SetOk S k n v (.node n oo ⟨row, has, val⟩ l r) (.node n 0 ⟨k, true, v⟩ l r) := by
  intro p w hr hS
  obtain ⟨b, p0, p1, rfl, hSb, hb, hnd, hl, hrr⟩ := hr
  have k0 : KeyAt (w.alloc (.cells #[.string k, .int .i64 n] 58)) w.heap.size k n := KeyAt.new w _ k n rfl
  have hB : Below w.heap.size w (w.alloc (.cells #[.string k, .int .i64 n] 58)) := (Below.refl _ _).alloc (Nat.le_refl _) _
  have hn1 := hnd.kept hB hb
  have n0 := hn1.c0
  have n1 := hn1.c1
  have hbk : b < w.heap.size + 1 := by omega
  have hz1 : w.heap.size < w.heap.size + 1 := by omega
  go_enter Tryd.func23, Tryd.ntmps23
  go_wp2
  go_region_held (fun w' => w'.cell? ⟨b, 0, none⟩ = some (.string row) ∧ w'.cell? ⟨b, 1, none⟩ = some (.int .i64 n) ∧ w'.cell? ⟨w.heap.size, 0, none⟩ = some (.string k) ∧ w'.cell? ⟨w.heap.size, 1, none⟩ = some (.int .i64 n)) (go_keep)
    (first | (go_at_call 43; refine (com_any row k n n _ s1 hn z1).mono ?_; rintro e w2 ⟨rfl, hb2⟩; rw [Nat.min_self]; have k2 := k0.drew.kept hb2 (by simp); have hn2 := hn1.drew.kept hb2 (by simp; omega); obtain ⟨q0, q1, q2, q3, q4, q5⟩ := hn2; obtain ⟨v0, v1⟩ := k2))
  have hB2 : Below w.heap.size w w2 := hB.trans ((Below.refl _ _).drew.trans (hb2.mono (by simp)))
  have hz2 : w.heap.size < w2.heap.size := by have := hb2.size; simp at this; omega
  have hbb : b < w2.heap.size := by omega
  have ne1 : w2.heap.size ≠ w.heap.size := by omega
  have ne2 : w2.heap.size ≠ b := by omega
  clear n0 n1
  have le2 : w.heap.size ≤ w2.heap.size := Nat.le_of_lt hz2
  go_wp2
  go_ret
  have hW := hB2.alloc le2 (.cells #[.string k, .int .i64 n, .bool true, .int .i64 v, .pointer p0, .pointer p1] 77)
  exact ⟨_, rfl, ⟨w2.heap.size, p0, p1, rfl, hS _ le2, by simp, NodeAt.new _ _ _ _ _ _ _ _ rfl, hl.below hW, hrr.below hW⟩, hW⟩
end Go.Proofs.YtjjhimdjhfdmiaaDoor
