/-
  The chapter's example, and the closing words of every statement: works answers true.
-/
import Derived.Test.YtjjhimdjhfdmiaaDoorD3
import Derived.Test.YtjjhimdjhfdmiaaDoorD4
import Derived.Test.YtjjhimdjhfdmiaaDoorPaA
import Derived.Test.YtjjhimdjhfdmiaaDoorPaB
import Derived.Test.YtjjhimdjhfdmiaaDoorPaC
import Derived.Test.YtjjhimdjhfdmiaaDoorPaD
namespace Go.Proofs.YtjjhimdjhfdmiaaDoor
open Go.Deep (BT)
open Go.RowKit
def x1 : ByteArray := keyRow 1 0 ⟨#[10, 0, 0, 0]⟩
def x2 : ByteArray := keyRow 1 0 ⟨#[10, 1, 0, 0]⟩
def x3 : ByteArray := keyRow 4 7 ⟨#[0, 0, 0, 0]⟩
/-- The example's tree. -/
def exT : T := ((BT.nil.set x1 80 1).set x2 88 2).set x3 72 3
theorem ex_get2 : (BT.nil.set x1 80 1).get x2 88 = none := by kernel_rfl
theorem ex_get3 : ((BT.nil.set x1 80 1).set x2 88 2).get x3 72 = none := by kernel_rfl
theorem ex_match : exT.mt (keyRow 1 0 ⟨#[10, 1, 2, 0]⟩) 96 none = some ⟨x2, 88, 2⟩ := by kernel_rfl
theorem chkA : chk (1 : Nat) (0 : Nat) ⟨#[10, 0, 0, 0]⟩ (8 : Nat) = 0 := by decide +kernel
theorem chkB : chk (1 : Nat) (0 : Nat) ⟨#[10, 1, 0, 0]⟩ (16 : Nat) = 0 := by decide +kernel
theorem chkC : chk (4 : Nat) (7 : Nat) ⟨#[0, 0, 0, 0]⟩ (0 : Nat) = 0 := by decide +kernel
theorem chkD : chk (1 : Nat) (0 : Nat) ⟨#[10, 1, 2, 0]⟩ (24 : Nat) = 0 := by decide +kernel
theorem Tabs.size {w : World} (h : Tabs w) : 3 ≤ w.heap.size := by
  obtain ⟨_, _, ⟨m, hm⟩⟩ := h
  exact lt_of_cell hm
theorem Tabs.beside {w w' : World} {p : Nat} (h : Tabs w) (hb : Beside p w w') (hp : 3 ≤ p) : Tabs w' := by
  have hz := h.size
  obtain ⟨⟨t, fr, h1⟩, ⟨t', fr', h2⟩, ⟨m, hm⟩⟩ := h
  refine ⟨⟨t, fr, (hb.block 0 (by omega) (by omega)).trans h1⟩, ⟨t', fr', (hb.block 1 (by omega) (by omega)).trans h2⟩, ⟨m, ?_⟩⟩
  unfold World.cell? at *
  rw [hb.block 2 (by omega) (by omega)]
  exact hm
set_option maxRecDepth 100000 in
set_option maxHeartbeats 800000 in
theorem example_any (w : World) (h : Tabs w) :
    Calls Tryd.prog 20 #[] w fun e w' => e = .returned (.pointer (some ⟨w.heap.size, 0, none⟩)) ∧ TrAt w' w.heap.size exT 3 ∧ Below w.heap.size w w' := by
  go_enter Tryd.func20, Tryd.ntmps20
  go_wp2_with fail
  refine (newT_any w).mono ?_
  rintro e w1 ⟨rfl, t1, hb1⟩
  have T1 := h.below hb1
  generalize htb : w.heap.size = tb at t1 ⊢
  have le : w.heap.size ≤ tb := by omega
  go_wp2_with fail
  refine (p_A w1 T1).mono ?_
  rintro e w2 ⟨rfl, hb2⟩
  have t2 := t1.below hb2
  have T2 := T1.below hb2
  have hB2 := hb1.trans (hb2.mono hb1.size)
  clear t1 T1 hb1 hb2
  go_wp2_with fail
  refine (setT_any tb _ 0 1 0 ⟨#[10, 0, 0, 0]⟩ 8 1 _ t2 T2 chkA (by decide) (by decide) (by decide)).mono ?_
  rintro e w3 ⟨rfl, t3, hb3⟩
  rw [show cntOf (BT.nil.get (keyRow 1 0 ⟨#[10, 0, 0, 0]⟩) (72 + 8)) 0 = 1 from rfl] at t3
  have T3 := T2.beside hb3 (by have := h.size; omega)
  have hB3 := hb3.below hB2 le hB2.size
  clear t2 T2 hB2 hb3
  go_wp2_with fail
  refine (p_B w3 T3).mono ?_
  rintro e w4 ⟨rfl, hb4⟩
  have t4 := t3.below hb4
  have T4 := T3.below hb4
  have hB4 := hB3.trans (hb4.mono hB3.size)
  clear t3 T3 hB3 hb4
  go_wp2_with fail
  refine (setT_any tb _ 1 1 0 ⟨#[10, 1, 0, 0]⟩ 16 2 _ t4 T4 chkB (by decide) (by decide) (by decide)).mono ?_
  rintro e w5 ⟨rfl, t5, hb5⟩
  rw [show cntOf ((BT.nil.set (keyRow 1 0 ⟨#[10, 0, 0, 0]⟩) (72 + 8) 1).get (keyRow 1 0 ⟨#[10, 1, 0, 0]⟩) (72 + 16)) 1 = 2 from by rw [show (BT.nil.set (keyRow 1 0 ⟨#[10, 0, 0, 0]⟩) (72 + 8) 1).get (keyRow 1 0 ⟨#[10, 1, 0, 0]⟩) (72 + 16) = none from ex_get2]; rfl] at t5
  have T5 := T4.beside hb5 (by have := h.size; omega)
  have hB5 := hb5.below hB4 le hB4.size
  clear t4 T4 hB4 hb5
  go_wp2_with fail
  refine (p_C w5 T5).mono ?_
  rintro e w6 ⟨rfl, hb6⟩
  have t6 := t5.below hb6
  have T6 := T5.below hb6
  have hB6 := hB5.trans (hb6.mono hB5.size)
  clear t5 T5 hB5 hb6
  go_wp2_with fail
  refine (setT_any tb _ 2 4 7 ⟨#[0, 0, 0, 0]⟩ 0 3 _ t6 T6 chkC (by decide) (by decide) (by decide)).mono ?_
  rintro e w7 ⟨rfl, t7, hb7⟩
  rw [show cntOf (((BT.nil.set (keyRow 1 0 ⟨#[10, 0, 0, 0]⟩) (72 + 8) 1).set (keyRow 1 0 ⟨#[10, 1, 0, 0]⟩) (72 + 16) 2).get (keyRow 4 7 ⟨#[0, 0, 0, 0]⟩) (72 + 0)) 2 = 3 from by rw [show ((BT.nil.set (keyRow 1 0 ⟨#[10, 0, 0, 0]⟩) (72 + 8) 1).set (keyRow 1 0 ⟨#[10, 1, 0, 0]⟩) (72 + 16) 2).get (keyRow 4 7 ⟨#[0, 0, 0, 0]⟩) (72 + 0) = none from ex_get3]; rfl] at t7
  have hB7 := hb7.below hB6 le hB6.size
  clear t6 T6 hB6 hb7
  go_wp2
  go_ret
  subst htb
  exact ⟨rfl, t7, hB7⟩
theorem pfx_of {f r : Nat} {s : ByteArray} {l : Nat} {f' r' : Nat} {s' : ByteArray} {l' : Nat} (h : chk f r s l = 0) (h' : chk f' r' s' l' = 0) (hr : r < 18446744073709551616) (hr' : r' < 18446744073709551616) (e : keyRow f r s = keyRow f' r' s') (el : 72 + l = 72 + l') : f' = f ∧ r' = r ∧ s' = s ∧ l' = l := by
  obtain ⟨a, b, c⟩ := keyRow_inj (chk_bd h).1 (chk_bd h').1 hr hr' e
  exact ⟨a.symm, b.symm, c.symm, by omega⟩
set_option maxRecDepth 100000 in
set_option maxHeartbeats 800000 in
theorem works_any (w : World) (h : Tabs w) :
    Calls Tryd.prog 14 #[] w fun e w' => e = .returned (.bool true) ∧ Below w.heap.size w w' := by
  go_enter Tryd.func14, Tryd.ntmps14
  go_wp2_with fail
  refine (example_any w h).mono ?_
  rintro e w1 ⟨rfl, t1, hb1⟩
  have T1 := h.below hb1
  go_wp2_with fail
  refine (p_D w1 T1).mono ?_
  rintro e w2 ⟨rfl, hb2⟩
  have t2 := t1.below hb2
  have T2 := T1.below hb2
  have hB2 := hb1.trans (hb2.mono hb1.size)
  clear t1 T1 hb1 hb2
  go_wp2_with fail
  refine (matchT_any w.heap.size exT 3 1 0 ⟨#[10, 1, 2, 0]⟩ 24 _ t2 T2 chkD (by decide)).mono ?_
  rintro e w3 ⟨v, rfl, hm, hb3⟩
  rw [show exT.mt (keyRow 1 0 ⟨#[10, 1, 2, 0]⟩) (72 + 24) none = some ⟨x2, 88, 2⟩ from ex_match] at hm
  obtain ⟨f, r, s, l, hc, hr, he1, he2, rfl⟩ := hm
  obtain ⟨rfl, rfl, rfl, rfl⟩ := pfx_of chkB hc (by decide) hr he1 he2
  have T3 := T2.below hb3
  have hB3 := hB2.trans (hb3.mono hB2.size)
  have hp := PfxAt.of_alloc w3 _ 1 0 ⟨#[10, 1, 0, 0]⟩ 16 rfl
  have hT4 : Tabs (w3.alloc (.cells #[.int .i64 1, .int .u64 0, .string ⟨#[10, 1, 0, 0]⟩, .int .i64 16] 29)) := T3.below ((Below.refl _ _).alloc (Nat.le_refl _) _)
  clear he1 he2 hc hr t2 T2 hb3 hB2
  obtain ⟨c0, c1, c2, c3, _, _, _, _⟩ := id hp
  go_wp2
  go_region_held (fun w' => w'.cell? ⟨w3.heap.size, 0, none⟩ = some (.int .i64 1) ∧ w'.cell? ⟨w3.heap.size, 1, none⟩ = some (.int .u64 0) ∧ w'.cell? ⟨w3.heap.size, 2, none⟩ = some (.string ⟨#[10, 1, 0, 0]⟩) ∧ w'.cell? ⟨w3.heap.size, 3, none⟩ = some (.int .i64 16)) (go_keep)
    (first | (go_at_call 21; refine (p_B _ (hT4.below (Below.refl _ _).drew)).mono ?_; rintro e w5 ⟨rfl, hb5⟩; obtain ⟨q0, q1, q2, q3, _, _, _, _⟩ := hp.drew.kept hb5 (by simp)))
  have hB5 : Below w.heap.size w w5 := (hB3.alloc hB3.size _).drew.trans (hb5.mono (by have := hB3.size; simp; omega))
  go_wp2
  go_ret
  exact ⟨rfl, hB5⟩
end Go.Proofs.YtjjhimdjhfdmiaaDoor
