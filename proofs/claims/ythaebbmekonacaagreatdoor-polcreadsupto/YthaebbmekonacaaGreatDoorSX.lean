/-
  Where a reading stands.
-/
import Derived.Test.YthaebbmekonacaaGreatDoorRX
set_option linter.unusedVariables false
set_option linter.unusedSimpArgs false
set_option maxRecDepth 100000
namespace Go.Proofs.YthaebbmekonacaaGreatDoor
open Go.RowKit
/-- Where the reading of a condition stands. -/
structure SR (pl ps : Nat) (w W : World) (ws : List (List UInt8)) (a b c d : Value) : Prop where
  nl : (w.heap.size ≠ pl ∧ w.heap.size ≠ ps) ∧ w.heap.size + 1 ≠ pl ∧ w.heap.size + 1 ≠ ps
  bs : Bs2 pl ps w W
  rd : Rd W pl ps ws
  x : C4 W w.heap.size (.int .i64 0) (.bool false) (.string ⟨#[]⟩) (.int .i64 0)
  y : C4 W (w.heap.size + 1) a b c d
theorem SR.new {pl ps : Nat} {w : World} {ws : List (List UInt8)} (hr : Rd w pl ps ws) : ∃ W1, (w.alloc (.cells #[.int .i64 0, .bool false, .string ⟨#[]⟩, .int .i64 0] 37)).alloc (.cells #[.int .i64 0, .bool false, .string ⟨#[]⟩, .int .i64 0] 37) = W1 ∧ Hid (SR pl ps w W1 ws (.int .i64 0) (.bool false) (.string ⟨#[]⟩) (.int .i64 0)) := by
  have hl := hr.lt
  have hsz : (w.alloc (.cells #[.int .i64 0, .bool false, .string ⟨#[]⟩, .int .i64 0] 37)).heap.size = w.heap.size + 1 := by simp
  have bb := ((Below.refl w.heap.size w).alloc (Nat.le_refl _) (.cells #[.int .i64 0, .bool false, .string ⟨#[]⟩, .int .i64 0] 37)).alloc (by rw [hsz]; omega) (.cells #[.int .i64 0, .bool false, .string ⟨#[]⟩, .int .i64 0] 37)
  refine ⟨_, rfl, ⟨⟨⟨by omega, by omega⟩, by omega, by omega⟩, Bs2.of_below bb, hr.below bb, (C4.new w 37 _ _ _ _).below ((Below.refl _ _).alloc (Nat.le_refl _) _), ?_⟩⟩
  have := C4.new (w.alloc (.cells #[.int .i64 0, .bool false, .string ⟨#[]⟩, .int .i64 0] 37)) 37 (.int .i64 0) (.bool false) (.string ⟨#[]⟩) (.int .i64 0)
  rw [hsz] at this
  exact this
theorem SR.nxt {pl ps : Nat} {w W W' : World} {ws ws' : List (List UInt8)} {a b c d : Value} (h : Hid (SR pl ps w W ws a b c d)) (hr : Rd W' pl ps ws') (hb : Bs2 pl ps W W') : Hid (SR pl ps w W' ws' a b c d) :=
  ⟨h.out.nl, h.out.bs.trans hb, hr, h.out.x.bs2 hb h.out.nl.1.1 h.out.nl.1.2, h.out.y.bs2 hb h.out.nl.2.1 h.out.nl.2.2⟩
theorem SR.bel {pl ps : Nat} {w W W' : World} {ws : List (List UInt8)} {a b c d : Value} (h : Hid (SR pl ps w W ws a b c d)) (hb : Below W.heap.size W W') : Hid (SR pl ps w W' ws a b c d) :=
  SR.nxt h (h.out.rd.below hb) (Bs2.of_below hb)
theorem SR.s0 {pl ps : Nat} {w W : World} {ws : List (List UInt8)} {a b c d : Value} (h : Hid (SR pl ps w W ws a b c d)) (v : Value) : ∃ W', W.setCell ⟨w.heap.size + 1, 0, none⟩ v = W' ∧ Hid (SR pl ps w W' ws v b c d) ∧ W.cell? ⟨w.heap.size + 1, 0, none⟩ = some a ∧ W.frozen? ⟨w.heap.size + 1, 0, none⟩ = false :=
  ⟨_, rfl, ⟨h.out.nl, h.out.bs.set (by omega), h.out.rd.set h.out.nl.2.1 h.out.nl.2.2, h.out.x.other (by omega), h.out.y.set0⟩, h.out.y.c0, h.out.y.f 0⟩
theorem SR.s1 {pl ps : Nat} {w W : World} {ws : List (List UInt8)} {a b c d : Value} (h : Hid (SR pl ps w W ws a b c d)) (v : Value) : ∃ W', W.setCell ⟨w.heap.size + 1, 1, none⟩ v = W' ∧ Hid (SR pl ps w W' ws a v c d) ∧ W.cell? ⟨w.heap.size + 1, 1, none⟩ = some b ∧ W.frozen? ⟨w.heap.size + 1, 1, none⟩ = false :=
  ⟨_, rfl, ⟨h.out.nl, h.out.bs.set (by omega), h.out.rd.set h.out.nl.2.1 h.out.nl.2.2, h.out.x.other (by omega), h.out.y.set1⟩, h.out.y.c1, h.out.y.f 1⟩
theorem SR.s2 {pl ps : Nat} {w W : World} {ws : List (List UInt8)} {a b c d : Value} (h : Hid (SR pl ps w W ws a b c d)) (v : Value) : ∃ W', W.setCell ⟨w.heap.size + 1, 2, none⟩ v = W' ∧ Hid (SR pl ps w W' ws a b v d) ∧ W.cell? ⟨w.heap.size + 1, 2, none⟩ = some c ∧ W.frozen? ⟨w.heap.size + 1, 2, none⟩ = false :=
  ⟨_, rfl, ⟨h.out.nl, h.out.bs.set (by omega), h.out.rd.set h.out.nl.2.1 h.out.nl.2.2, h.out.x.other (by omega), h.out.y.set2⟩, h.out.y.c2, h.out.y.f 2⟩
theorem SR.s3 {pl ps : Nat} {w W : World} {ws : List (List UInt8)} {a b c d : Value} (h : Hid (SR pl ps w W ws a b c d)) (v : Value) : ∃ W', W.setCell ⟨w.heap.size + 1, 3, none⟩ v = W' ∧ Hid (SR pl ps w W' ws a b c v) ∧ W.cell? ⟨w.heap.size + 1, 3, none⟩ = some d ∧ W.frozen? ⟨w.heap.size + 1, 3, none⟩ = false :=
  ⟨_, rfl, ⟨h.out.nl, h.out.bs.set (by omega), h.out.rd.set h.out.nl.2.1 h.out.nl.2.2, h.out.x.other (by omega), h.out.y.set3⟩, h.out.y.c3, h.out.y.f 3⟩
theorem SR.ys {pl ps : Nat} {w W : World} {ws : List (List UInt8)} {a b c d : Value} (h : Hid (SR pl ps w W ws a b c d)) : (W.cell? ⟨w.heap.size + 1, 0, none⟩ = some a ∧ W.cell? ⟨w.heap.size + 1, 1, none⟩ = some b ∧ W.cell? ⟨w.heap.size + 1, 2, none⟩ = some c ∧ W.cell? ⟨w.heap.size + 1, 3, none⟩ = some d) ∧ (W.cell? ⟨w.heap.size, 0, none⟩ = some (.int .i64 0) ∧ W.cell? ⟨w.heap.size, 1, none⟩ = some (.bool false) ∧ W.cell? ⟨w.heap.size, 2, none⟩ = some (.string ⟨#[]⟩) ∧ W.cell? ⟨w.heap.size, 3, none⟩ = some (.int .i64 0)) ∧ W.frozen? ⟨w.heap.size, 0, none⟩ = false ∧ W.frozen? ⟨w.heap.size, 1, none⟩ = false ∧ W.frozen? ⟨w.heap.size, 2, none⟩ = false ∧ W.frozen? ⟨w.heap.size, 3, none⟩ = false :=
  ⟨⟨h.out.y.c0, h.out.y.c1, h.out.y.c2, h.out.y.c3⟩, ⟨h.out.x.c0, h.out.x.c1, h.out.x.c2, h.out.x.c3⟩, h.out.x.f 0, h.out.x.f 1, h.out.x.f 2, h.out.x.f 3⟩
theorem SR.fin {pl ps : Nat} {w W : World} {ws : List (List UInt8)} {a b c d : Value} (h : Hid (SR pl ps w W ws a b c d)) : Hid (∃ WF, (((W.setCell ⟨w.heap.size, 0, none⟩ a).setCell ⟨w.heap.size, 1, none⟩ b).setCell ⟨w.heap.size, 2, none⟩ c).setCell ⟨w.heap.size, 3, none⟩ d = WF ∧ Left w WF pl ps ws ∧ WF.cell? ⟨w.heap.size, 0, none⟩ = some a ∧ WF.cell? ⟨w.heap.size, 1, none⟩ = some b ∧ WF.cell? ⟨w.heap.size, 2, none⟩ = some c ∧ WF.cell? ⟨w.heap.size, 3, none⟩ = some d) := by
  have q := h.out.x.set0 (v := a) |>.set1 (v := b) |>.set2 (v := c) |>.set3 (v := d)
  have n := h.out.nl.1
  exact ⟨_, rfl, ⟨(((h.out.rd.set n.1 n.2).set n.1 n.2).set n.1 n.2).set n.1 n.2, (((h.out.bs.set (Nat.le_refl _)).set (Nat.le_refl _)).set (Nat.le_refl _)).set (Nat.le_refl _)⟩, q.c0, q.c1, q.c2, q.c3⟩
theorem Rd.nel {w : World} {pl ps : Nat} {ws : List (List UInt8)} (h : Rd w pl ps ws) : w.heap.size ≠ pl ∧ w.heap.size ≠ ps := by
  have := h.lt
  exact ⟨by omega, by omega⟩
theorem Bs2.tab {p q b : Nat} {w w' : World} {L : List (List UInt8)} (hb : Bs2 p q w w') (h : ∀ j, j < L.length → w.cell? ⟨b, j, none⟩ = some (.string ⟨(L.getD j []).toArray⟩)) (hn : b ≠ p ∧ b ≠ q) : ∀ j, j < L.length → w'.cell? ⟨b, j, none⟩ = some (.string ⟨(L.getD j []).toArray⟩) :=
  fun j hj => hb.cell (h j hj) hn.1 hn.2
end Go.Proofs.YthaebbmekonacaaGreatDoor

set_option linter.unusedVariables false
set_option linter.unusedSimpArgs false
set_option maxRecDepth 100000
namespace Go.Proofs.YthaebbmekonacaaGreatDoor
open Go.RowKit
/-- Where the reading of an action stands. -/
structure AR (pl ps : Nat) (w W : World) (ws : List (List UInt8)) : Prop where
  nl : w.heap.size ≠ pl ∧ w.heap.size ≠ ps
  bs : Bs2 pl ps w W
  rd : Rd W pl ps ws
  x : C4 W w.heap.size (.int .i64 0) (.string ⟨#[]⟩) (.int .u32 0) (.string ⟨#[]⟩)
theorem AR.new {pl ps : Nat} {w : World} {ws : List (List UInt8)} (hr : Rd w pl ps ws) : ∃ W1, w.alloc (.cells #[.int .i64 0, .string ⟨#[]⟩, .int .u32 0, .string ⟨#[]⟩] 40) = W1 ∧ Hid (AR pl ps w W1 ws) := by
  have hl := hr.lt
  have bb := (Below.refl w.heap.size w).alloc (Nat.le_refl _) (.cells #[.int .i64 0, .string ⟨#[]⟩, .int .u32 0, .string ⟨#[]⟩] 40)
  exact ⟨_, rfl, ⟨⟨by omega, by omega⟩, Bs2.of_below bb, hr.below bb, C4.new w 40 _ _ _ _⟩⟩
theorem AR.nxt {pl ps : Nat} {w W W' : World} {ws ws' : List (List UInt8)} (h : Hid (AR pl ps w W ws)) (hr : Rd W' pl ps ws') (hb : Bs2 pl ps W W') : Hid (AR pl ps w W' ws') :=
  ⟨h.out.nl, h.out.bs.trans hb, hr, h.out.x.bs2 hb h.out.nl.1 h.out.nl.2⟩
theorem AR.bel {pl ps : Nat} {w W W' : World} {ws : List (List UInt8)} (h : Hid (AR pl ps w W ws)) (hb : Below W.heap.size W W') : Hid (AR pl ps w W' ws) :=
  AR.nxt h (h.out.rd.below hb) (Bs2.of_below hb)
/-- The same, with the block of the action itself. -/
structure AC (pl ps cb : Nat) (w W : World) (ws : List (List UInt8)) (a b c d : Value) : Prop where
  r : AR pl ps w W ws
  nc : (cb ≠ pl ∧ cb ≠ ps) ∧ w.heap.size ≤ cb ∧ cb ≠ w.heap.size
  y : C4 W cb a b c d
theorem AC.new {pl ps : Nat} {w W : World} {ws : List (List UInt8)} (h : Hid (AR pl ps w W ws)) (a b c d : Value) : Hid (AC pl ps W.heap.size w (W.alloc (.cells #[a, b, c, d] 40)) ws a b c d) := by
  have hl := h.out.rd.lt
  have hs := lt_of_cell h.out.x.c0
  exact ⟨AR.bel h ((Below.refl _ _).alloc (Nat.le_refl _) _), ⟨⟨by omega, by omega⟩, by omega, by omega⟩, C4.new _ 40 _ _ _ _⟩
theorem AC.nxt {pl ps cb : Nat} {w W W' : World} {ws ws' : List (List UInt8)} {a b c d : Value} (h : Hid (AC pl ps cb w W ws a b c d)) (hr : Rd W' pl ps ws') (hb : Bs2 pl ps W W') : Hid (AC pl ps cb w W' ws' a b c d) :=
  ⟨AR.nxt h.out.r hr hb, h.out.nc, h.out.y.bs2 hb h.out.nc.1.1 h.out.nc.1.2⟩
theorem AC.bel {pl ps cb : Nat} {w W W' : World} {ws : List (List UInt8)} {a b c d : Value} (h : Hid (AC pl ps cb w W ws a b c d)) (hb : Below W.heap.size W W') : Hid (AC pl ps cb w W' ws a b c d) :=
  AC.nxt h (h.out.r.rd.below hb) (Bs2.of_below hb)
theorem AC.s1 {pl ps cb : Nat} {w W : World} {ws : List (List UInt8)} {a b c d : Value} (h : Hid (AC pl ps cb w W ws a b c d)) (v : Value) : ∃ W', W.setCell ⟨cb, 1, none⟩ v = W' ∧ Hid (AC pl ps cb w W' ws a v c d) ∧ W.cell? ⟨cb, 1, none⟩ = some b ∧ W.frozen? ⟨cb, 1, none⟩ = false :=
  ⟨_, rfl, ⟨⟨h.out.r.nl, h.out.r.bs.set h.out.nc.2.1, h.out.r.rd.set h.out.nc.1.1 h.out.nc.1.2, h.out.r.x.other h.out.nc.2.2⟩, h.out.nc, h.out.y.set1⟩, h.out.y.c1, h.out.y.f 1⟩
theorem AC.s2 {pl ps cb : Nat} {w W : World} {ws : List (List UInt8)} {a b c d : Value} (h : Hid (AC pl ps cb w W ws a b c d)) (v : Value) : ∃ W', W.setCell ⟨cb, 2, none⟩ v = W' ∧ Hid (AC pl ps cb w W' ws a b v d) ∧ W.cell? ⟨cb, 2, none⟩ = some c ∧ W.frozen? ⟨cb, 2, none⟩ = false :=
  ⟨_, rfl, ⟨⟨h.out.r.nl, h.out.r.bs.set h.out.nc.2.1, h.out.r.rd.set h.out.nc.1.1 h.out.nc.1.2, h.out.r.x.other h.out.nc.2.2⟩, h.out.nc, h.out.y.set2⟩, h.out.y.c2, h.out.y.f 2⟩
theorem AC.s3 {pl ps cb : Nat} {w W : World} {ws : List (List UInt8)} {a b c d : Value} (h : Hid (AC pl ps cb w W ws a b c d)) (v : Value) : ∃ W', W.setCell ⟨cb, 3, none⟩ v = W' ∧ Hid (AC pl ps cb w W' ws a b c v) ∧ W.cell? ⟨cb, 3, none⟩ = some d ∧ W.frozen? ⟨cb, 3, none⟩ = false :=
  ⟨_, rfl, ⟨⟨h.out.r.nl, h.out.r.bs.set h.out.nc.2.1, h.out.r.rd.set h.out.nc.1.1 h.out.nc.1.2, h.out.r.x.other h.out.nc.2.2⟩, h.out.nc, h.out.y.set3⟩, h.out.y.c3, h.out.y.f 3⟩
theorem AC.ys {pl ps cb : Nat} {w W : World} {ws : List (List UInt8)} {a b c d : Value} (h : Hid (AC pl ps cb w W ws a b c d)) : (W.cell? ⟨cb, 0, none⟩ = some a ∧ W.cell? ⟨cb, 1, none⟩ = some b ∧ W.cell? ⟨cb, 2, none⟩ = some c ∧ W.cell? ⟨cb, 3, none⟩ = some d) ∧ (W.cell? ⟨w.heap.size, 0, none⟩ = some (.int .i64 0) ∧ W.cell? ⟨w.heap.size, 1, none⟩ = some (.string ⟨#[]⟩) ∧ W.cell? ⟨w.heap.size, 2, none⟩ = some (.int .u32 0) ∧ W.cell? ⟨w.heap.size, 3, none⟩ = some (.string ⟨#[]⟩)) ∧ W.frozen? ⟨w.heap.size, 0, none⟩ = false ∧ W.frozen? ⟨w.heap.size, 1, none⟩ = false ∧ W.frozen? ⟨w.heap.size, 2, none⟩ = false ∧ W.frozen? ⟨w.heap.size, 3, none⟩ = false :=
  ⟨⟨h.out.y.c0, h.out.y.c1, h.out.y.c2, h.out.y.c3⟩, ⟨h.out.r.x.c0, h.out.r.x.c1, h.out.r.x.c2, h.out.r.x.c3⟩, h.out.r.x.f 0, h.out.r.x.f 1, h.out.r.x.f 2, h.out.r.x.f 3⟩
theorem AC.fin {pl ps cb : Nat} {w W : World} {ws : List (List UInt8)} {a b c d : Value} (h : Hid (AC pl ps cb w W ws a b c d)) : Hid (∃ WF, (((W.setCell ⟨w.heap.size, 0, none⟩ a).setCell ⟨w.heap.size, 1, none⟩ b).setCell ⟨w.heap.size, 2, none⟩ c).setCell ⟨w.heap.size, 3, none⟩ d = WF ∧ Left w WF pl ps ws ∧ WF.cell? ⟨w.heap.size, 0, none⟩ = some a ∧ WF.cell? ⟨w.heap.size, 1, none⟩ = some b ∧ WF.cell? ⟨w.heap.size, 2, none⟩ = some c ∧ WF.cell? ⟨w.heap.size, 3, none⟩ = some d) := by
  have q := h.out.r.x.set0 (v := a) |>.set1 (v := b) |>.set2 (v := c) |>.set3 (v := d)
  have n := h.out.r.nl
  exact ⟨_, rfl, ⟨(((h.out.r.rd.set n.1 n.2).set n.1 n.2).set n.1 n.2).set n.1 n.2, (((h.out.r.bs.set (Nat.le_refl _)).set (Nat.le_refl _)).set (Nat.le_refl _)).set (Nat.le_refl _)⟩, q.c0, q.c1, q.c2, q.c3⟩
end Go.Proofs.YthaebbmekonacaaGreatDoor
