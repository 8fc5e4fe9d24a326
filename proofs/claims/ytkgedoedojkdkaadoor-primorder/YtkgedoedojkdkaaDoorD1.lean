/-
  PrimOrder: the first statement, in whatever order; then the rest.
-/
import Derived.Test.YtkgedoedojkdkaaDoorO7
import Derived.Test.YtkgedoedojkdkaaDoorM1
import Derived.Test.YtkgedoedojkdkaaDoorC1
import Derived.Deep.QuietTactic
import Derived.BigQuiet
namespace Go.Proofs.YtkgedoedojkdkaaDoor
open Go.RowKit
/-- The three raw arguments lie in their boxes, the tables where they are, and nothing that was there is changed. -/
structure Bx3 (w0 : World) (X Y Z : Array Value) (w : World) : Prop where
  x : w.heap[w0.heap.size]? = some (.cells X 43 (0, 0))
  y : w.heap[w0.heap.size + 1]? = some (.cells Y 43 (0, 0))
  z : w.heap[w0.heap.size + 1 + 1]? = some (.cells Z 43 (0, 0))
  tabs : Tabs w
  bel : Below w0.heap.size w0 w
theorem Bx3.belowS {w0 : World} {X Y Z : Array Value} {w w' : World} (h : Held (Bx3 w0 X Y Z) w) (hb : Below w.heap.size w w') : Held (Bx3 w0 X Y Z) w' :=
  ⟨(hb.block _ (lt_of_heap (Bx3.x h))).trans (Bx3.x h), (hb.block _ (lt_of_heap (Bx3.y h))).trans (Bx3.y h), (hb.block _ (lt_of_heap (Bx3.z h))).trans (Bx3.z h), (Bx3.tabs h).below hb, (Bx3.bel h).trans (hb.mono (Bx3.bel h).size)⟩
theorem Bx3.set {w0 : World} {X Y Z : Array Value} {w : World} (h : Held (Bx3 w0 X Y Z) w) {a : Addr} (ha : w0.heap.size + 1 + 1 + 1 ≤ a.block) (ht : 3 < w0.heap.size) (v : Value) : Held (Bx3 w0 X Y Z) (w.setCell a v) := by
  obtain ⟨⟨t, fr, h0⟩, ⟨t1, fr1, h1⟩, ⟨m, h3⟩⟩ := Bx3.tabs h
  refine ⟨by rw [Below.heap_setCell _ _ _ _ (by omega)]; exact Bx3.x h, by rw [Below.heap_setCell _ _ _ _ (by omega)]; exact Bx3.y h, by rw [Below.heap_setCell _ _ _ _ (by omega)]; exact Bx3.z h, ⟨⟨t, fr, by rw [Below.heap_setCell _ _ _ _ (by omega)]; exact h0⟩, ⟨t1, fr1, by rw [Below.heap_setCell _ _ _ _ (by omega)]; exact h1⟩, ⟨m, ?_⟩⟩, (Bx3.bel h).setCell (by omega) v⟩
  rw [World.cell?_setCell_other _ _ _ _ (by intro e; rw [e] at ha; exact absurd (Nat.le_trans (Nat.le_add_right (w0.heap.size) 3) ha) (Nat.not_le.2 ht))]; exact h3
theorem heap3_1 (w : World) (a b c : Obj) : (((w.alloc a).alloc b).alloc c).heap[w.heap.size]? = some a := by
  have h := ((Below.refl ((w.alloc a).alloc b).heap.size ((w.alloc a).alloc b)).alloc (Nat.le_refl _) c).block w.heap.size (by simp; omega)
  rw [h]; exact heap_at1 _ _ _
theorem heap3_2 (w : World) (a b c : Obj) : (((w.alloc a).alloc b).alloc c).heap[w.heap.size + 1]? = some b := by
  have h := ((Below.refl ((w.alloc a).alloc b).heap.size ((w.alloc a).alloc b)).alloc (Nat.le_refl _) c).block (w.heap.size + 1) (by simp)
  rw [h]; exact heap_at2 _ _ _
theorem heap3_3 (w : World) (a b c : Obj) : (((w.alloc a).alloc b).alloc c).heap[w.heap.size + 1 + 1]? = some c := by
  have h := heap_at2 (w.alloc a) b c
  simpa using h
/-- What holds of memory behind the first statement. -/
structure OrdAt (w : World) (b7 b8 b9 : Nat) (fa ra : Int) (sa : ByteArray) (la fb rb : Int) (sb : ByteArray) (lb fc rc : Int) (sc : ByteArray) (lc : Int) (w' : World) : Prop where
  a : PfxAt w' b7 fa ra sa la
  b : PfxAt w' b8 fb rb sb lb
  c : PfxAt w' b9 fc rc sc lc
  t : Tabs w'
  z : Below w.heap.size w w'
theorem OrdAt.below {w w' w2 : World} {b7 b8 b9 : Nat} {fa ra : Int} {sa : ByteArray} {la fb rb : Int} {sb : ByteArray} {lb fc rc : Int} {sc : ByteArray} {lc : Int} (h : Held (OrdAt w b7 b8 b9 fa ra sa la fb rb sb lb fc rc sc lc) w') (hb : Below w'.heap.size w' w2) : Held (OrdAt w b7 b8 b9 fa ra sa la fb rb sb lb fc rc sc lc) w2 :=
  ⟨(OrdAt.a h).kept hb (lt_of_cell (OrdAt.a h).c0), (OrdAt.b h).kept hb (lt_of_cell (OrdAt.b h).c0), (OrdAt.c h).kept hb (lt_of_cell (OrdAt.c h).c0), (OrdAt.t h).below hb, (OrdAt.z h).trans (hb.mono (OrdAt.z h).size)⟩
set_option maxRecDepth 100000 in
set_option maxHeartbeats 16000000 in
theorem order_core (X Y Z : Array Value) (w : World) (h : Tabs w) (zx : X.size = 19) (zy : Y.size = 19) (zz : Z.size = 19)
    (kx : ∀ w', Tabs w' → Calls Tryd.prog 30 #[.agg X] w' fun e w2 => ∃ v, e = .returned v ∧ Good v ∧ Below w'.heap.size w' w2)
    (ky : ∀ w', Tabs w' → Calls Tryd.prog 30 #[.agg Y] w' fun e w2 => ∃ v, e = .returned v ∧ Good v ∧ Below w'.heap.size w' w2)
    (kz : ∀ w', Tabs w' → Calls Tryd.prog 30 #[.agg Z] w' fun e w2 => ∃ v, e = .returned v ∧ Good v ∧ Below w'.heap.size w' w2) :
    Calls Tryd.prog 6 #[.agg X, .agg Y, .agg Z] w fun e w' => e = .returned (.bool true) ∧ Below w.heap.size w w' := by
  have ht : 3 < w.heap.size := by obtain ⟨_, _, ⟨m, h3⟩⟩ := h; exact lt_of_cell h3
  have KX : Hid (_ : Prop) := kx
  have KY : Hid (_ : Prop) := ky
  have KZ : Hid (_ : Prop) := kz
  clear kx ky kz
  have hb : Below w.heap.size w (((w.alloc (.cells X 43)).alloc (.cells Y 43)).alloc (.cells Z 43)) := (((Below.refl _ _).alloc (Nat.le_refl _) _).alloc (by simp) _).alloc (by simp; omega) _
  have hS : Held (Bx3 w X Y Z) (((w.alloc (.cells X 43)).alloc (.cells Y 43)).alloc (.cells Z 43)) := ⟨heap3_1 _ _ _ _, heap3_2 _ _ _ _, heap3_3 _ _ _ _, h.below hb, hb⟩
  have HS : Hid (Held _ _) := hS
  clear hS hb h
  go_enter Tryd.func6, Tryd.ntmps6
  go_wp2_with fail
  refine three_region (S := Bx3 w X Y Z) (base := w.heap.size + 1 + 1 + 1) (bx := w.heap.size) (by' := w.heap.size + 1) (bz := w.heap.size + 1 + 1) (X := X) (Y := Y) (Z := Z) mixed rfl rfl rfl rfl rfl rfl rfl rfl rfl rfl rfl rfl rfl rfl rfl rfl rfl rfl rfl rfl rfl rfl rfl rfl rfl rfl rfl rfl rfl rfl rfl rfl rfl rfl rfl rfl rfl rfl rfl rfl rfl rfl rfl rfl rfl rfl rfl rfl rfl hr6 hf6 rfl rfl rfl (by simp) (by rw [zx]; exact info43) (by rw [zy]; exact info43) (by rw [zz]; exact info43)
    (fun w' h => Bx3.x h) (fun w' h => Bx3.y h) (fun w' h => Bx3.z h) (fun w' w2 h hb => Bx3.belowS h hb) (fun w' p v h hp => Bx3.set h hp ht v) (fun w' h => lt_of_heap (Bx3.z h)) (fun w' h => KX.out w' (Bx3.tabs h)) (fun w' h => KY.out w' (Bx3.tabs h)) (fun w' h => KZ.out w' (Bx3.tabs h)) (Bx3.belowS HS.out (Below.refl _ _).drew) ?_
  intro x13 x15 x17 b7 b8 b9 fa ra sa la fb rb sb lb fc rc sc lc wc pa0 pb0 pc0 ca cb cc hS0
  have hS1 : Held (OrdAt w b7 b8 b9 fa ra sa la fb rb sb lb fc rc sc lc) wc := ⟨pa0, pb0, pc0, Bx3.tabs hS0, Bx3.bel hS0⟩
  clear hS0 HS KX KY KZ pa0 pb0 pc0 cb cc
  have CA : Hid (chk fa ra sa la = 0) := ca
  clear ca
  have BD := pcmp_bd fa ra sa la fb rb sb lb
  have TR := pcmp_trans fa ra sa la fb rb sb lb fc rc sc lc
  by_cases hm : pcmp fa ra sa la fb rb sb lb = 0
  · obtain ⟨q1, q2, q3, q4⟩ := pcmp_zero.1 hm
    have q5 : sa = sb := by rw [ByteArray.toList_eq, ByteArray.toList_eq] at q3; exact ByteArray.ext (Array.ext' q3)
    subst q1
    subst q2
    subst q4
    subst q5
    clear hm BD TR q3
    have ra0 : ∀ w', Held (OrdAt w b7 b8 b9 fa ra sa la fa ra sa la fc rc sc lc) w' → w'.cell? ⟨b7, 0, none⟩ = some (.int .i64 fa) := fun w' h => (OrdAt.a h).c0
    have ra1 : ∀ w', Held (OrdAt w b7 b8 b9 fa ra sa la fa ra sa la fc rc sc lc) w' → w'.cell? ⟨b7, 1, none⟩ = some (.int .u64 ra) := fun w' h => (OrdAt.a h).c1
    have ra2 : ∀ w', Held (OrdAt w b7 b8 b9 fa ra sa la fa ra sa la fc rc sc lc) w' → w'.cell? ⟨b7, 2, none⟩ = some (.string sa) := fun w' h => (OrdAt.a h).c2
    have ra3 : ∀ w', Held (OrdAt w b7 b8 b9 fa ra sa la fa ra sa la fc rc sc lc) w' → w'.cell? ⟨b7, 3, none⟩ = some (.int .i64 la) := fun w' h => (OrdAt.a h).c3
    have rb0 : ∀ w', Held (OrdAt w b7 b8 b9 fa ra sa la fa ra sa la fc rc sc lc) w' → w'.cell? ⟨b8, 0, none⟩ = some (.int .i64 fa) := fun w' h => (OrdAt.b h).c0
    have rb1 : ∀ w', Held (OrdAt w b7 b8 b9 fa ra sa la fa ra sa la fc rc sc lc) w' → w'.cell? ⟨b8, 1, none⟩ = some (.int .u64 ra) := fun w' h => (OrdAt.b h).c1
    have rb2 : ∀ w', Held (OrdAt w b7 b8 b9 fa ra sa la fa ra sa la fc rc sc lc) w' → w'.cell? ⟨b8, 2, none⟩ = some (.string sa) := fun w' h => (OrdAt.b h).c2
    have rb3 : ∀ w', Held (OrdAt w b7 b8 b9 fa ra sa la fa ra sa la fc rc sc lc) w' → w'.cell? ⟨b8, 3, none⟩ = some (.int .i64 la) := fun w' h => (OrdAt.b h).c3
    have rc0 : ∀ w', Held (OrdAt w b7 b8 b9 fa ra sa la fa ra sa la fc rc sc lc) w' → w'.cell? ⟨b9, 0, none⟩ = some (.int .i64 fc) := fun w' h => (OrdAt.c h).c0
    have rc1 : ∀ w', Held (OrdAt w b7 b8 b9 fa ra sa la fa ra sa la fc rc sc lc) w' → w'.cell? ⟨b9, 1, none⟩ = some (.int .u64 rc) := fun w' h => (OrdAt.c h).c1
    have rc2 : ∀ w', Held (OrdAt w b7 b8 b9 fa ra sa la fa ra sa la fc rc sc lc) w' → w'.cell? ⟨b9, 2, none⟩ = some (.string sc) := fun w' h => (OrdAt.c h).c2
    have rc3 : ∀ w', Held (OrdAt w b7 b8 b9 fa ra sa la fa ra sa la fc rc sc lc) w' → w'.cell? ⟨b9, 3, none⟩ = some (.int .i64 lc) := fun w' h => (OrdAt.c h).c3
    obtain ⟨m3, KAC⟩ : ∃ m3 : Int, Hid (∀ w', Held (OrdAt w b7 b8 b9 fa ra sa la fa ra sa la fc rc sc lc) w' → Calls Tryd.prog 11 #[.agg #[.int .i64 fa, .int .u64 ra, .string sa, .int .i64 la], .agg #[.int .i64 fc, .int .u64 rc, .string sc, .int .i64 lc]] w' fun e w2 => e = .returned (.int .i64 m3) ∧ Held (OrdAt w b7 b8 b9 fa ra sa la fa ra sa la fc rc sc lc) w2) := ⟨_, fun w' h => (cmp_any fa ra sa la fc rc sc lc w').mono fun _ _ ⟨h1, h2⟩ => ⟨h1, OrdAt.below h h2⟩⟩
    have KAA : Hid (∀ w', Held (OrdAt w b7 b8 b9 fa ra sa la fa ra sa la fc rc sc lc) w' → Calls Tryd.prog 11 #[.agg #[.int .i64 fa, .int .u64 ra, .string sa, .int .i64 la], .agg #[.int .i64 fa, .int .u64 ra, .string sa, .int .i64 la]] w' fun e w2 => e = .returned (.int .i64 0) ∧ Held (OrdAt w b7 b8 b9 fa ra sa la fa ra sa la fc rc sc lc) w2) := fun w' h => by
      have := cmp_any fa ra sa la fa ra sa la w'
      rw [pcmp_self] at this
      exact this.mono fun _ _ ⟨h1, h2⟩ => ⟨h1, OrdAt.below h h2⟩
    have K9 : Hid (∀ w', Held (OrdAt w b7 b8 b9 fa ra sa la fa ra sa la fc rc sc lc) w' → Calls Tryd.prog 9 #[.agg #[.int .i64 fa, .int .u64 ra, .string sa, .int .i64 la]] w' fun e w2 => e = .returned (.int .i64 0) ∧ Held (OrdAt w b7 b8 b9 fa ra sa la fa ra sa la fc rc sc lc) w2) := fun w' h => by
      have := check_any fa ra sa la w' (OrdAt.t h).sizes (OrdAt.t h).rds
      rw [CA.out] at this
      exact this.mono fun _ _ ⟨h1, h2⟩ => ⟨h1, OrdAt.below h h2⟩
    have K19 : Hid (∀ w', Held (OrdAt w b7 b8 b9 fa ra sa la fa ra sa la fc rc sc lc) w' → Calls Tryd.prog 19 #[] w' fun e w2 => e = .returned (.bool true) ∧ Held (OrdAt w b7 b8 b9 fa ra sa la fa ra sa la fc rc sc lc) w2) := fun w' h => (works_any w' (OrdAt.t h)).mono fun _ _ ⟨h1, h2⟩ => ⟨h1, OrdAt.below h h2⟩
    have HZ : Hid (∀ w', Held (OrdAt w b7 b8 b9 fa ra sa la fa ra sa la fc rc sc lc) w' → Below w.heap.size w w') := fun w' h => OrdAt.z h
    have HD : Hid (∀ w', Held (OrdAt w b7 b8 b9 fa ra sa la fa ra sa la fc rc sc lc) w' → Held (OrdAt w b7 b8 b9 fa ra sa la fa ra sa la fc rc sc lc) w'.drew) := fun w' h => OrdAt.below h (Below.refl _ _).drew
    clear CA
    generalize OrdAt w b7 b8 b9 fa ra sa la fa ra sa la fc rc sc lc = S at *
    have hS2 := HD.out wc hS1
    go_wp2_with fail
    go_region_held3 (fun w' => Held S w') (with_reducible assumption) (first | (go_at_call_of 11 ([Value.agg #[Value.int .i64 fa, Value.int .u64 ra, Value.string sa, Value.int .i64 la], Value.agg #[Value.int .i64 fa, Value.int .u64 ra, Value.string sa, Value.int .i64 la]]); refine (KAA.out _ (by with_reducible assumption)).mono ?_; rintro e u ⟨rfl, su⟩) | (go_at_call_of 11 ([Value.agg #[Value.int .i64 fa, Value.int .u64 ra, Value.string sa, Value.int .i64 la], Value.agg #[Value.int .i64 fc, Value.int .u64 rc, Value.string sc, Value.int .i64 lc]]); refine (KAC.out _ (by with_reducible assumption)).mono ?_; rintro e u ⟨rfl, su⟩) | (go_at_call 9; refine (K9.out _ (by with_reducible assumption)).mono ?_; rintro e u ⟨rfl, su⟩) | (go_at_call 19; refine (K19.out _ (by with_reducible assumption)).mono ?_; rintro e u ⟨rfl, su⟩))
    go_wp2_with (first | (go_at_call_of 11 ([Value.agg #[Value.int .i64 fa, Value.int .u64 ra, Value.string sa, Value.int .i64 la], Value.agg #[Value.int .i64 fa, Value.int .u64 ra, Value.string sa, Value.int .i64 la]]); refine (KAA.out _ (by with_reducible assumption)).mono ?_; rintro e u ⟨rfl, su⟩) | (go_at_call_of 11 ([Value.agg #[Value.int .i64 fa, Value.int .u64 ra, Value.string sa, Value.int .i64 la], Value.agg #[Value.int .i64 fc, Value.int .u64 rc, Value.string sc, Value.int .i64 lc]]); refine (KAC.out _ (by with_reducible assumption)).mono ?_; rintro e u ⟨rfl, su⟩) | (go_at_call 9; refine (K9.out _ (by with_reducible assumption)).mono ?_; rintro e u ⟨rfl, su⟩) | (go_at_call 19; refine (K19.out _ (by with_reducible assumption)).mono ?_; rintro e u ⟨rfl, su⟩))
    all_goals go_ret
    all_goals exact ⟨rfl, HZ.out _ (by with_reducible assumption)⟩
  · have hm0 := hm
    have ra0 : ∀ w', Held (OrdAt w b7 b8 b9 fa ra sa la fb rb sb lb fc rc sc lc) w' → w'.cell? ⟨b7, 0, none⟩ = some (.int .i64 fa) := fun w' h => (OrdAt.a h).c0
    have ra1 : ∀ w', Held (OrdAt w b7 b8 b9 fa ra sa la fb rb sb lb fc rc sc lc) w' → w'.cell? ⟨b7, 1, none⟩ = some (.int .u64 ra) := fun w' h => (OrdAt.a h).c1
    have ra2 : ∀ w', Held (OrdAt w b7 b8 b9 fa ra sa la fb rb sb lb fc rc sc lc) w' → w'.cell? ⟨b7, 2, none⟩ = some (.string sa) := fun w' h => (OrdAt.a h).c2
    have ra3 : ∀ w', Held (OrdAt w b7 b8 b9 fa ra sa la fb rb sb lb fc rc sc lc) w' → w'.cell? ⟨b7, 3, none⟩ = some (.int .i64 la) := fun w' h => (OrdAt.a h).c3
    have rb0 : ∀ w', Held (OrdAt w b7 b8 b9 fa ra sa la fb rb sb lb fc rc sc lc) w' → w'.cell? ⟨b8, 0, none⟩ = some (.int .i64 fb) := fun w' h => (OrdAt.b h).c0
    have rb1 : ∀ w', Held (OrdAt w b7 b8 b9 fa ra sa la fb rb sb lb fc rc sc lc) w' → w'.cell? ⟨b8, 1, none⟩ = some (.int .u64 rb) := fun w' h => (OrdAt.b h).c1
    have rb2 : ∀ w', Held (OrdAt w b7 b8 b9 fa ra sa la fb rb sb lb fc rc sc lc) w' → w'.cell? ⟨b8, 2, none⟩ = some (.string sb) := fun w' h => (OrdAt.b h).c2
    have rb3 : ∀ w', Held (OrdAt w b7 b8 b9 fa ra sa la fb rb sb lb fc rc sc lc) w' → w'.cell? ⟨b8, 3, none⟩ = some (.int .i64 lb) := fun w' h => (OrdAt.b h).c3
    have rc0 : ∀ w', Held (OrdAt w b7 b8 b9 fa ra sa la fb rb sb lb fc rc sc lc) w' → w'.cell? ⟨b9, 0, none⟩ = some (.int .i64 fc) := fun w' h => (OrdAt.c h).c0
    have rc1 : ∀ w', Held (OrdAt w b7 b8 b9 fa ra sa la fb rb sb lb fc rc sc lc) w' → w'.cell? ⟨b9, 1, none⟩ = some (.int .u64 rc) := fun w' h => (OrdAt.c h).c1
    have rc2 : ∀ w', Held (OrdAt w b7 b8 b9 fa ra sa la fb rb sb lb fc rc sc lc) w' → w'.cell? ⟨b9, 2, none⟩ = some (.string sc) := fun w' h => (OrdAt.c h).c2
    have rc3 : ∀ w', Held (OrdAt w b7 b8 b9 fa ra sa la fb rb sb lb fc rc sc lc) w' → w'.cell? ⟨b9, 3, none⟩ = some (.int .i64 lc) := fun w' h => (OrdAt.c h).c3
    obtain ⟨m1, n1, m2, m3, hn, hm, BD, TR, KAB, KBC, KAC, KBA⟩ : ∃ m1 n1 m2 m3 : Int, n1 = -m1 ∧ m1 ≠ 0 ∧ (-1 ≤ m1 ∧ m1 ≤ 1) ∧ (m1 ≤ 0 → m2 ≤ 0 → m3 ≤ 0) ∧ Hid (∀ w', Held (OrdAt w b7 b8 b9 fa ra sa la fb rb sb lb fc rc sc lc) w' → Calls Tryd.prog 11 #[.agg #[.int .i64 fa, .int .u64 ra, .string sa, .int .i64 la], .agg #[.int .i64 fb, .int .u64 rb, .string sb, .int .i64 lb]] w' fun e w2 => e = .returned (.int .i64 m1) ∧ Held (OrdAt w b7 b8 b9 fa ra sa la fb rb sb lb fc rc sc lc) w2) ∧ Hid (∀ w', Held (OrdAt w b7 b8 b9 fa ra sa la fb rb sb lb fc rc sc lc) w' → Calls Tryd.prog 11 #[.agg #[.int .i64 fb, .int .u64 rb, .string sb, .int .i64 lb], .agg #[.int .i64 fc, .int .u64 rc, .string sc, .int .i64 lc]] w' fun e w2 => e = .returned (.int .i64 m2) ∧ Held (OrdAt w b7 b8 b9 fa ra sa la fb rb sb lb fc rc sc lc) w2) ∧ Hid (∀ w', Held (OrdAt w b7 b8 b9 fa ra sa la fb rb sb lb fc rc sc lc) w' → Calls Tryd.prog 11 #[.agg #[.int .i64 fa, .int .u64 ra, .string sa, .int .i64 la], .agg #[.int .i64 fc, .int .u64 rc, .string sc, .int .i64 lc]] w' fun e w2 => e = .returned (.int .i64 m3) ∧ Held (OrdAt w b7 b8 b9 fa ra sa la fb rb sb lb fc rc sc lc) w2) ∧ Hid (∀ w', Held (OrdAt w b7 b8 b9 fa ra sa la fb rb sb lb fc rc sc lc) w' → Calls Tryd.prog 11 #[.agg #[.int .i64 fb, .int .u64 rb, .string sb, .int .i64 lb], .agg #[.int .i64 fa, .int .u64 ra, .string sa, .int .i64 la]] w' fun e w2 => e = .returned (.int .i64 n1) ∧ Held (OrdAt w b7 b8 b9 fa ra sa la fb rb sb lb fc rc sc lc) w2) := ⟨_, _, _, _, rfl, hm, BD, TR, fun w' h => (cmp_any fa ra sa la fb rb sb lb w').mono fun _ _ ⟨h1, h2⟩ => ⟨h1, OrdAt.below h h2⟩, fun w' h => (cmp_any fb rb sb lb fc rc sc lc w').mono fun _ _ ⟨h1, h2⟩ => ⟨h1, OrdAt.below h h2⟩, fun w' h => (cmp_any fa ra sa la fc rc sc lc w').mono fun _ _ ⟨h1, h2⟩ => ⟨h1, OrdAt.below h h2⟩, fun w' h => by
      have := cmp_any fb rb sb lb fa ra sa la w'
      rw [pcmp_neg fa ra sa la fb rb sb lb] at this
      exact this.mono fun _ _ ⟨h1, h2⟩ => ⟨h1, OrdAt.below h h2⟩⟩
    have NE : ¬ (fa = fb ∧ ra = rb ∧ sa.toList = sb.toList ∧ la = lb) := fun h => hm0 (pcmp_zero.2 h)
    have KAA : Hid (∀ w', Held (OrdAt w b7 b8 b9 fa ra sa la fb rb sb lb fc rc sc lc) w' → Calls Tryd.prog 11 #[.agg #[.int .i64 fa, .int .u64 ra, .string sa, .int .i64 la], .agg #[.int .i64 fa, .int .u64 ra, .string sa, .int .i64 la]] w' fun e w2 => e = .returned (.int .i64 0) ∧ Held (OrdAt w b7 b8 b9 fa ra sa la fb rb sb lb fc rc sc lc) w2) := fun w' h => by
      have := cmp_any fa ra sa la fa ra sa la w'
      rw [pcmp_self] at this
      exact this.mono fun _ _ ⟨h1, h2⟩ => ⟨h1, OrdAt.below h h2⟩
    have K9 : Hid (∀ f r w', f = fa → r = ra → Held (OrdAt w b7 b8 b9 fa ra sa la fb rb sb lb fc rc sc lc) w' → Calls Tryd.prog 9 #[.agg #[.int .i64 f, .int .u64 r, .string sa, .int .i64 la]] w' fun e w2 => e = .returned (.int .i64 0) ∧ Held (OrdAt w b7 b8 b9 fa ra sa la fb rb sb lb fc rc sc lc) w2) := fun f r w' e1 e2 h => by
      subst e1
      subst e2
      have := check_any f r sa la w' (OrdAt.t h).sizes (OrdAt.t h).rds
      rw [CA.out] at this
      exact this.mono fun _ _ ⟨h1, h2⟩ => ⟨h1, OrdAt.below h h2⟩
    have K19 : Hid (∀ w', Held (OrdAt w b7 b8 b9 fa ra sa la fb rb sb lb fc rc sc lc) w' → Calls Tryd.prog 19 #[] w' fun e w2 => e = .returned (.bool true) ∧ Held (OrdAt w b7 b8 b9 fa ra sa la fb rb sb lb fc rc sc lc) w2) := fun w' h => (works_any w' (OrdAt.t h)).mono fun _ _ ⟨h1, h2⟩ => ⟨h1, OrdAt.below h h2⟩
    have HZ : Hid (∀ w', Held (OrdAt w b7 b8 b9 fa ra sa la fb rb sb lb fc rc sc lc) w' → Below w.heap.size w w') := fun w' h => OrdAt.z h
    have HD : Hid (∀ w', Held (OrdAt w b7 b8 b9 fa ra sa la fb rb sb lb fc rc sc lc) w' → Held (OrdAt w b7 b8 b9 fa ra sa la fb rb sb lb fc rc sc lc) w'.drew) := fun w' h => OrdAt.below h (Below.refl _ _).drew
    clear CA
    generalize OrdAt w b7 b8 b9 fa ra sa la fb rb sb lb fc rc sc lc = S at *
    clear hm0
    have hcase : (m1 = -1 ∧ n1 = 1) ∨ (m1 = 1 ∧ n1 = -1) := by omega
    clear hn hm BD
    rcases hcase with ⟨rfl, rfl⟩ | ⟨rfl, rfl⟩
    · have hS2 := HD.out wc hS1
      go_wp2_with fail
      go_region_held3 (fun w' => Held S w') (with_reducible assumption) (first | (go_at_call_of 11 ([Value.agg #[Value.int .i64 fa, Value.int .u64 ra, Value.string sa, Value.int .i64 la], Value.agg #[Value.int .i64 fb, Value.int .u64 rb, Value.string sb, Value.int .i64 lb]]); refine (KAB.out _ (by with_reducible assumption)).mono ?_; rintro e u ⟨rfl, su⟩) | (go_at_call_of 11 ([Value.agg #[Value.int .i64 fb, Value.int .u64 rb, Value.string sb, Value.int .i64 lb], Value.agg #[Value.int .i64 fc, Value.int .u64 rc, Value.string sc, Value.int .i64 lc]]); refine (KBC.out _ (by with_reducible assumption)).mono ?_; rintro e u ⟨rfl, su⟩) | (go_at_call_of 11 ([Value.agg #[Value.int .i64 fa, Value.int .u64 ra, Value.string sa, Value.int .i64 la], Value.agg #[Value.int .i64 fc, Value.int .u64 rc, Value.string sc, Value.int .i64 lc]]); refine (KAC.out _ (by with_reducible assumption)).mono ?_; rintro e u ⟨rfl, su⟩) | (go_at_call_of 11 ([Value.agg #[Value.int .i64 fb, Value.int .u64 rb, Value.string sb, Value.int .i64 lb], Value.agg #[Value.int .i64 fa, Value.int .u64 ra, Value.string sa, Value.int .i64 la]]); refine (KBA.out _ (by with_reducible assumption)).mono ?_; rintro e u ⟨rfl, su⟩) | (go_at_call_of 11 ([Value.agg #[Value.int .i64 fa, Value.int .u64 ra, Value.string sa, Value.int .i64 la], Value.agg #[Value.int .i64 fa, Value.int .u64 ra, Value.string sa, Value.int .i64 la]]); refine (KAA.out _ (by with_reducible assumption)).mono ?_; rintro e u ⟨rfl, su⟩) | (go_at_call 19; refine (K19.out _ (by with_reducible assumption)).mono ?_; rintro e u ⟨rfl, su⟩))
      go_wp2_with fail
      refine (KBA.out _ (by with_reducible assumption)).mono ?_
      rintro e u ⟨rfl, su⟩
      go_wp2_with fail
      refine (KAA.out _ (by with_reducible assumption)).mono ?_
      rintro e u ⟨rfl, su⟩
      clear KAB KBC KAC KBA KAA
      go_wp2_with fail
      all_goals first
        | exact absurd ⟨by with_reducible assumption, by with_reducible assumption, by with_reducible assumption, by with_reducible assumption⟩ NE
        | (refine (K9.out _ _ _ (by first | rfl | exact Eq.symm (by with_reducible assumption)) (by first | rfl | exact Eq.symm (by with_reducible assumption)) (by with_reducible assumption)).mono ?_
           rintro e u ⟨rfl, su⟩
           go_wp2_with fail
           refine (K19.out _ (by with_reducible assumption)).mono ?_
           rintro e u ⟨rfl, su⟩
           go_wp2
           go_ret
           exact ⟨rfl, HZ.out _ (by with_reducible assumption)⟩)
    · have hS2 := HD.out wc hS1
      go_wp2_with fail
      go_region_held3 (fun w' => Held S w') (with_reducible assumption) (first | (go_at_call_of 11 ([Value.agg #[Value.int .i64 fa, Value.int .u64 ra, Value.string sa, Value.int .i64 la], Value.agg #[Value.int .i64 fb, Value.int .u64 rb, Value.string sb, Value.int .i64 lb]]); refine (KAB.out _ (by with_reducible assumption)).mono ?_; rintro e u ⟨rfl, su⟩) | (go_at_call_of 11 ([Value.agg #[Value.int .i64 fb, Value.int .u64 rb, Value.string sb, Value.int .i64 lb], Value.agg #[Value.int .i64 fc, Value.int .u64 rc, Value.string sc, Value.int .i64 lc]]); refine (KBC.out _ (by with_reducible assumption)).mono ?_; rintro e u ⟨rfl, su⟩) | (go_at_call_of 11 ([Value.agg #[Value.int .i64 fa, Value.int .u64 ra, Value.string sa, Value.int .i64 la], Value.agg #[Value.int .i64 fc, Value.int .u64 rc, Value.string sc, Value.int .i64 lc]]); refine (KAC.out _ (by with_reducible assumption)).mono ?_; rintro e u ⟨rfl, su⟩) | (go_at_call_of 11 ([Value.agg #[Value.int .i64 fb, Value.int .u64 rb, Value.string sb, Value.int .i64 lb], Value.agg #[Value.int .i64 fa, Value.int .u64 ra, Value.string sa, Value.int .i64 la]]); refine (KBA.out _ (by with_reducible assumption)).mono ?_; rintro e u ⟨rfl, su⟩) | (go_at_call_of 11 ([Value.agg #[Value.int .i64 fa, Value.int .u64 ra, Value.string sa, Value.int .i64 la], Value.agg #[Value.int .i64 fa, Value.int .u64 ra, Value.string sa, Value.int .i64 la]]); refine (KAA.out _ (by with_reducible assumption)).mono ?_; rintro e u ⟨rfl, su⟩) | (go_at_call 19; refine (K19.out _ (by with_reducible assumption)).mono ?_; rintro e u ⟨rfl, su⟩))
      go_wp2_with fail
      refine (KBA.out _ (by with_reducible assumption)).mono ?_
      rintro e u ⟨rfl, su⟩
      go_wp2_with fail
      refine (KAA.out _ (by with_reducible assumption)).mono ?_
      rintro e u ⟨rfl, su⟩
      clear KAB KBC KAC KBA KAA
      go_wp2_with fail
      all_goals first
        | exact absurd ⟨by with_reducible assumption, by with_reducible assumption, by with_reducible assumption, by with_reducible assumption⟩ NE
        | (refine (K9.out _ _ _ (by first | rfl | exact Eq.symm (by with_reducible assumption)) (by first | rfl | exact Eq.symm (by with_reducible assumption)) (by with_reducible assumption)).mono ?_
           rintro e u ⟨rfl, su⟩
           go_wp2_with fail
           refine (K19.out _ (by with_reducible assumption)).mono ?_
           rintro e u ⟨rfl, su⟩
           go_wp2
           go_ret
           exact ⟨rfl, HZ.out _ (by with_reducible assumption)⟩)
end Go.Proofs.YtkgedoedojkdkaaDoor
