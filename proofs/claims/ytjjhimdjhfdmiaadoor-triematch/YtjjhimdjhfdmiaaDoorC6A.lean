/-
  The contract of set: the tree with one more value, made anew where it differs.
-/
import Derived.Test.YtjjhimdjhfdmiaaDoorC5
namespace Go.Proofs.YtjjhimdjhfdmiaaDoor
open Go.Deep (BT)
variable {oo : Nat}
open Go.RowKit
/-- The cells of a node that may be written. -/
structure FreeAt (w : World) (b : Nat) : Prop where
  f0 : w.frozen? ⟨b, 0, none⟩ = false
  f1 : w.frozen? ⟨b, 1, none⟩ = false
  f2 : w.frozen? ⟨b, 2, none⟩ = false
  f3 : w.frozen? ⟨b, 3, none⟩ = false
  f4 : w.frozen? ⟨b, 4, none⟩ = false
  f5 : w.frozen? ⟨b, 5, none⟩ = false
theorem FreeAt.kept {w w' : World} {b B : Nat} (h : FreeAt w b) (hb : Below B w w') (hB : b < B) : FreeAt w' b :=
  ⟨(hb.frozen (p := ⟨b, 0, none⟩) hB).trans h.f0, (hb.frozen (p := ⟨b, 1, none⟩) hB).trans h.f1, (hb.frozen (p := ⟨b, 2, none⟩) hB).trans h.f2, (hb.frozen (p := ⟨b, 3, none⟩) hB).trans h.f3, (hb.frozen (p := ⟨b, 4, none⟩) hB).trans h.f4, (hb.frozen (p := ⟨b, 5, none⟩) hB).trans h.f5⟩
theorem FreeAt.drew {w : World} {b : Nat} (h : FreeAt w b) : FreeAt w.drew b := ⟨h.f0, h.f1, h.f2, h.f3, h.f4, h.f5⟩
theorem FreeAt.set {w : World} {b : Nat} (h : FreeAt w b) (a : Addr) (v : Value) : FreeAt (w.setCell a v) b :=
  ⟨(World.frozen?_setCell ..).trans h.f0, (World.frozen?_setCell ..).trans h.f1, (World.frozen?_setCell ..).trans h.f2, (World.frozen?_setCell ..).trans h.f3, (World.frozen?_setCell ..).trans h.f4, (World.frozen?_setCell ..).trans h.f5⟩
theorem FreeAt.new (w : World) (b : Nat) (c : Array Value) (t : TypeId) (h : b = w.heap.size) : FreeAt (w.alloc (.cells c t)) b := by
  refine ⟨?_, ?_, ?_, ?_, ?_, ?_⟩ <;> exact World.frozen?_alloc_at _ _ _ _ h
theorem NodeAt.new (w : World) (b : Nat) (row : ByteArray) (len : Int) (has : Bool) (val : Int) (p0 p1 : Option Addr) (h : b = w.heap.size) :
    NodeAt (w.alloc (.cells #[.string row, .int .i64 len, .bool has, .int .i64 val, .pointer p0, .pointer p1] 77)) b row len has val p0 p1 := by
  subst h; constructor <;> simp
variable {w : World} {b : Nat} {row : ByteArray} {len : Int} {has : Bool} {val : Int} {p0 p1 : Option Addr}
theorem NodeAt.set4 (h : NodeAt w b row len has val p0 p1) (q : Option Addr) : NodeAt (w.setCell ⟨b, 4, none⟩ (.pointer q)) b row len has val q p1 := by
  obtain ⟨c0, c1, c2, c3, c4, c5⟩ := h
  exact ⟨by rw [World.cell?_setCell_other _ _ _ _ (by simp)]; exact c0, by rw [World.cell?_setCell_other _ _ _ _ (by simp)]; exact c1, by rw [World.cell?_setCell_other _ _ _ _ (by simp)]; exact c2, by rw [World.cell?_setCell_other _ _ _ _ (by simp)]; exact c3, by rw [World.cell?_setCell_same _ _ _ c4], by rw [World.cell?_setCell_other _ _ _ _ (by simp)]; exact c5⟩
theorem NodeAt.set5 (h : NodeAt w b row len has val p0 p1) (q : Option Addr) : NodeAt (w.setCell ⟨b, 5, none⟩ (.pointer q)) b row len has val p0 q := by
  obtain ⟨c0, c1, c2, c3, c4, c5⟩ := h
  exact ⟨by rw [World.cell?_setCell_other _ _ _ _ (by simp)]; exact c0, by rw [World.cell?_setCell_other _ _ _ _ (by simp)]; exact c1, by rw [World.cell?_setCell_other _ _ _ _ (by simp)]; exact c2, by rw [World.cell?_setCell_other _ _ _ _ (by simp)]; exact c3, by rw [World.cell?_setCell_other _ _ _ _ (by simp)]; exact c4, by rw [World.cell?_setCell_same _ _ _ c5]⟩
theorem NodeAt.setKV (h : NodeAt w b row len has val p0 p1) (k : ByteArray) (n : Int) (v : Int) : NodeAt ((((w.setCell ⟨b, 0, none⟩ (.string k)).setCell ⟨b, 1, none⟩ (.int .i64 n)).setCell ⟨b, 2, none⟩ (.bool true)).setCell ⟨b, 3, none⟩ (.int .i64 v)) b k n true v p0 p1 := by
  obtain ⟨c0, c1, c2, c3, c4, c5⟩ := h
  have o : ∀ (u : World) (i j : Nat) (x : Value), i ≠ j → (u.setCell ⟨b, i, none⟩ x).cell? ⟨b, j, none⟩ = u.cell? ⟨b, j, none⟩ := fun u i j x hij => World.cell?_setCell_other _ _ _ _ (fun h => hij (by cases h; rfl))
  refine ⟨?_, ?_, ?_, ?_, ?_, ?_⟩
  · rw [o _ 3 0 _ (by decide), o _ 2 0 _ (by decide), o _ 1 0 _ (by decide), World.cell?_setCell_same _ _ _ c0]
  · rw [o _ 3 1 _ (by decide), o _ 2 1 _ (by decide), World.cell?_setCell_same _ _ _ ((o _ 0 1 _ (by decide)).trans c1)]
  · rw [o _ 3 2 _ (by decide), World.cell?_setCell_same _ _ _ ((o _ 1 2 _ (by decide)).trans ((o _ 0 2 _ (by decide)).trans c2))]
  · rw [World.cell?_setCell_same _ _ _ ((o _ 2 3 _ (by decide)).trans ((o _ 1 3 _ (by decide)).trans ((o _ 0 3 _ (by decide)).trans c3)))]
  · rw [o _ 3 4 _ (by decide), o _ 2 4 _ (by decide), o _ 1 4 _ (by decide), o _ 0 4 _ (by decide)]; exact c4
  · rw [o _ 3 5 _ (by decide), o _ 2 5 _ (by decide), o _ 1 5 _ (by decide), o _ 0 5 _ (by decide)]; exact c5
theorem Rep.lt {S : Nat → Prop} {w : World} : ∀ (t : T) (p : Option Addr), Rep S w t p → Rep (fun j => S j ∧ j < w.heap.size) w t p
  | .nil, _, hp => hp
  | .node _ _ _ l r, _, ⟨b, p0, p1, e, h1, hb, hn, hl, hr⟩ => ⟨b, p0, p1, e, ⟨h1, hb⟩, hb, hn, Rep.lt l p0 hl, Rep.lt r p1 hr⟩
theorem rep_nil {S : Nat → Prop} {w : World} : Rep S w .nil none := rfl
/-- A cell is written that is none of the tree's. -/
theorem Rep.set {S : Nat → Prop} {w : World} {t : T} {p : Option Addr} {a : Nat} (h : Rep (fun j => S j ∧ j ≠ a) w t p) (i : Nat) (v : Value) : Rep S (w.setCell ⟨a, i, none⟩ v) t p :=
  Rep.mono (fun _ h => h.1) t p (Rep.keep (by simp) (fun k _ hk => Below.heap_setCell w ⟨a, i, none⟩ v k hk.2) t p h)
/-- What set must do with a tree. -/
def SetOk (S : Nat → Prop) (k : ByteArray) (n : Nat) (v : Int) (t t' : T) : Prop :=
  ∀ (p : Option Addr) (w : World), Rep S w t p → (∀ j, w.heap.size ≤ j → S j) →
    Calls Tryd.prog 23 #[.pointer p, .agg #[.string k, .int .i64 n], .int .i64 v] w fun e w' => ∃ p', e = .returned (.pointer p') ∧ Rep S w' t' p' ∧ Below w.heap.size w w'
set_option maxRecDepth 100000 in
theorem set_nil (S : Nat → Prop) (k : ByteArray) (n : Nat) (v : Int) : SetOk S k n v .nil (.node n 0 ⟨k, true, v⟩ .nil .nil) := by
  intro p w hr hS
  obtain rfl : p = none := hr
  go_enter Tryd.func23, Tryd.ntmps23
  go_wp2
  go_ret
  refine ⟨_, rfl, ⟨w.heap.size + 1, none, none, rfl, hS _ (by omega), by simp, NodeAt.new _ _ _ _ _ _ _ _ (by simp), rfl, rfl⟩, ((Below.refl _ _).alloc (Nat.le_refl _) _).alloc (by simp) _⟩
set_option maxRecDepth 100000 in
set_option maxHeartbeats 800000 in
theorem set_A0 (S : Nat → Prop) (k : ByteArray) (n : Nat) (v : Int) (row : ByteArray) (len : Nat) (has : Bool) (val : Int) (l r : T) (s1 : len ≤ 8 * row.size) (z1 : row.size ≤ 25) (hn : n ≤ 8 * k.size) (hm : com row k (min len n) = n) (hlt : n < len) (hb0 : bt row n = 0) :
    SetOk S k n v (.node len oo ⟨row, has, val⟩ l r) (.node n 0 ⟨k, true, v⟩ (.node len oo ⟨row, has, val⟩ l r) .nil) := by
  intro p w hr hS
  obtain ⟨b, p0, p1, rfl, hSb, hb, hnd, hl, hrr⟩ := hr
  have k0 : KeyAt (w.alloc (.cells #[.string k, .int .i64 n] 58)) w.heap.size k n := KeyAt.new w _ k n rfl
  have hB : Below w.heap.size w (w.alloc (.cells #[.string k, .int .i64 n] 58)) := (Below.refl _ _).alloc (Nat.le_refl _) _
  have hn1 := hnd.kept hB hb
  have n0 := hn1.c0
  have n1 := hn1.c1
  have hbk : b < w.heap.size + 1 := by omega
  have hz1 : w.heap.size < w.heap.size + 1 := by omega
  go_enter Tryd.func23, Tryd.ntmps23
  go_wp2
  go_region_held (fun w' => w'.cell? ⟨b, 0, none⟩ = some (.string row) ∧ w'.cell? ⟨b, 1, none⟩ = some (.int .i64 len) ∧ w'.cell? ⟨w.heap.size, 0, none⟩ = some (.string k) ∧ w'.cell? ⟨w.heap.size, 1, none⟩ = some (.int .i64 n)) (go_keep)
    (first | (go_at_call 43; refine (com_any row k len n _ s1 hn z1).mono ?_; rintro e w2 ⟨rfl, hb2⟩; have k2 := k0.drew.kept hb2 (by simp); have hn2 := hn1.drew.kept hb2 (by simp; omega); obtain ⟨q0, q1, q2, q3, q4, q5⟩ := hn2; obtain ⟨v0, v1⟩ := k2))
  have hB2 : Below w.heap.size w w2 := hB.trans ((Below.refl _ _).drew.trans (hb2.mono (by simp)))
  have hz2 : w.heap.size < w2.heap.size := by have := hb2.size; simp at this; omega
  have hbb : b < w2.heap.size := by omega
  have ne1 : w2.heap.size ≠ w.heap.size := by omega
  have ne2 : w2.heap.size ≠ b := by omega
  clear n0 n1
  have hnode : Rep S w (.node len oo ⟨row, has, val⟩ l r) (some ⟨b, 0, none⟩) := ⟨b, p0, p1, rfl, hSb, hb, hnd, hl, hrr⟩
  clear hl hrr hnd
  go_wp2_with fail
  refine (kbit_any row len n _ z1 (by omega)).mono ?_
  rintro e w3 ⟨rfl, hb3⟩
  have hn3 := (NodeAt.new w2 _ k n false 0 none none rfl).kept hb3 (by simp)
  have hf3 := (FreeAt.new w2 w2.heap.size #[.string k, .int .i64 n, .bool false, .int .i64 0, .pointer none, .pointer none] 77 rfl).kept hb3 (by simp)
  have hB3 : Below w2.heap.size w2 w3 := ((Below.refl _ _).alloc (Nat.le_refl _) _).trans (hb3.mono (by simp))
  have hz3 : w2.heap.size < w3.heap.size := by have := hb3.size; simp at this; omega
  obtain ⟨d0, d1, d2, d3, d4, d5⟩ := id hn3
  obtain ⟨g0, g1, g2, g3, g4, g5⟩ := hf3
  obtain ⟨y0, y1⟩ := (KeyAt.mk v0 v1 : KeyAt w2 w.heap.size k n).kept hB3 hz2
  go_wp2
  go_ret
  have le2 : w.heap.size ≤ w2.heap.size := Nat.le_of_lt hz2
  have hW := (((((hB2.trans (hB3.mono le2)).setCell (p := ⟨w2.heap.size, 4, none⟩) le2 (.pointer (some ⟨b, 0, none⟩))).setCell (p := ⟨w2.heap.size, 0, none⟩) le2 (.string k)).setCell (p := ⟨w2.heap.size, 1, none⟩) le2 (.int .i64 n)).setCell (p := ⟨w2.heap.size, 2, none⟩) le2 (.bool true)).setCell (p := ⟨w2.heap.size, 3, none⟩) le2 (.int .i64 v)
  exact ⟨_, rfl, ⟨w2.heap.size, (some ⟨b, 0, none⟩), none, rfl, hS _ le2, by simp; omega, (hn3.set4 _).setKV k n v, hnode.below hW, rfl⟩, hW⟩
set_option maxRecDepth 100000 in
set_option maxHeartbeats 800000 in
theorem set_A1 (S : Nat → Prop) (k : ByteArray) (n : Nat) (v : Int) (row : ByteArray) (len : Nat) (has : Bool) (val : Int) (l r : T) (s1 : len ≤ 8 * row.size) (z1 : row.size ≤ 25) (hn : n ≤ 8 * k.size) (hm : com row k (min len n) = n) (hlt : n < len) (hb0 : bt row n = 1) :
    SetOk S k n v (.node len oo ⟨row, has, val⟩ l r) (.node n 0 ⟨k, true, v⟩ .nil (.node len oo ⟨row, has, val⟩ l r)) := by
  intro p w hr hS
  obtain ⟨b, p0, p1, rfl, hSb, hb, hnd, hl, hrr⟩ := hr
  have k0 : KeyAt (w.alloc (.cells #[.string k, .int .i64 n] 58)) w.heap.size k n := KeyAt.new w _ k n rfl
  have hB : Below w.heap.size w (w.alloc (.cells #[.string k, .int .i64 n] 58)) := (Below.refl _ _).alloc (Nat.le_refl _) _
  have hn1 := hnd.kept hB hb
  have n0 := hn1.c0
  have n1 := hn1.c1
  have hbk : b < w.heap.size + 1 := by omega
  have hz1 : w.heap.size < w.heap.size + 1 := by omega
  go_enter Tryd.func23, Tryd.ntmps23
  go_wp2
  go_region_held (fun w' => w'.cell? ⟨b, 0, none⟩ = some (.string row) ∧ w'.cell? ⟨b, 1, none⟩ = some (.int .i64 len) ∧ w'.cell? ⟨w.heap.size, 0, none⟩ = some (.string k) ∧ w'.cell? ⟨w.heap.size, 1, none⟩ = some (.int .i64 n)) (go_keep)
    (first | (go_at_call 43; refine (com_any row k len n _ s1 hn z1).mono ?_; rintro e w2 ⟨rfl, hb2⟩; have k2 := k0.drew.kept hb2 (by simp); have hn2 := hn1.drew.kept hb2 (by simp; omega); obtain ⟨q0, q1, q2, q3, q4, q5⟩ := hn2; obtain ⟨v0, v1⟩ := k2))
  have hB2 : Below w.heap.size w w2 := hB.trans ((Below.refl _ _).drew.trans (hb2.mono (by simp)))
  have hz2 : w.heap.size < w2.heap.size := by have := hb2.size; simp at this; omega
  have hbb : b < w2.heap.size := by omega
  have ne1 : w2.heap.size ≠ w.heap.size := by omega
  have ne2 : w2.heap.size ≠ b := by omega
  clear n0 n1
  have hnode : Rep S w (.node len oo ⟨row, has, val⟩ l r) (some ⟨b, 0, none⟩) := ⟨b, p0, p1, rfl, hSb, hb, hnd, hl, hrr⟩
  clear hl hrr hnd
  go_wp2_with fail
  refine (kbit_any row len n _ z1 (by omega)).mono ?_
  rintro e w3 ⟨rfl, hb3⟩
  have hn3 := (NodeAt.new w2 _ k n false 0 none none rfl).kept hb3 (by simp)
  have hf3 := (FreeAt.new w2 w2.heap.size #[.string k, .int .i64 n, .bool false, .int .i64 0, .pointer none, .pointer none] 77 rfl).kept hb3 (by simp)
  have hB3 : Below w2.heap.size w2 w3 := ((Below.refl _ _).alloc (Nat.le_refl _) _).trans (hb3.mono (by simp))
  have hz3 : w2.heap.size < w3.heap.size := by have := hb3.size; simp at this; omega
  obtain ⟨d0, d1, d2, d3, d4, d5⟩ := id hn3
  obtain ⟨g0, g1, g2, g3, g4, g5⟩ := hf3
  obtain ⟨y0, y1⟩ := (KeyAt.mk v0 v1 : KeyAt w2 w.heap.size k n).kept hB3 hz2
  go_wp2
  go_ret
  have le2 : w.heap.size ≤ w2.heap.size := Nat.le_of_lt hz2
  have hW := (((((hB2.trans (hB3.mono le2)).setCell (p := ⟨w2.heap.size, 5, none⟩) le2 (.pointer (some ⟨b, 0, none⟩))).setCell (p := ⟨w2.heap.size, 0, none⟩) le2 (.string k)).setCell (p := ⟨w2.heap.size, 1, none⟩) le2 (.int .i64 n)).setCell (p := ⟨w2.heap.size, 2, none⟩) le2 (.bool true)).setCell (p := ⟨w2.heap.size, 3, none⟩) le2 (.int .i64 v)
  exact ⟨_, rfl, ⟨w2.heap.size, none, (some ⟨b, 0, none⟩), rfl, hS _ le2, by simp; omega, (hn3.set5 _).setKV k n v, rfl, hnode.below hW⟩, hW⟩
end Go.Proofs.YtjjhimdjhfdmiaaDoor
