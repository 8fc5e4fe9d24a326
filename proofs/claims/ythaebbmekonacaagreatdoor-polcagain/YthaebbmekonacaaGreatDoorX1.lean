/-
  Atoms and ASs in memory; a map of numbers by numbers.
-/
import Derived.Laws.BitsAllLaws
import Derived.RowKit
import Derived.Test.YthaebbmekonacaaGreatDoorProg
import Derived.Test.YthaebbmekonacaaGreatDoorM0
import Derived.WalkKit
import Derived.WalkSpells
import Derived.WalkLawsBesides
import Derived.Laws.IdiomStrings
import Derived.Below
import Derived.RegionTactic
import Derived.Deep.RegionWith
import Derived.Deep.RegionHeld
import Derived.BigQuiet
import Derived.Maps.Own
import Derived.Maps.OwnOps
import Derived.Maps.Keyed
import Derived.Maps.Ext
import Derived.Maps.OwnSet
set_option linter.unusedSimpArgs false
set_option maxRecDepth 100000
namespace Go.Proofs.YthaebbmekonacaaGreatDoor
open Go.RowKit Go.Maps
theorem lt_of_cell {w : World} {b i : Nat} {v : Value} (h : w.cell? ⟨b, i, none⟩ = some v) : b < w.heap.size := by
  by_cases e : b < w.heap.size
  · exact e
  · rw [World.cell?, Array.getElem?_eq_none (by simpa using e)] at h; simp at h
theorem below_cell {w w' : World} (h : Below w.heap.size w w') {b i : Nat} {v : Value} (hc : w.cell? ⟨b, i, none⟩ = some v) : w'.cell? ⟨b, i, none⟩ = some v := (h.cell (p := ⟨b, i, none⟩) (lt_of_cell hc)).trans hc
/-- A slice of ASs. -/
def ASAt (w : World) (v : Value) (L : List Nat) : Prop :=
  ∃ (ad : Option Addr) (b off cap : Nat), v = .slice ad L.length cap ∧ (ad = some ⟨b, off, none⟩ ∨ L.length = 0) ∧ L.length ≤ cap ∧ ∀ j (h : j < L.length), w.cell? ⟨b, off + j, none⟩ = some (.int .u32 (L[j] : Int))
/-- A slice of atoms. -/
def AtAt (w : World) (v : Value) (p : List Atm) : Prop :=
  ∃ (ad : Option Addr) (b off cap : Nat), v = .slice ad p.length cap ∧ (ad = some ⟨b, off, none⟩ ∨ p.length = 0) ∧ p.length ≤ cap ∧ ∀ j (h : j < p.length), w.cell? ⟨b, off + j * 2, none⟩ = some (.int .i64 p[j].1) ∧ w.cell? ⟨b, off + j * 2 + 1, none⟩ = some (.int .u32 (p[j].2 : Int))
theorem ASAt.len {w : World} {v : Value} {L : List Nat} (h : ASAt w v L) : ∃ ad cap, v = .slice ad L.length cap := by
  obtain ⟨ad, b, off, cap, h1, _⟩ := h
  exact ⟨ad, cap, h1⟩
theorem AtAt.len {w : World} {v : Value} {L : List Atm} (h : AtAt w v L) : ∃ ad cap, v = .slice ad L.length cap := by
  obtain ⟨ad, b, off, cap, h1, _⟩ := h
  exact ⟨ad, cap, h1⟩
theorem ASAt.below {w w' : World} {v : Value} {L : List Nat} (h : ASAt w v L) (hb : Below w.heap.size w w') : ASAt w' v L := by
  obtain ⟨ad, b, off, cap, h1, h2, h3, h4⟩ := h
  exact ⟨ad, b, off, cap, h1, h2, h3, fun j hj => below_cell hb (h4 j hj)⟩
theorem AtAt.below {w w' : World} {v : Value} {L : List Atm} (h : AtAt w v L) (hb : Below w.heap.size w w') : AtAt w' v L := by
  obtain ⟨ad, b, off, cap, h1, h2, h3, h4⟩ := h
  exact ⟨ad, b, off, cap, h1, h2, h3, fun j hj => ⟨below_cell hb (h4 j hj).1, below_cell hb (h4 j hj).2⟩⟩
/-- Nothing but the map in block b has turned. -/
structure Bst (b : Nat) (w w' : World) : Prop where
  g : w.grownBy w' (some b)
  m : ∃ es c, w.heap[b]? = some (.map es c)
  m' : ∃ es c, w'.heap[b]? = some (.map es c)
theorem ne_map {w : World} {b p i : Nat} {v : Value} (hc : w.cell? ⟨p, i, none⟩ = some v) (hm : ∃ es c, w.heap[b]? = some (.map es c)) : p ≠ b := by
  intro e
  obtain ⟨es, c, h⟩ := hm
  subst e
  simp [World.cell?, h] at hc
theorem Bst.cell {b : Nat} {w w' : World} (h : Bst b w w') {p i : Nat} {v : Value} (hc : w.cell? ⟨p, i, none⟩ = some v) : w'.cell? ⟨p, i, none⟩ = some v :=
  h.g.cell hc (by intro e; injection e with e; exact ne_map hc h.m e)
theorem Bst.refl {b : Nat} {w : World} (m : ∃ es c, w.heap[b]? = some (.map es c)) : Bst b w w := ⟨⟨rfl, rfl, rfl, Nat.le_refl _, fun _ _ _ => rfl⟩, m, m⟩
theorem Bst.trans {b : Nat} {x y z : World} (h : Bst b x y) (k : Bst b y z) : Bst b x z :=
  ⟨⟨k.g.os.trans h.g.os, k.g.tape.trans h.g.tape, k.g.output.trans h.g.output, Nat.le_trans h.g.size k.g.size, fun j hj hn => (k.g.block j (Nat.lt_of_lt_of_le hj h.g.size) hn).trans (h.g.block j hj hn)⟩, h.m, k.m'⟩
theorem Bst.of_below {b : Nat} {w w' : World} (m : ∃ es c, w.heap[b]? = some (.map es c)) (h : Below w.heap.size w w') : Bst b w w' := by
  refine ⟨⟨h.os, h.tape, h.output, h.size, fun k hk _ => h.block k hk⟩, m, ?_⟩
  obtain ⟨es, c, e⟩ := m
  have hlt : b < w.heap.size := (Array.getElem?_eq_some_iff.1 e).1
  exact ⟨es, c, (h.block b hlt).trans e⟩
/-- .. and so all that lies below the map is as it was. -/
theorem Bst.below {b B : Nat} {w w' : World} (h : Bst b w w') (hB : B ≤ b) (hs : B ≤ w.heap.size) : Below B w w' :=
  ⟨h.g.os, h.g.tape, h.g.output, h.g.size, fun k hk => h.g.block k (Nat.lt_of_lt_of_le hk hs) (by intro e; injection e with e; omega)⟩
theorem ASAt.bst {b : Nat} {w w' : World} {v : Value} {L : List Nat} (h : ASAt w v L) (hb : Bst b w w') : ASAt w' v L := by
  obtain ⟨ad, b, off, cap, h1, h2, h3, h4⟩ := h
  exact ⟨ad, b, off, cap, h1, h2, h3, fun j hj => hb.cell (h4 j hj)⟩
theorem AtAt.bst {b : Nat} {w w' : World} {v : Value} {L : List Atm} (h : AtAt w v L) (hb : Bst b w w') : AtAt w' v L := by
  obtain ⟨ad, b, off, cap, h1, h2, h3, h4⟩ := h
  exact ⟨ad, b, off, cap, h1, h2, h3, fun j hj => ⟨hb.cell (h4 j hj).1, hb.cell (h4 j hj).2⟩⟩
/-- A number as a key, as it reads. -/
def nl (n : Nat) : Lit := .int .i64 (n : Int)
/-- The map in block b: what stands at each of the keys below m. -/
structure MpI (w : World) (b m : Nat) (f : Nat → Option Nat) : Prop where
  own : ∃ D : DataW Unit, w.ownsMap Tryz.prog 3 (plainElem Tryz.prog 3) b (Maps.size D) D ∧ Maps.size D = cnt f m ∧ (∀ k v, f k = some v → ∀ z, D.atKey (nl k) z = .lit (.int .i64 (v : Int))) ∧ (∀ k, f k = none → ∀ z, D.atKey (nl k) z = z)
theorem owns_tight {w : World} {b n : Nat} {D : DataW Unit} (h : w.ownsMap Tryz.prog 3 (plainElem Tryz.prog 3) b n D) : w.ownsMap Tryz.prog 3 (plainElem Tryz.prog 3) b (Maps.size D) D := by
  obtain ⟨es, clock, hb, F, hs, rfl⟩ := h
  exact ⟨es, clock, hb, F, by simp [Maps.size, length_sorted], rfl⟩
theorem MpI.isMap {w : World} {b m : Nat} {f : Nat → Option Nat} (h : MpI w b m f) : ∃ es c, w.heap[b]? = some (.map es c) := by obtain ⟨D, ⟨es, c, h, _⟩, _⟩ := h.own; exact ⟨es, c, h⟩
theorem MpI.below {w w' : World} {b m : Nat} {f : Nat → Option Nat} (h : MpI w b m f) (hb : Below w.heap.size w w') : MpI w' b m f := by
  obtain ⟨D, h, k⟩ := h.own
  exact ⟨D, h.kept (row := none) ⟨hb.os, hb.tape, hb.output, hb.size, fun k hk _ => hb.block k hk⟩ (by simp), k⟩
theorem cnt_none (m : Nat) : cnt (fun _ => none) m = 0 := by
  induction m with
  | zero => rfl
  | succ m ih => unfold cnt; rw [ih]; rfl
theorem MpI.made (w : World) (m : Nat) : MpI (w.alloc (.map #[] 0)) w.heap.size m (fun _ => none) :=
  ⟨⟨.map [], owns_tight (World.ownsMap_made _ _ _ _), (by rw [cnt_none]; rfl), (fun _ _ h => by cases h), (fun _ _ _ => rfl)⟩⟩
theorem keyed3 : Keyed Tryz.prog 3 := int_keyed Tryz.underlying3
theorem wf_i64 {t : Nat} (h : t < 9223372036854775808) : (Lit.int .i64 (t : Int)).wf = true := WalkArith.wf_i64 (by omega)
theorem key3 {t : Nat} (h : t < 9223372036854775808) : keyOf Tryz.prog 3 (.int .i64 (t : Int)) = some (nl t) := keyOf_int_mk Tryz.underlying3 (wf_i64 h)
theorem zero3 (w : World) : (zeroValue 3).run Tryz.prog w = .ok (.int .i64 0) w := by kernel_rfl
theorem plain_num {v : Value} {t : Nat} {ps : List MemPlace} (h : plainElem (H := Unit) Tryz.prog 3 v = some (.lit (.int .i64 (t : Int)), ps)) : v = .int .i64 (t : Int) := by
  obtain ⟨a, rfl, e, _⟩ := plainElem_int_inv Tryz.underlying3 h
  injection e with e _
  injection e with e
  injection e with _ e
  rw [e]
theorem nl_inj {a b : Nat} (h : nl a = nl b) : a = b := by
  unfold nl at h
  injection h with _ h
  omega
end Go.Proofs.YthaebbmekonacaaGreatDoor
