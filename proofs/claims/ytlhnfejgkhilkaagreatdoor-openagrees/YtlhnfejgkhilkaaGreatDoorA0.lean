/-
  Bytes, sizes of families, and what calls leave as it was.
-/
import Derived.Laws.BitsAllLaws
import Derived.RowKit
import Derived.Test.YtlhnfejgkhilkaaGreatDoorProg
import Derived.WalkKit
import Derived.WalkSpells
import Derived.WalkLawsBesides
import Derived.Laws.IdiomStrings
import Derived.Below
import Derived.RegionTactic
import Derived.Deep.RegionWith
import Derived.Deep.RegionHeld
namespace Go.Proofs.YtlhnfejgkhilkaaGreatDoor
open Go.RowKit
/-- The size of a family's addresses. -/
def szOf (n : Int) : Int := if n = 1 ∨ n = 3 ∨ n = 4 then 4 else if n = 2 ∨ n = 5 then 16 else 0
/-- The sizes in the table of families. -/
structure FamSizes (w : World) : Prop where
  c0 : w.cell? ⟨0, 1, none⟩ = some (.int .i64 0)
  c1 : w.cell? ⟨0, 4, none⟩ = some (.int .i64 4)
  c2 : w.cell? ⟨0, 7, none⟩ = some (.int .i64 16)
  c3 : w.cell? ⟨0, 10, none⟩ = some (.int .i64 4)
  c4 : w.cell? ⟨0, 13, none⟩ = some (.int .i64 4)
  c5 : w.cell? ⟨0, 16, none⟩ = some (.int .i64 16)
set_option maxHeartbeats 400000 in
theorem size_any (n : Int) (w : World) (hg : FamSizes w) :
    Calls Tryz.prog 91 #[.int .i64 n] w fun e w' => e = .returned (.int .i64 (szOf n)) ∧ w' = w := by
  by_cases h1 : n < 0
  · have hz : szOf n = 0 := by unfold szOf; rw [if_neg (by omega), if_neg (by omega)]
    rw [hz]
    clear hz
    go_enter Tryz.func91, Tryz.ntmps91
    go_wp2
    go_ret
    exact ⟨rfl, rfl⟩
  · by_cases h2 : 6 ≤ n
    · have hz : szOf n = 0 := by unfold szOf; rw [if_neg (by omega), if_neg (by omega)]
      rw [hz]
      clear hz
      go_enter Tryz.func91, Tryz.ntmps91
      go_wp2
      go_ret
      exact ⟨rfl, rfl⟩
    · obtain ⟨c0, c1, c2, c3, c4, c5⟩ := hg
      have h : n = 0 ∨ n = 1 ∨ n = 2 ∨ n = 3 ∨ n = 4 ∨ n = 5 := by omega
      clear h1 h2
      rcases h with rfl | rfl | rfl | rfl | rfl | rfl
      all_goals
        go_enter Tryz.func91, Tryz.ntmps91
        go_wp2
        go_ret
        exact ⟨rfl, rfl⟩
theorem ret_int {k : IntKind} {a b : Int} (h : a = b) : Ending.returned (.int k a) = .returned (.int k b) := by rw [h]
/-- A row of bytes that lies in block b and may be written. -/
def Row (w : World) (b : Nat) (l : List UInt8) : Prop := ∀ j (hj : j < l.length), w.cell? ⟨b, j, none⟩ = some (.int .u8 (l[j].toNat : Int)) ∧ w.frozen? ⟨b, j, none⟩ = false
theorem Row.set {w : World} {b : Nat} {l : List UInt8} (h : Row w b l) (k : Nat) (x : UInt8) : Row (w.setCell ⟨b, k, none⟩ (.int .u8 (x.toNat : Int))) b (l.set k x) := by
  intro j hj
  have hj' : j < l.length := by simpa using hj
  obtain ⟨h1, h2⟩ := h j hj'
  refine ⟨?_, by rw [World.frozen?_setCell]; exact h2⟩
  by_cases e : k = j
  · subst e
    rw [World.cell?_setCell_same _ _ _ h1]; simp
  · rw [World.cell?_setCell_other _ _ _ _ (by intro h; injection h; omega), h1]
    simp [e]
/-- The four cells of a prefix that lies at the head of block b. -/
structure PfxAt (w : World) (b : Nat) (f r : Int) (s : ByteArray) (l : Int) : Prop where
  c0 : w.cell? ⟨b, 0, none⟩ = some (.int .i64 f)
  c1 : w.cell? ⟨b, 1, none⟩ = some (.int .u64 r)
  c2 : w.cell? ⟨b, 2, none⟩ = some (.string s)
  c3 : w.cell? ⟨b, 3, none⟩ = some (.int .i64 l)
  f0 : w.frozen? ⟨b, 0, none⟩ = false
  f1 : w.frozen? ⟨b, 1, none⟩ = false
  f2 : w.frozen? ⟨b, 2, none⟩ = false
  f3 : w.frozen? ⟨b, 3, none⟩ = false
theorem PfxAt.kept {w w' : World} {b B : Nat} {f r : Int} {s : ByteArray} {l : Int} (h : PfxAt w b f r s l) (hb : Below B w w') (hB : b < B) : PfxAt w' b f r s l := by
  obtain ⟨c0, c1, c2, c3, f0, f1, f2, f3⟩ := h
  exact ⟨(hb.cell (p := ⟨b, 0, none⟩) hB).trans c0, (hb.cell (p := ⟨b, 1, none⟩) hB).trans c1, (hb.cell (p := ⟨b, 2, none⟩) hB).trans c2, (hb.cell (p := ⟨b, 3, none⟩) hB).trans c3,
    (hb.frozen (p := ⟨b, 0, none⟩) hB).trans f0, (hb.frozen (p := ⟨b, 1, none⟩) hB).trans f1, (hb.frozen (p := ⟨b, 2, none⟩) hB).trans f2, (hb.frozen (p := ⟨b, 3, none⟩) hB).trans f3⟩
theorem PfxAt.set_other {w : World} {b : Nat} {f r : Int} {s : ByteArray} {l : Int} (h : PfxAt w b f r s l) (a : Addr) (v : Value) (hb : a.block ≠ b) : PfxAt (w.setCell a v) b f r s l := by
  obtain ⟨c0, c1, c2, c3, f0, f1, f2, f3⟩ := h
  have ne : ∀ i, a ≠ ⟨b, i, none⟩ := fun i e => hb (by rw [e])
  exact ⟨by rw [World.cell?_setCell_other _ _ _ _ (ne _)]; exact c0, by rw [World.cell?_setCell_other _ _ _ _ (ne _)]; exact c1, by rw [World.cell?_setCell_other _ _ _ _ (ne _)]; exact c2, by rw [World.cell?_setCell_other _ _ _ _ (ne _)]; exact c3,
    by rw [World.frozen?_setCell]; exact f0, by rw [World.frozen?_setCell]; exact f1, by rw [World.frozen?_setCell]; exact f2, by rw [World.frozen?_setCell]; exact f3⟩
/-- What the table of families holds besides: whether a family is with distinguishers. -/
structure FamRds (w : World) : Prop where
  c1 : w.cell? ⟨0, 5, none⟩ = some (.bool false)
  c2 : w.cell? ⟨0, 8, none⟩ = some (.bool false)
  c3 : w.cell? ⟨0, 11, none⟩ = some (.bool false)
  c4 : w.cell? ⟨0, 14, none⟩ = some (.bool true)
  c5 : w.cell? ⟨0, 17, none⟩ = some (.bool true)
theorem lt_of_cell {w : World} {b i : Nat} {v : Value} (h : w.cell? ⟨b, i, none⟩ = some v) : b < w.heap.size := by
  by_cases e : b < w.heap.size
  · exact e
  · rw [World.cell?, Array.getElem?_eq_none (by simpa using e)] at h; simp at h
theorem FamSizes.below {w w' : World} (h : FamSizes w) (hb : Below w.heap.size w w') : FamSizes w' := by
  obtain ⟨c0, c1, c2, c3, c4, c5⟩ := h
  have l := lt_of_cell c0
  exact ⟨(hb.cell (p := ⟨0, _, none⟩) l).trans c0, (hb.cell (p := ⟨0, _, none⟩) l).trans c1, (hb.cell (p := ⟨0, _, none⟩) l).trans c2, (hb.cell (p := ⟨0, _, none⟩) l).trans c3, (hb.cell (p := ⟨0, _, none⟩) l).trans c4, (hb.cell (p := ⟨0, _, none⟩) l).trans c5⟩
theorem FamRds.below {w w' : World} (h : FamRds w) (hb : Below w.heap.size w w') : FamRds w' := by
  obtain ⟨c1, c2, c3, c4, c5⟩ := h
  have l := lt_of_cell c1
  exact ⟨(hb.cell (p := ⟨0, _, none⟩) l).trans c1, (hb.cell (p := ⟨0, _, none⟩) l).trans c2, (hb.cell (p := ⟨0, _, none⟩) l).trans c3, (hb.cell (p := ⟨0, _, none⟩) l).trans c4, (hb.cell (p := ⟨0, _, none⟩) l).trans c5⟩
/-- The world at a place of the walk, by what is known of it. -/
theorem with_world {P : Program} {c : Code} {Q : Exit → Act → World → Prop} {a : Act} {W : World} (F : World → Prop) (hF : F W) (h : ∀ wx, F wx → Code.wp P c Q a wx) : Code.wp P c Q a W := h W hF
/-- The cells of the table of families. -/
def famCells : Array Value := #[.string ⟨#[]⟩, .int .i64 0, .bool false, .string ⟨#[118, 52]⟩, .int .i64 4, .bool false, .string ⟨#[118, 54]⟩, .int .i64 16, .bool false, .string ⟨#[108, 52]⟩, .int .i64 4, .bool false, .string ⟨#[118, 112, 110, 52]⟩, .int .i64 4, .bool true, .string ⟨#[118, 112, 110, 54]⟩, .int .i64 16, .bool true]
/-- The cells of the table of styles. -/
def stCells : Array Value := #[.string ⟨#[46]⟩, .int .i64 4, .int .i64 1, .int .i64 10, .string ⟨#[58]⟩, .int .i64 8, .int .i64 2, .int .i64 16]
/-- The two tables lie in their blocks. -/
structure Tabs (w : World) : Prop where
  fam : ∃ t fr, w.heap[0]? = some (.cells famCells t fr)
  sty : ∃ t fr, w.heap[1]? = some (.cells stCells t fr)
  max : ∃ m, w.cell? ⟨2, 0, none⟩ = some (.int .i64 m)
theorem lt_of_heap {w : World} {b : Nat} {o : Obj} (h : w.heap[b]? = some o) : b < w.heap.size := by
  by_cases e : b < w.heap.size
  · exact e
  · rw [Array.getElem?_eq_none (by simpa using e)] at h; cases h
theorem Tabs.below {w w' : World} (h : Tabs w) (hb : Below w.heap.size w w') : Tabs w' := by
  obtain ⟨⟨t, fr, h0⟩, ⟨t1, fr1, h1⟩, ⟨m, h3⟩⟩ := h
  exact ⟨⟨t, fr, (hb.block 0 (lt_of_heap h0)).trans h0⟩, ⟨t1, fr1, (hb.block 1 (lt_of_heap h1)).trans h1⟩, ⟨m, (hb.cell (p := ⟨2, 0, none⟩) (lt_of_cell h3)).trans h3⟩⟩
theorem ret_bool {a b : Bool} (h : a = b) : Ending.returned (.bool a) = .returned (.bool b) := by rw [h]
theorem below_drewN {B : Nat} {a w : World} (h : Below B a w) (n : Nat) : Below B a (w.drewN n) := ⟨h.os, h.tape, h.output, h.size, h.block⟩
theorem PfxAt.drewN {w : World} {b : Nat} {f r : Int} {s : ByteArray} {l : Int} (h : PfxAt w b f r s l) (n : Nat) : PfxAt (w.drewN n) b f r s l := ⟨h.c0, h.c1, h.c2, h.c3, h.f0, h.f1, h.f2, h.f3⟩
end Go.Proofs.YtlhnfejgkhilkaaGreatDoor
