/-
  Paths as they lie in memory.
-/
import Derived.Test.YtbdfigfjoiefiaaDoorProg
import Derived.Test.YtbdfigfjoiefiaaDoorS0
import Derived.WalkKit
import Derived.WalkSpells
import Derived.WalkLawsBesides
import Derived.Laws.IdiomStrings
import Derived.Below
import Derived.LoopN
import Derived.RegionTactic
import Derived.Lib.ItoaNum
import Derived.Lib.LaidTab
namespace Go.Proofs.YtbdfigfjoiefiaaDoor
open Go.RowKit
/-- ASs that lie in a row. -/
def RowU (w : World) (b off : Nat) (l : List Nat) : Prop := ∀ j (h : j < l.length), w.cell? ⟨b, off + j, none⟩ = some (.int .u32 (l[j] : Int)) ∧ l[j] < 4294967296
/-- ASs that lie in memory. -/
def ASAt (w : World) (v : Value) (l : List Nat) : Prop :=
  ∃ (ad : Option Addr) (b off cap : Nat), v = .slice ad l.length cap ∧ (ad = some ⟨b, off, none⟩ ∨ l.length = 0) ∧ (l.length ≤ cap ∧ l.length ≤ 35184372088832) ∧ RowU w b off l
/-- A segment that lies in memory. -/
def SegAt (w : World) (b o : Nat) (s : Sg) : Prop := w.cell? ⟨b, o, none⟩ = some (.int .i64 s.1) ∧ ∃ v, w.cell? ⟨b, o + 1, none⟩ = some v ∧ ASAt w v s.2
/-- The rows of a path. -/
def RowS (w : World) (b off : Nat) (L : List Sg) : Prop := ∀ i (h : i < L.length), SegAt w b (off + i * 2) L[i]
/-- A path that lies in memory. -/
def PathAt (w : World) (v : Value) (L : List Sg) : Prop :=
  ∃ (ad : Option Addr) (b off cap : Nat), v = .slice ad L.length cap ∧ (ad = some ⟨b, off, none⟩ ∨ L.length = 0) ∧ (L.length ≤ cap ∧ L.length ≤ 4398046511104) ∧ RowS w b off L
theorem lt_of_cell {w : World} {a : Addr} {v : Value} (h : w.cell? a = some v) : a.block < w.heap.size := by
  by_cases e : a.block < w.heap.size
  · exact e
  · rw [World.cell?] at h
    simp [Array.getElem?_eq_none (Nat.le_of_not_lt e)] at h
theorem below_cell {w w' : World} {a : Addr} {v : Value} (hb : Below w.heap.size w w') (h : w.cell? a = some v) : w'.cell? a = some v :=
  (hb.cell (p := a) (lt_of_cell h)).trans h
theorem RowU.below {w w' : World} {b off : Nat} {l : List Nat} (h : RowU w b off l) (hb : Below w.heap.size w w') : RowU w' b off l :=
  fun j hj => ⟨below_cell hb (h j hj).1, (h j hj).2⟩
theorem ASAt.below {w w' : World} {v : Value} {l : List Nat} (h : ASAt w v l) (hb : Below w.heap.size w w') : ASAt w' v l := by
  obtain ⟨ad, b, off, cap, h1, h2, h3, h4⟩ := h
  exact ⟨ad, b, off, cap, h1, h2, h3, h4.below hb⟩
theorem SegAt.below {w w' : World} {b o : Nat} {s : Sg} (h : SegAt w b o s) (hb : Below w.heap.size w w') : SegAt w' b o s := by
  obtain ⟨h1, v, h2, h3⟩ := h
  exact ⟨below_cell hb h1, v, below_cell hb h2, h3.below hb⟩
theorem RowS.below {w w' : World} {b off : Nat} {L : List Sg} (h : RowS w b off L) (hb : Below w.heap.size w w') : RowS w' b off L :=
  fun i hi => (h i hi).below hb
theorem PathAt.below {w w' : World} {v : Value} {L : List Sg} (h : PathAt w v L) (hb : Below w.heap.size w w') : PathAt w' v L := by
  obtain ⟨ad, b, off, cap, h1, h2, h3, h4⟩ := h
  exact ⟨ad, b, off, cap, h1, h2, h3, h4.below hb⟩
theorem below_drewN' {B : Nat} {a w : World} (h : Below B a w) (n : Nat) : Below B a (w.drewN n) := ⟨h.os, h.tape, h.output, h.size, h.block⟩
theorem RowU.drew {w : World} {b off : Nat} {l : List Nat} (h : RowU w b off l) : RowU w.drew b off l := h
theorem PathAt.drew {w : World} {v : Value} {L : List Sg} (h : PathAt w v L) : PathAt w.drew v L := h
/-- The first segments of a path. -/
theorem PathAt.first {w : World} {ad : Option Addr} {n cap : Nat} {L : List Sg} (h : PathAt w (.slice ad n cap) L) (k : Nat) (hk : k ≤ L.length) : PathAt w (.slice ad k cap) (L.take k) := by
  obtain ⟨ad', b, off, cap', h1, h2, h3, h4⟩ := h
  simp only [Value.slice.injEq] at h1
  obtain ⟨rfl, rfl, rfl⟩ := h1
  have hl : (L.take k).length = k := by simp; omega
  refine ⟨ad, b, off, cap, by rw [hl], ?_, ⟨by omega, by omega⟩, ?_⟩
  · rcases h2 with h2 | h2
    · exact Or.inl h2
    · right; omega
  · intro i hi
    have := h4 i (by omega)
    rw [List.getElem_take]
    exact this
theorem cell_row {w : World} {g : Nat} {cur : Array Value} {t : TypeId} {fz : Nat × Nat} (h : w.heap[g]? = some (.cells cur t fz)) (j : Nat) (v : Value) (hj : cur[j]? = some v) : w.cell? ⟨g, j, none⟩ = some v := by
  simp [World.cell?, h, hj]
/-- The brackets, at the kinds of segments. -/
def brCells : Array Value := #[.string ⟨#[]⟩, .string ⟨#[123, 125]⟩, .string ⟨#[60, 62]⟩, .string ⟨#[40, 41]⟩, .string ⟨#[91, 93]⟩]
/-- The powers of ten. -/
def powCells : Array Value := (Lib.pow10Tab.map fun z => Value.int .u64 z).toArray
/-- The two tables that are read lie in their blocks. -/
def Tabs (w : World) : Prop := (∃ t fz, w.heap[0]? = some (.cells brCells t fz)) ∧ (∃ t fz, w.heap[1]? = some (.cells powCells t fz))
theorem Tabs.size {w : World} (h : Tabs w) : 2 ≤ w.heap.size := by
  obtain ⟨_, ⟨t, fz, h⟩⟩ := h
  have := (Array.getElem?_eq_some_iff.mp h).1
  omega
theorem Tabs.below {w w' : World} (h : Tabs w) (hb : Below w.heap.size w w') : Tabs w' := by
  have hz := h.size
  obtain ⟨⟨t, fz, h1⟩, ⟨t', fz', h2⟩⟩ := h
  exact ⟨⟨t, fz, (hb.block 0 (by omega)).trans h1⟩, ⟨t', fz', (hb.block 1 (by omega)).trans h2⟩⟩
theorem Tabs.pow {w : World} (h : Tabs w) {name : String} (hn : Tryd.prog.globalNamed name = some 1) : Lib.TabIs Tryd.prog w name .u64 Lib.pow10Tab := by
  obtain ⟨_, ⟨t, fz, h⟩⟩ := h
  unfold Lib.TabIs World.var?
  rw [hn, Option.bind_some, h]
  rfl
end Go.Proofs.YtbdfigfjoiefiaaDoor
