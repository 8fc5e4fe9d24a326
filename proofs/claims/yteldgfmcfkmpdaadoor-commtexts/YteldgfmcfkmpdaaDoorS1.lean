/-
  Communities as they lie in memory; the tables.
-/
import Derived.Test.YteldgfmcfkmpdaaDoorProg
import Derived.Test.YteldgfmcfkmpdaaDoorX0
import Derived.WalkKit
import Derived.WalkSpells
import Derived.WalkLawsBesides
import Derived.Laws.IdiomStrings
import Derived.Below
import Derived.LoopN
import Derived.RegionTactic
import Derived.Lib.ItoaNum
import Derived.Lib.LaidTab
namespace Go.Proofs.YteldgfmcfkmpdaaDoor
open Go.RowKit
/-- Numbers of a kind that lie in a row. -/
def RowQ (q : IntKind) (m : Nat) (w : World) (b off : Nat) (l : List Nat) : Prop := ∀ j (h : j < l.length), w.cell? ⟨b, off + j, none⟩ = some (.int q (l[j] : Int)) ∧ l[j] < m
/-- Large communities that lie in a row. -/
def RowL (w : World) (b off : Nat) (l : List Lg) : Prop := ∀ j (h : j < l.length),
  (w.cell? ⟨b, off + j * 3, none⟩ = some (.int .u32 (l[j].1 : Int)) ∧ w.cell? ⟨b, off + j * 3 + 1, none⟩ = some (.int .u32 (l[j].2.1 : Int)) ∧ w.cell? ⟨b, off + j * 3 + 2, none⟩ = some (.int .u32 (l[j].2.2 : Int))) ∧
  l[j].1 < 4294967296 ∧ l[j].2.1 < 4294967296 ∧ l[j].2.2 < 4294967296
/-- A list that lies in memory. -/
def SlAt {α : Type} (R : Nat → Nat → List α → Prop) (v : Value) (l : List α) : Prop :=
  ∃ (ad : Option Addr) (b off cap : Nat), v = .slice ad l.length cap ∧ (ad = some ⟨b, off, none⟩ ∨ l.length = 0) ∧ (l.length ≤ cap ∧ l.length ≤ 35184372088832) ∧ R b off l
def PlainAt (w : World) (v : Value) (l : List Nat) : Prop := SlAt (RowQ .u32 4294967296 w) v l
def ExtsAt (w : World) (v : Value) (l : List Nat) : Prop := SlAt (RowQ .u64 18446744073709551616 w) v l
def LargesAt (w : World) (v : Value) (l : List Lg) : Prop := SlAt (RowL w) v l
theorem lt_of_cell {w : World} {a : Addr} {v : Value} (h : w.cell? a = some v) : a.block < w.heap.size := by
  by_cases e : a.block < w.heap.size
  · exact e
  · rw [World.cell?] at h
    simp [Array.getElem?_eq_none (Nat.le_of_not_lt e)] at h
theorem below_cell {w w' : World} {a : Addr} {v : Value} (hb : Below w.heap.size w w') (h : w.cell? a = some v) : w'.cell? a = some v :=
  (hb.cell (p := a) (lt_of_cell h)).trans h
theorem RowQ.below {q : IntKind} {m : Nat} {w w' : World} {b off : Nat} {l : List Nat} (h : RowQ q m w b off l) (hb : Below w.heap.size w w') : RowQ q m w' b off l :=
  fun j hj => ⟨below_cell hb (h j hj).1, (h j hj).2⟩
theorem RowL.below {w w' : World} {b off : Nat} {l : List Lg} (h : RowL w b off l) (hb : Below w.heap.size w w') : RowL w' b off l :=
  fun j hj => ⟨⟨below_cell hb (h j hj).1.1, below_cell hb (h j hj).1.2.1, below_cell hb (h j hj).1.2.2⟩, (h j hj).2⟩
theorem SlAt.imp {α : Type} {R R' : Nat → Nat → List α → Prop} {v : Value} {l : List α} (h : SlAt R v l) (hR : ∀ b off, R b off l → R' b off l) : SlAt R' v l := by
  obtain ⟨ad, b, off, cap, h1, h2, h3, h4⟩ := h
  exact ⟨ad, b, off, cap, h1, h2, h3, hR b off h4⟩
theorem PlainAt.below {w w' : World} {v : Value} {l : List Nat} (h : PlainAt w v l) (hb : Below w.heap.size w w') : PlainAt w' v l := SlAt.imp h fun _ _ h => h.below hb
theorem ExtsAt.below {w w' : World} {v : Value} {l : List Nat} (h : ExtsAt w v l) (hb : Below w.heap.size w w') : ExtsAt w' v l := SlAt.imp h fun _ _ h => h.below hb
theorem LargesAt.below {w w' : World} {v : Value} {l : List Lg} (h : LargesAt w v l) (hb : Below w.heap.size w w') : LargesAt w' v l := SlAt.imp h fun _ _ h => h.below hb
theorem below_drewN' {B : Nat} {a w : World} (h : Below B a w) (n : Nat) : Below B a (w.drewN n) := ⟨h.os, h.tape, h.output, h.size, h.block⟩
/-- The names, with their communities. -/
def nmExport : ByteArray := ⟨#[110, 111, 45, 101, 120, 112, 111, 114, 116]⟩
def nmAdvertise : ByteArray := ⟨#[110, 111, 45, 97, 100, 118, 101, 114, 116, 105, 115, 101]⟩
def nmConfed : ByteArray := ⟨#[110, 111, 45, 101, 120, 112, 111, 114, 116, 45, 115, 117, 98, 99, 111, 110, 102, 101, 100]⟩
def nameCells : Array Value := #[.int .u32 4294967041, .string nmExport, .int .u32 4294967042, .string nmAdvertise, .int .u32 4294967043, .string nmConfed]
/-- The powers of ten. -/
def powCells : Array Value := (Lib.pow10Tab.map fun z => Value.int .u64 z).toArray
/-- The two tables that are read lie in their blocks. -/
def Tabs (w : World) : Prop := (∃ t fz, w.heap[0]? = some (.cells nameCells t fz)) ∧ (∃ t fz, w.heap[4]? = some (.cells powCells t fz))
theorem Tabs.size {w : World} (h : Tabs w) : 5 ≤ w.heap.size := by
  obtain ⟨_, ⟨t, fz, h⟩⟩ := h
  have := (Array.getElem?_eq_some_iff.mp h).1
  omega
theorem Tabs.below {w w' : World} (h : Tabs w) (hb : Below w.heap.size w w') : Tabs w' := by
  have hz := h.size
  obtain ⟨⟨t, fz, h1⟩, ⟨t', fz', h2⟩⟩ := h
  exact ⟨⟨t, fz, (hb.block 0 (by omega)).trans h1⟩, ⟨t', fz', (hb.block 4 (by omega)).trans h2⟩⟩
theorem Tabs.pow {w : World} (h : Tabs w) {name : String} (hn : Tryd.prog.globalNamed name = some 4) : Lib.TabIs Tryd.prog w name .u64 Lib.pow10Tab := by
  obtain ⟨_, ⟨t, fz, h⟩⟩ := h
  unfold Lib.TabIs World.var?
  rw [hn, Option.bind_some, h]
  rfl
end Go.Proofs.YteldgfmcfkmpdaaDoor
