/-
  Communities as they lie in memory; the tables.
-/
import Derived.Test.YtpahnebhcfpplabGreatDoorC6
import Derived.Test.YtpahnebhcfpplabGreatDoorX0
import Derived.WalkKit
import Derived.WalkSpells
import Derived.WalkLawsBesides
import Derived.Laws.IdiomStrings
import Derived.Below
import Derived.LoopN
import Derived.RegionTactic
namespace Go.Proofs.YtpahnebhcfpplabGreatDoor
open Go.RowKit
/-- Numbers of a kind that lie in a row. -/
def RowQ (q : IntKind) (m : Nat) (w : World) (b off : Nat) (l : List Nat) : Prop := ∀ j (h : j < l.length), w.cell? ⟨b, off + j, none⟩ = some (.int q (l[j] : Int)) ∧ l[j] < m
/-- Large communities that lie in a row. -/
def RowL (w : World) (b off : Nat) (l : List Lg) : Prop := ∀ j (h : j < l.length),
  (w.cell? ⟨b, off + j * 3, none⟩ = some (.int .u32 (l[j].1 : Int)) ∧ w.cell? ⟨b, off + j * 3 + 1, none⟩ = some (.int .u32 (l[j].2.1 : Int)) ∧ w.cell? ⟨b, off + j * 3 + 2, none⟩ = some (.int .u32 (l[j].2.2 : Int))) ∧
  l[j].1 < 4294967296 ∧ l[j].2.1 < 4294967296 ∧ l[j].2.2 < 4294967296
/-- A list that lies in memory. -/
def SlAt {α : Type} (R : Nat → Nat → List α → Prop) (v : Value) (l : List α) : Prop :=
  ∃ (ad : Option Addr) (b off cap : Nat), v = .slice ad l.length cap ∧ (ad = some ⟨b, off, none⟩ ∨ l.length = 0) ∧ (l.length ≤ cap ∧ l.length ≤ 35184372088832) ∧ R b off l
def PlainAt (w : World) (v : Value) (l : List Nat) : Prop := SlAt (RowQ .u32 4294967296 w) v l
def ExtsAt (w : World) (v : Value) (l : List Nat) : Prop := SlAt (RowQ .u64 18446744073709551616 w) v l
def LargesAt (w : World) (v : Value) (l : List Lg) : Prop := SlAt (RowL w) v l
theorem RowQ.below {q : IntKind} {m : Nat} {w w' : World} {b off : Nat} {l : List Nat} (h : RowQ q m w b off l) (hb : Below w.heap.size w w') : RowQ q m w' b off l :=
  fun j hj => ⟨below_cell hb (h j hj).1, (h j hj).2⟩
theorem RowL.below {w w' : World} {b off : Nat} {l : List Lg} (h : RowL w b off l) (hb : Below w.heap.size w w') : RowL w' b off l :=
  fun j hj => ⟨⟨below_cell hb (h j hj).1.1, below_cell hb (h j hj).1.2.1, below_cell hb (h j hj).1.2.2⟩, (h j hj).2⟩
theorem SlAt.imp {α : Type} {R R' : Nat → Nat → List α → Prop} {v : Value} {l : List α} (h : SlAt R v l) (hR : ∀ b off, R b off l → R' b off l) : SlAt R' v l := by
  obtain ⟨ad, b, off, cap, h1, h2, h3, h4⟩ := h
  exact ⟨ad, b, off, cap, h1, h2, h3, hR b off h4⟩
theorem PlainAt.below {w w' : World} {v : Value} {l : List Nat} (h : PlainAt w v l) (hb : Below w.heap.size w w') : PlainAt w' v l := SlAt.imp h fun _ _ h => h.below hb
theorem ExtsAt.below {w w' : World} {v : Value} {l : List Nat} (h : ExtsAt w v l) (hb : Below w.heap.size w w') : ExtsAt w' v l := SlAt.imp h fun _ _ h => h.below hb
theorem LargesAt.below {w w' : World} {v : Value} {l : List Lg} (h : LargesAt w v l) (hb : Below w.heap.size w w') : LargesAt w' v l := SlAt.imp h fun _ _ h => h.below hb
end Go.Proofs.YtpahnebhcfpplabGreatDoor
