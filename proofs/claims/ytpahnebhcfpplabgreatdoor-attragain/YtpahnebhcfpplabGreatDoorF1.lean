/-
  Attributes as they lie in memory, and raw attributes.
-/
import Derived.Test.YtpahnebhcfpplabGreatDoorE3
import Derived.Test.YtpahnebhcfpplabGreatDoorE5
import Derived.Test.YtpahnebhcfpplabGreatDoorE6
import Derived.Test.YtpahnebhcfpplabGreatDoorT5
import Derived.Laws.AppendOwn
import Derived.Laws.OwnMore
namespace Go.Proofs.YtpahnebhcfpplabGreatDoor
open Go.RowKit
/-- Attributes: the plain ones, and the values of the slices that hold their lists. -/
structure Am where
  o : Int
  vp : Value
  nx : ByteArray
  hm : Bool
  md : Nat
  hp : Bool
  pf : Nat
  at_ : Bool
  ga : Nat
  ai : Nat
  vc : Value
  vx : Value
  vl : Value
  ho : Bool
  og : Nat
  vk : Value
  L : List Sg
  C : List Nat
  X : List Nat
  G : List Lg
  K : List Nat
def cellsM (m : Am) : Array Value := #[.int .i64 m.o, m.vp, .string m.nx, .bool m.hm, .int .u32 (m.md : Int), .bool m.hp, .int .u32 (m.pf : Int), .bool m.at_, .int .u32 (m.ga : Int), .int .u32 (m.ai : Int), m.vc, m.vx, m.vl, .bool m.ho, .int .u32 (m.og : Int), m.vk]
/-- They lie in a block. -/
def AIn (w : World) (p : Nat) (m : Am) : Prop := ∃ t fz, w.heap[p]? = some (.cells (cellsM m) t fz)
/-- Their lists lie in memory, and their numbers are numbers. -/
structure AOk (w : World) (m : Am) : Prop where
  path : PathAt w m.vp m.L
  comm : PlainAt w m.vc m.C
  exts : ExtsAt w m.vx m.X
  larg : LargesAt w m.vl m.G
  clus : PlainAt w m.vk m.K
  md : m.md < 4294967296
  pf : m.pf < 4294967296
  ga : m.ga < 4294967296
  ai : m.ai < 4294967296
  og : m.og < 4294967296
theorem AOk.below {w w' : World} {m : Am} (h : AOk w m) (hb : Below w.heap.size w w') : AOk w' m := ⟨h.path.below hb, h.comm.below hb, h.exts.below hb, h.larg.below hb, h.clus.below hb, h.md, h.pf, h.ga, h.ai, h.og⟩
theorem AIn.below {w w' : World} {p : Nat} {m : Am} (h : AIn w p m) (hb : Below w.heap.size w w') : AIn w' p m := by
  obtain ⟨t, fz, h⟩ := h
  exact ⟨t, fz, (hb.block p (Array.getElem?_eq_some_iff.mp h).1).trans h⟩
theorem AIn.cell {w : World} {p : Nat} {m : Am} (h : AIn w p m) (j : Nat) (v : Value) (hj : (cellsM m)[j]? = some v) : w.cell? ⟨p, j, none⟩ = some v := by
  obtain ⟨t, fz, h⟩ := h
  exact cell_row h j v hj
theorem PathAt.sl {w : World} {v : Value} {L : List Sg} (h : PathAt w v L) : ∃ ad n cap, v = .slice ad n cap := by
  obtain ⟨ad, _, _, cap, h, _⟩ := h
  exact ⟨ad, _, cap, h⟩
theorem SlAt.sl {α : Type} {R : Nat → Nat → List α → Prop} {v : Value} {l : List α} (h : SlAt R v l) : ∃ ad n cap, v = .slice ad n cap := by
  obtain ⟨ad, _, _, cap, h, _⟩ := h
  exact ⟨ad, _, cap, h⟩
/-- A raw attribute: its flags, its type, its value. -/
abbrev Rw := Nat × Nat × ByteArray
def cellsR (R : List Rw) : List Value := R.flatMap fun r => [.int .u8 (r.1 : Int), .int .u8 (r.2.1 : Int), .string r.2.2]
theorem cellsR_snoc (R : List Rw) (r : Rw) : cellsR (R ++ [r]) = cellsR R ++ [.int .u8 (r.1 : Int), .int .u8 (r.2.1 : Int), .string r.2.2] := by simp [cellsR]
/-- Raw attributes in a row of their own. -/
def OwnR (w : World) (base : Nat) (v : Value) (R : List Rw) : Prop := w.ownsRow base 30 3 v R.length (cellsR R)
theorem OwnR.below {w w' : World} {base : Nat} {v : Value} {R : List Rw} (h : OwnR w base v R) (hb : Below w.heap.size w w') : OwnR w' base v R := owns_below h hb
theorem info46 : (Tryz.prog.info? 30).map (fun i => (i.zero, i.size, i.bytes)) = some (some (.agg #[.int .u8 0, .int .u8 0, .string ⟨#[]⟩]), 3, 24) := by kernel_rfl
theorem news3 (w : World) (a b c : Value) (t : TypeId) : ∀ (j : Nat) (u : Value), [a, b, c][j]? = some u → (w.alloc (.cells #[a, b, c] t)).cell? (Addr.add ⟨w.heap.size, 0, none⟩ j) = some u := by
  intro j u hj
  rcases j with _ | _ | _ | j
  · simp at hj; subst hj; simp [Addr.add]
  · simp at hj; subst hj; simp [Addr.add]
  · simp at hj; subst hj; simp [Addr.add]
  · simp at hj
theorem three_raw (a b : Int) (s : ByteArray) : ∀ u ∈ [Value.int .u8 a, .int .u8 b, .string s], u.oneCell' = true := by
  intro u hu
  simp at hu
  rcases hu with rfl | rfl | rfl <;> rfl
end Go.Proofs.YtpahnebhcfpplabGreatDoor
