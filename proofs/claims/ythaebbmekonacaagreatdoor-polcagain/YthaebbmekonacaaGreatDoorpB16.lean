/-
  The tables of families and styles as they lie in memory, and the contract of the look-up of a family by its name, for every text.
-/
import Derived.Test.YthaebbmekonacaaGreatDoorpB8
import Derived.Test.YthaebbmekonacaaGreatDoorpB10
namespace Go.Proofs.YthaebbmekonacaaGreatDoor.Pr
open Go.RowKit
/-- The cells of the table of families. -/
def famCells : Array Value := #[.string ⟨#[]⟩, .int .i64 0, .bool false, .string ⟨#[118, 52]⟩, .int .i64 4, .bool false, .string ⟨#[118, 54]⟩, .int .i64 16, .bool false, .string ⟨#[108, 52]⟩, .int .i64 4, .bool false, .string ⟨#[118, 112, 110, 52]⟩, .int .i64 4, .bool true, .string ⟨#[118, 112, 110, 54]⟩, .int .i64 16, .bool true]
/-- The cells of the table of styles. -/
def stCells : Array Value := #[.string ⟨#[46]⟩, .int .i64 4, .int .i64 1, .int .i64 10, .string ⟨#[58]⟩, .int .i64 8, .int .i64 2, .int .i64 16]
/-- The two tables lie in their blocks. -/
structure Tabs (w : World) : Prop where
  fam : ∃ t fr, w.heap[1]? = some (.cells famCells t fr)
  sty : ∃ t fr, w.heap[3]? = some (.cells stCells t fr)
  max : ∃ m, w.cell? ⟨5, 0, none⟩ = some (.int .i64 m)
theorem lt_of_heap {w : World} {b : Nat} {o : Obj} (h : w.heap[b]? = some o) : b < w.heap.size := by
  by_cases e : b < w.heap.size
  · exact e
  · rw [Array.getElem?_eq_none (by simpa using e)] at h; cases h
theorem Tabs.below {w w' : World} (h : Tabs w) (hb : Below w.heap.size w w') : Tabs w' := by
  obtain ⟨⟨t, fr, h0⟩, ⟨t1, fr1, h1⟩, ⟨m, h3⟩⟩ := h
  exact ⟨⟨t, fr, (hb.block 1 (lt_of_heap h0)).trans h0⟩, ⟨t1, fr1, (hb.block 3 (lt_of_heap h1)).trans h1⟩, ⟨m, (hb.cell (p := ⟨5, 0, none⟩) (lt_of_cell h3)).trans h3⟩⟩
theorem Tabs.sizes {w : World} (h : Tabs w) : FamSizes w := by
  obtain ⟨⟨t, fr, h0⟩, _, _⟩ := h
  exact ⟨cell_of_row w 1 1 _ t fr h0, cell_of_row w 1 4 _ t fr h0, cell_of_row w 1 7 _ t fr h0, cell_of_row w 1 10 _ t fr h0, cell_of_row w 1 13 _ t fr h0, cell_of_row w 1 16 _ t fr h0⟩
theorem Tabs.rds {w : World} (h : Tabs w) : FamRds w := by
  obtain ⟨⟨t, fr, h0⟩, _, _⟩ := h
  exact ⟨cell_of_row w 1 5 _ t fr h0, cell_of_row w 1 8 _ t fr h0, cell_of_row w 1 11 _ t fr h0, cell_of_row w 1 14 _ t fr h0, cell_of_row w 1 17 _ t fr h0⟩
theorem nil_beq (l : List UInt8) : (([] : List UInt8) == l) = l.isEmpty := by cases l <;> rfl
/-- The family of a name; 0, if there is none. -/
def famOf (l : List UInt8) : Int := if ([] == l) = true then 0 else if ([118, 52] == l) = true then 1 else if ([118, 54] == l) = true then 2 else if ([108, 52] == l) = true then 3 else if ([118, 112, 110, 52] == l) = true then 4 else if ([118, 112, 110, 54] == l) = true then 5 else 0
/-- No name ahead of row k is the text. -/
def Nz (l : List UInt8) (k : Nat) : Prop := (1 ≤ k → ([] == l) = false) ∧ (2 ≤ k → ([118, 52] == l) = false) ∧ (3 ≤ k → ([118, 54] == l) = false) ∧ (4 ≤ k → ([108, 52] == l) = false) ∧ (5 ≤ k → ([118, 112, 110, 52] == l) = false) ∧ (6 ≤ k → ([118, 112, 110, 54] == l) = false)
theorem Nz.hit0 {l : List UInt8} (_z : Nz l 0) (h : ([] == l) = true) : (0 : Int) = famOf l := by
  unfold famOf
  simp [h]
theorem Nz.next0 {l : List UInt8} (_z : Nz l 0) (h : ([] == l) = false) : Nz l 1 := by
  unfold Nz at *
  simp at *
  simp [h]
theorem Nz.hit1 {l : List UInt8} (z : Nz l 1) (h : ([118, 52] == l) = true) : (1 : Int) = famOf l := by
  have z' := z
  unfold Nz at z'
  unfold famOf
  simp [z', h]
theorem Nz.next1 {l : List UInt8} (z : Nz l 1) (h : ([118, 52] == l) = false) : Nz l 2 := by
  unfold Nz at *
  simp at *
  simp [z, h]
theorem Nz.hit2 {l : List UInt8} (z : Nz l 2) (h : ([118, 54] == l) = true) : (2 : Int) = famOf l := by
  have z' := z
  unfold Nz at z'
  unfold famOf
  simp [z', h]
theorem Nz.next2 {l : List UInt8} (z : Nz l 2) (h : ([118, 54] == l) = false) : Nz l 3 := by
  unfold Nz at *
  simp at *
  simp [z, h]
theorem Nz.hit3 {l : List UInt8} (z : Nz l 3) (h : ([108, 52] == l) = true) : (3 : Int) = famOf l := by
  have z' := z
  unfold Nz at z'
  unfold famOf
  simp [z', h]
theorem Nz.next3 {l : List UInt8} (z : Nz l 3) (h : ([108, 52] == l) = false) : Nz l 4 := by
  unfold Nz at *
  simp at *
  simp [z, h]
theorem Nz.hit4 {l : List UInt8} (z : Nz l 4) (h : ([118, 112, 110, 52] == l) = true) : (4 : Int) = famOf l := by
  have z' := z
  unfold Nz at z'
  unfold famOf
  simp [z', h]
theorem Nz.next4 {l : List UInt8} (z : Nz l 4) (h : ([118, 112, 110, 52] == l) = false) : Nz l 5 := by
  unfold Nz at *
  simp at *
  simp [z, h]
theorem Nz.hit5 {l : List UInt8} (z : Nz l 5) (h : ([118, 112, 110, 54] == l) = true) : (5 : Int) = famOf l := by
  have z' := z
  unfold Nz at z'
  unfold famOf
  simp [z', h]
theorem Nz.next5 {l : List UInt8} (z : Nz l 5) (h : ([118, 112, 110, 54] == l) = false) : Nz l 6 := by
  unfold Nz at *
  simp at *
  simp [z, h]
theorem Nz.none {l : List UInt8} (z : Nz l 6) : (0 : Int) = famOf l := by
  unfold Nz at z
  unfold famOf
  simp at z
  simp [z]
theorem ix0 (w : World) : (Instr.index 213 (.agg famCells) (.int .i64 0)).run Tryz.prog w = .ok (.agg #[.string ⟨#[]⟩, .int .i64 0, .bool false]) w := by kernel_rfl
theorem ix1 (w : World) : (Instr.index 213 (.agg famCells) (.int .i64 1)).run Tryz.prog w = .ok (.agg #[.string ⟨#[118, 52]⟩, .int .i64 4, .bool false]) w := by kernel_rfl
theorem ix2 (w : World) : (Instr.index 213 (.agg famCells) (.int .i64 2)).run Tryz.prog w = .ok (.agg #[.string ⟨#[118, 54]⟩, .int .i64 16, .bool false]) w := by kernel_rfl
theorem ix3 (w : World) : (Instr.index 213 (.agg famCells) (.int .i64 3)).run Tryz.prog w = .ok (.agg #[.string ⟨#[108, 52]⟩, .int .i64 4, .bool false]) w := by kernel_rfl
theorem ix4 (w : World) : (Instr.index 213 (.agg famCells) (.int .i64 4)).run Tryz.prog w = .ok (.agg #[.string ⟨#[118, 112, 110, 52]⟩, .int .i64 4, .bool true]) w := by kernel_rfl
theorem ix5 (w : World) : (Instr.index 213 (.agg famCells) (.int .i64 5)).run Tryz.prog w = .ok (.agg #[.string ⟨#[118, 112, 110, 54]⟩, .int .i64 16, .bool true]) w := by kernel_rfl
theorem info50 : (Tryz.prog.info? 213).map (·.size) = some famCells.size := by kernel_rfl
end Go.Proofs.YthaebbmekonacaaGreatDoor.Pr
