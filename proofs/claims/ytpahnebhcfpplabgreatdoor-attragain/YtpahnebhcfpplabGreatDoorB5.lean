/-
  Lay.
-/
import Derived.Test.YtpahnebhcfpplabGreatDoorF1
import Derived.BigQuiet
import Derived.Deep.RegionHeld3
namespace Go.Proofs.YtpahnebhcfpplabGreatDoor
open Go.RowKit
/-- Raw attributes that lie in a row. -/
def RowR (w : World) (b off : Nat) (R : List Rw) : Prop := ∀ j (h : j < R.length),
  (w.cell? ⟨b, off + j * 3, none⟩ = some (.int .u8 (R[j].1 : Int)) ∧ w.cell? ⟨b, off + j * 3 + 1, none⟩ = some (.int .u8 (R[j].2.1 : Int)) ∧ w.cell? ⟨b, off + j * 3 + 2, none⟩ = some (.string R[j].2.2)) ∧
  R[j].1 < 256 ∧ R[j].2.1 < 256 ∧ R[j].2.2.size ≤ 4611686018427387904
def RawsAt (w : World) (v : Value) (R : List Rw) : Prop := SlAt (RowR w) v R
theorem RowR.below {w w' : World} {b off : Nat} {R : List Rw} (h : RowR w b off R) (hb : Below w.heap.size w w') : RowR w' b off R :=
  fun j hj => ⟨⟨below_cell hb (h j hj).1.1, below_cell hb (h j hj).1.2.1, below_cell hb (h j hj).1.2.2⟩, (h j hj).2⟩
theorem RawsAt.below {w w' : World} {v : Value} {R : List Rw} (h : RawsAt w v R) (hb : Below w.heap.size w w') : RawsAt w' v R := SlAt.imp h fun _ _ h => h.below hb
/-- The flags that are laid, how long the length is. -/
def flagE (r : Rw) : Nat := if 255 < r.2.2.size then r.1 ||| 16 else r.1 &&& 239
def sizeE (r : Rw) : Nat := if 255 < r.2.2.size then 2 else 1
/-- The bytes of a raw attribute, of raw attributes. -/
def rawE (r : Rw) : List UInt8 := laid (flagE r) 1 ++ (laid r.2.1 1 ++ (laid r.2.2.size (sizeE r) ++ r.2.2.data.toList))
def layE (R : List Rw) : List UInt8 := R.flatMap rawE
theorem layE_snoc (R : List Rw) (r : Rw) : layE (R ++ [r]) = layE R ++ rawE r := by simp [layE]
theorem rawE_length (r : Rw) : (rawE r).length = 2 + sizeE r + r.2.2.size := by
  simp only [rawE, List.length_append, laid_length]
  have : r.2.2.data.toList.length = r.2.2.size := Array.length_toList
  omega
theorem layE_le (R : List Rw) (n : Nat) : (layE (R.take n)).length ≤ (layE R).length := by
  have h : layE R = layE (R.take n) ++ layE (R.drop n) := by
    unfold layE
    rw [← List.flatMap_append, List.take_append_drop]
  rw [h, List.length_append]
  omega
theorem or8 (f : Nat) (h : f < 256) : bits .or .u8 (f : Int) 16 = ((f ||| 16 : Nat) : Int) := by
  have : ∀ f : Fin 256, bits .or .u8 ((f.1 : Nat) : Int) 16 = ((f.1 ||| 16 : Nat) : Int) := by decide +kernel
  exact this ⟨f, h⟩
theorem andNot8 (f : Nat) (h : f < 256) : bits .andNot .u8 (f : Int) 16 = ((f &&& 239 : Nat) : Int) := by
  have : ∀ f : Fin 256, bits .andNot .u8 ((f.1 : Nat) : Int) 16 = ((f.1 &&& 239 : Nat) : Int) := by decide +kernel
  exact this ⟨f, h⟩
theorem flag_lt (f : Nat) (h : f < 256) : f ||| 16 < 256 ∧ f &&& 239 < 256 := by
  have : ∀ f : Fin 256, f.1 ||| 16 < 256 ∧ f.1 &&& 239 < 256 := by decide +kernel
  exact this ⟨f, h⟩
theorem isLong_any (f t : Nat) (v : ByteArray) (w : World) :
    Calls Tryz.prog 18 #[.agg #[.int .u8 (f : Int), .int .u8 (t : Int), .string v]] w fun e w' => e = .returned (.bool (decide (255 < v.size))) ∧ Below w.heap.size w w' := by
  go_enter Tryz.func18, Tryz.ntmps18
  go_wp2
  go_ret
  exact ⟨ret_bool (by simp; omega), (Below.refl _ _).alloc (Nat.le_refl _) _⟩
theorem head_any (f t : Nat) (v : ByteArray) (w : World) :
    Calls Tryz.prog 17 #[.agg #[.int .u8 (f : Int), .int .u8 (t : Int), .string v]] w fun e w' => e = .returned (.int .i64 (if 255 < v.size then 4 else 3)) ∧ Below w.heap.size w w' := by
  have hba : Below w.heap.size w (w.alloc (.cells #[.int .u8 (f : Int), .int .u8 (t : Int), .string v] 30)) := (Below.refl _ _).alloc (Nat.le_refl _) _
  by_cases h : 255 < v.size
  · rw [if_pos h]
    go_enter Tryz.func17, Tryz.ntmps17
    go_wp2_with fail
    refine (isLong_any f t v _).mono ?_
    rintro e w1 ⟨rfl, hb⟩
    rw [decide_eq_true h]
    have HB : Hid (Below w.heap.size w w1) := hba.trans (hb.mono hba.size)
    clear hb hba h
    go_wp2
    go_ret
    exact ⟨rfl, HB.out⟩
  · rw [if_neg h]
    go_enter Tryz.func17, Tryz.ntmps17
    go_wp2_with fail
    refine (isLong_any f t v _).mono ?_
    rintro e w1 ⟨rfl, hb⟩
    rw [decide_eq_false h]
    have HB : Hid (Below w.heap.size w w1) := hba.trans (hb.mono hba.size)
    clear hb hba h
    go_wp2
    go_ret
    exact ⟨rfl, HB.out⟩
/-- What stands in memory while a raw attribute is laid. -/
structure LayAt (w W : World) (p g : Nat) (E : List UInt8) (f t : Nat) (v : ByteArray) : Prop where
  bld : Bld W p p E
  raw : W.heap[g]? = some (.cells #[.int .u8 (f : Int), .int .u8 (t : Int), .string v] 30 (0, 0))
  bel : Below p w W
  psz : p ≤ W.heap.size
  ne : g ≠ p
theorem LayAt.below {w W W' : World} {p g : Nat} {E : List UInt8} {f t : Nat} {v : ByteArray} (h : LayAt w W p g E f t v) (hb : Below W.heap.size W W') : LayAt w W' p g E f t v :=
  ⟨h.bld.below hb, (hb.block g (Array.getElem?_eq_some_iff.mp h.raw).1).trans h.raw, h.bel.trans (hb.mono h.psz), Nat.le_trans h.psz hb.size, h.ne⟩
theorem LayAt.drew {w W : World} {p g : Nat} {E : List UInt8} {f t : Nat} {v : ByteArray} (h : LayAt w W p g E f t v) : LayAt w W.drew p g E f t v := ⟨h.bld, h.raw, h.bel.drew, h.psz, h.ne⟩
theorem LayAt.wrote {w W W' : World} {p g : Nat} {E x : List UInt8} {f t : Nat} {v : ByteArray} (h : LayAt w W p g E f t v) (hB : Lib.BuilderAtF 61 5 p p (.pointer (some ⟨p, 0, none⟩)) (Lib.byteCells E ++ Lib.strCells ⟨x.toArray⟩) W') (hb : Below p W W') (hk : Lib.OthersKept 5 (some p) W W') : LayAt w W' p g (E ++ x) f t v := by
  rw [strCells_eq, byteCells_append] at hB
  exact ⟨Or.inr hB, hk _ _ h.raw (by have := h.ne; simp; omega) (by intro c fz h; cases h), h.bel.trans hb, Nat.le_trans h.psz hb.size, h.ne⟩
theorem LayAt.cells {w W : World} {p g : Nat} {E : List UInt8} {f t : Nat} {v : ByteArray} (h : LayAt w W p g E f t v) : W.cell? ⟨g, 0, none⟩ = some (.int .u8 (f : Int)) ∧ W.cell? ⟨g, 1, none⟩ = some (.int .u8 (t : Int)) ∧ W.cell? ⟨g, 2, none⟩ = some (.string v) :=
  ⟨cell_row h.raw 0 _ rfl, cell_row h.raw 1 _ rfl, cell_row h.raw 2 _ rfl⟩
/-- WriteString, at a builder that is being laid. -/
theorem write_at {w W : World} {p g : Nat} {E : List UInt8} {f t : Nat} {v : ByteArray} (h : LayAt w W p g E f t v) (x : List UInt8) (hl : E.length + x.length ≤ 1000000) :
    Calls Tryz.prog 19 #[.pointer (some ⟨p, 0, none⟩), .string ⟨x.toArray⟩] W fun e W' => e = .returned (.tuple #[.int .i64 ((⟨x.toArray⟩ : ByteArray).size), .nilIface]) ∧ LayAt w W' p g (E ++ x) f t v := by
  refine (Tryz.Builder_WriteString_k p p (Lib.byteCells E) ⟨x.toArray⟩ W h.bld (by rw [Lib.byteCells_length]; show _ + x.length ≤ _; omega) h.psz).mono ?_
  rintro e W' ⟨rfl, hB, hb, hk⟩
  exact ⟨rfl, h.wrote hB hb hk⟩
end Go.Proofs.YtpahnebhcfpplabGreatDoor
