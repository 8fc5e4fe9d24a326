/-
  Two calls and two new variables in one statement, in whatever order: what stands in the frame and in memory behind it.
-/
import Derived.Test.YtkgedoedojkdkaaDoorO2
import Derived.Test.YtkgedoedojkdkaaDoorB10
namespace Go.Proofs.YtkgedoedojkdkaaDoor
open Go.RowKit
theorem getD_put (a : Act) (d i : Nat) (v : Value) : (a.put (some d) v).tmps.getD i undef = if i = d ∧ d < a.tmps.size then v else a.tmps.getD i undef := by
  simp only [Act.put, Array.getD_eq_getD_getElem?, Array.getElem?_setIfInBounds]
  by_cases e : d = i
  · subst e
    by_cases h : d < a.tmps.size
    · simp [h]
    · simp [h]
  · rw [if_neg e, if_neg (fun x => e x.1.symm)]
/-- All slots but the six are as they were. -/
structure FrA (a0 a : Act) : Prop where
  d : a.defers = a0.defers
  z : a.tmps.size = a0.tmps.size
  k : ∀ i, i ≠ 15 → i ≠ 16 → i ≠ 17 → i ≠ 18 → i ≠ 7 → i ≠ 8 → a.tmps.getD i undef = a0.tmps.getD i undef
theorem FrA.put {a0 a : Act} (h : FrA a0 a) (d : Nat) (v : Value) (hd : d = 15 ∨ d = 16 ∨ d = 17 ∨ d = 18 ∨ d = 7 ∨ d = 8) : FrA a0 (a.put (some d) v) := by
  refine ⟨h.d, by simp [Act.put, h.z], fun i h1 h2 h3 h4 h5 h6 => ?_⟩
  rw [getD_put, if_neg (by omega)]
  exact h.k i h1 h2 h3 h4 h5 h6
theorem Act.ext' {a b : Act} (hd : a.defers = b.defers) (hz : a.tmps.size = b.tmps.size) (h : ∀ i, a.tmps.getD i undef = b.tmps.getD i undef) : a = b := by
  obtain ⟨s, d⟩ := a
  obtain ⟨t, e⟩ := b
  simp only at hd hz h
  subst hd
  congr 1
  apply Array.ext hz
  intro i h1 h2
  have := h i
  rw [Array.getD_eq_getD_getElem?, Array.getD_eq_getD_getElem?, Array.getElem?_eq_getElem h1, Array.getElem?_eq_getElem h2] at this
  exact this
theorem FrA.form {a0 a : Act} (h : FrA a0 a) (hz : 18 < a0.tmps.size) {v15 v16 v17 v18 v7 v8 : Value} (q15 : a.tmps.getD 15 undef = v15) (q16 : a.tmps.getD 16 undef = v16) (q17 : a.tmps.getD 17 undef = v17) (q18 : a.tmps.getD 18 undef = v18) (q7 : a.tmps.getD 7 undef = v7) (q8 : a.tmps.getD 8 undef = v8) :
    a = (((((a0.put (some 15) v15).put (some 16) v16).put (some 17) v17).put (some 18) v18).put (some 7) v7).put (some 8) v8 := by
  have hs : ∀ (b : Act) (d : Nat) (v : Value), (b.put (some d) v).tmps.size = b.tmps.size := fun b d v => by simp [Act.put]
  have hd : ∀ (b : Act) (d : Nat) (v : Value), (b.put (some d) v).defers = b.defers := fun b d v => rfl
  have hg := getD_put
  generalize hp : Act.put = put at *
  refine Act.ext' (by simp only [hd]; exact h.d) (by simp only [hs]; exact h.z) fun i => ?_
  simp only [hg, hs]
  by_cases e8 : i = 8
  · rw [if_pos ⟨e8, by omega⟩, e8]; exact q8
  rw [if_neg (fun x => e8 x.1)]
  by_cases e7 : i = 7
  · rw [if_pos ⟨e7, by omega⟩, e7]; exact q7
  rw [if_neg (fun x => e7 x.1)]
  by_cases e18 : i = 18
  · rw [if_pos ⟨e18, by omega⟩, e18]; exact q18
  rw [if_neg (fun x => e18 x.1)]
  by_cases e17 : i = 17
  · rw [if_pos ⟨e17, by omega⟩, e17]; exact q17
  rw [if_neg (fun x => e17 x.1)]
  by_cases e16 : i = 16
  · rw [if_pos ⟨e16, by omega⟩, e16]; exact q16
  rw [if_neg (fun x => e16 x.1)]
  by_cases e15 : i = 15
  · rw [if_pos ⟨e15, by omega⟩, e15]; exact q15
  rw [if_neg (fun x => e15 x.1)]
  exact h.k i e15 e16 e17 e18 e7 e8
/-- A prefix that may be. -/
def Good (v : Value) : Prop := ∃ (f r : Int) (s : ByteArray) (l : Int), v = .agg #[.int .i64 f, .int .u64 r, .string s, .int .i64 l] ∧ chk f r s l = 0
/-- That prefix lies in block b. -/
def HasV (w : World) (b : Nat) (v : Value) : Prop := ∃ (f r : Int) (s : ByteArray) (l : Int), v = .agg #[.int .i64 f, .int .u64 r, .string s, .int .i64 l] ∧ PfxAt w b f r s l
theorem HasV.kept {w w' : World} {b B : Nat} {v : Value} (h : HasV w b v) (hb : Below B w w') (hB : b < B) : HasV w' b v := by
  obtain ⟨f, r, s, l, e, p⟩ := h
  exact ⟨f, r, s, l, e, p.kept hb hB⟩
/-- A variable that has been made, and stored into or not. -/
structure VarAt (w : World) (base : Nat) (v x : Value) (stored : Bool) (b : Nat) : Prop where
  p : v = .pointer (some ⟨b, 0, none⟩)
  lo : base ≤ b
  hi : b < w.heap.size
  room : stored = false → PfxAt w b 0 0 ⟨#[]⟩ 0
  has : stored = true → HasV w b x
theorem VarAt.kept {w w' : World} {base b : Nat} {v x : Value} {t : Bool} (h : VarAt w base v x t b) (hb : Below w.heap.size w w') : VarAt w' base v x t b :=
  ⟨h.p, h.lo, Nat.lt_of_lt_of_le h.hi hb.size, fun e => (h.room e).kept hb h.hi, fun e => (h.has e).kept hb h.hi⟩
end Go.Proofs.YtkgedoedojkdkaaDoor
