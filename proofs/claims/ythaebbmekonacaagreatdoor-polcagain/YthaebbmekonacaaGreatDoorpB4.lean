/-
  Check: what its first tests refuse; and what the table of families gives.
-/
import Derived.Test.YthaebbmekonacaaGreatDoorpB3
import Derived.Deep.RegionHeld
namespace Go.Proofs.YthaebbmekonacaaGreatDoor.Pr
open Go.RowKit

/-- What the table of families holds besides: whether a family is with distinguishers. -/
structure FamRds (w : World) : Prop where
  c1 : w.cell? ⟨1, 5, none⟩ = some (.bool false)
  c2 : w.cell? ⟨1, 8, none⟩ = some (.bool false)
  c3 : w.cell? ⟨1, 11, none⟩ = some (.bool false)
  c4 : w.cell? ⟨1, 14, none⟩ = some (.bool true)
  c5 : w.cell? ⟨1, 17, none⟩ = some (.bool true)
theorem lt_of_cell {w : World} {b i : Nat} {v : Value} (h : w.cell? ⟨b, i, none⟩ = some v) : b < w.heap.size := by
  by_cases e : b < w.heap.size
  · exact e
  · rw [World.cell?, Array.getElem?_eq_none (by simpa using e)] at h; simp at h
theorem FamSizes.below {w w' : World} (h : FamSizes w) (hb : Below w.heap.size w w') : FamSizes w' := by
  obtain ⟨c0, c1, c2, c3, c4, c5⟩ := h
  have l := lt_of_cell c0
  exact ⟨(hb.cell (p := ⟨1, _, none⟩) l).trans c0, (hb.cell (p := ⟨1, _, none⟩) l).trans c1, (hb.cell (p := ⟨1, _, none⟩) l).trans c2, (hb.cell (p := ⟨1, _, none⟩) l).trans c3, (hb.cell (p := ⟨1, _, none⟩) l).trans c4, (hb.cell (p := ⟨1, _, none⟩) l).trans c5⟩
theorem FamRds.below {w w' : World} (h : FamRds w) (hb : Below w.heap.size w w') : FamRds w' := by
  obtain ⟨c1, c2, c3, c4, c5⟩ := h
  have l := lt_of_cell c1
  exact ⟨(hb.cell (p := ⟨1, _, none⟩) l).trans c1, (hb.cell (p := ⟨1, _, none⟩) l).trans c2, (hb.cell (p := ⟨1, _, none⟩) l).trans c3, (hb.cell (p := ⟨1, _, none⟩) l).trans c4, (hb.cell (p := ⟨1, _, none⟩) l).trans c5⟩

/-- What Check answers. -/
def chk (f r : Int) (s : ByteArray) (l : Int) : Int :=
  if szOf f ≠ 0 ∧ (s.size : Int) = szOf f ∧ 0 ≤ l ∧ l ≤ 8 * szOf f ∧ (r = 0 ∨ 4 ≤ f) ∧ msk s.data.toList l = s.data.toList then 0 else 2

theorem szOf_bd (f : Int) : 0 ≤ szOf f ∧ szOf f ≤ 16 := by
  unfold szOf; split
  · omega
  · split <;> omega
theorem szOf_pos (f : Int) (h : szOf f ≠ 0) : (f = 1 ∨ f = 3 ∨ f = 4) ∧ szOf f = 4 ∨ (f = 2 ∨ f = 5) ∧ szOf f = 16 := by
  unfold szOf at *
  by_cases a : f = 1 ∨ f = 3 ∨ f = 4
  · left; rw [if_pos a]; exact ⟨a, rfl⟩
  · rw [if_neg a] at *
    by_cases b : f = 2 ∨ f = 5
    · right; rw [if_pos b]; exact ⟨b, rfl⟩
    · rw [if_neg b] at h; exact absurd rfl h

set_option maxRecDepth 100000 in
set_option maxHeartbeats 400000 in
theorem check_first (f r : Int) (s : ByteArray) (l : Int) (w : World) (hg : FamSizes w)
    (h : szOf f = 0 ∨ (s.size : Int) ≠ szOf f ∨ l < 0 ∨ 8 * szOf f < l) :
    Calls Tryz.prog 173 #[.agg #[.int .i64 f, .int .u64 r, .string s, .int .i64 l]] w fun e w' => e = .returned (.int .i64 2) ∧ Below w.heap.size w w' := by
  have hb := szOf_bd f
  generalize hzz : szOf f = z at h hb
  have HZ : Hid (szOf f = z) := hzz
  clear hzz
  have hg' : FamSizes (w.alloc (.cells #[.int .i64 f, .int .u64 r, .string s, .int .i64 l] 50)) := hg.below ((Below.refl _ _).alloc (Nat.le_refl _) _)
  by_cases a0 : z = 0
  · clear h
    have e0 : (z == 0) = true := beq_iff_eq.2 a0
    clear a0
    go_enter Tryz.func173, Tryz.ntmps173
    go_wp2_with (go_at_call 117; refine (size_any _ _ hg').mono ?_; rintro e w' ⟨rfl, rfl⟩; rw [HZ.out])
    go_ret
    exact ⟨rfl, (Below.refl _ _).alloc (Nat.le_refl _) _⟩
  have e0 : (z == 0) = false := beq_eq_false_iff_ne.2 a0
  by_cases a1 : (s.size : Int) = z
  · have e1 : ((s.size : Int) != z) = false := by simp [a1]
    have h2 : l < 0 ∨ 8 * z < l := by omega
    clear a0 a1 h
    by_cases a2 : l < 0
    · clear h2
      go_enter Tryz.func173, Tryz.ntmps173
      go_wp2_with (go_at_call 117; refine (size_any _ _ hg').mono ?_; rintro e w' ⟨rfl, rfl⟩; rw [HZ.out])
      go_ret
      exact ⟨rfl, (Below.refl _ _).alloc (Nat.le_refl _) _⟩
    · have h3 : 8 * z < l := by omega
      clear h2
      go_enter Tryz.func173, Tryz.ntmps173
      go_wp2_with (go_at_call 117; refine (size_any _ _ hg').mono ?_; rintro e w' ⟨rfl, rfl⟩; rw [HZ.out])
      go_ret
      exact ⟨rfl, (Below.refl _ _).alloc (Nat.le_refl _) _⟩
  · have e1 : ((s.size : Int) != z) = true := by simp [a1]
    clear a0 a1 h
    go_enter Tryz.func173, Tryz.ntmps173
    go_wp2_with (go_at_call 117; refine (size_any _ _ hg').mono ?_; rintro e w' ⟨rfl, rfl⟩; rw [HZ.out])
    go_ret
    exact ⟨rfl, (Below.refl _ _).alloc (Nat.le_refl _) _⟩

set_option maxRecDepth 100000 in
set_option maxHeartbeats 400000 in
theorem check_rd (f r : Int) (s : ByteArray) (l : Int) (w : World) (hg : FamSizes w) (hr : FamRds w) (hf : f = 1 ∨ f = 2 ∨ f = 3) (h0 : (s.size : Int) = szOf f) (h1 : 0 ≤ l) (h2 : l ≤ 8 * szOf f) (h3 : r ≠ 0) :
    Calls Tryz.prog 173 #[.agg #[.int .i64 f, .int .u64 r, .string s, .int .i64 l]] w fun e w' => e = .returned (.int .i64 2) ∧ Below w.heap.size w w' := by
  have hg' : FamSizes (w.alloc (.cells #[.int .i64 f, .int .u64 r, .string s, .int .i64 l] 50)) := hg.below ((Below.refl _ _).alloc (Nat.le_refl _) _)
  have e3 : (r != 0) = true := by simp [h3]
  obtain ⟨r1, r2, r3, _, _⟩ := hr
  have l0 : 1 < w.heap.size := lt_of_cell r1
  have z1 : szOf 1 = 4 := rfl
  have z2 : szOf 2 = 16 := rfl
  have z3 : szOf 3 = 4 := rfl
  have e1 : ((s.size : Int) != szOf f) = false := by simp [h0]
  rcases hf with rfl | rfl | rfl
  all_goals
    simp only [z1, z2, z3] at h2 e1
    clear h0 h3
    go_enter Tryz.func173, Tryz.ntmps173
    go_wp2_with (go_at_call 117; refine (size_any _ _ hg').mono ?_; rintro e w' ⟨rfl, rfl⟩)
    go_ret
    exact ⟨rfl, (Below.refl _ _).alloc (Nat.le_refl _) _⟩

end Go.Proofs.YthaebbmekonacaaGreatDoor.Pr
