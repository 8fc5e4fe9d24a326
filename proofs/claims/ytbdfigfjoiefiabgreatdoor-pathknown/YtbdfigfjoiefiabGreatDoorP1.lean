/-
  Two lists that are made first and filled in then: long, and many.
-/
import Derived.Test.YtbdfigfjoiefiabGreatDoorP0
import Derived.Laws.MakeOwn
set_option linter.unusedVariables false
set_option linter.unusedSimpArgs false
set_option maxRecDepth 100000
namespace Go.Proofs.YtbdfigfjoiefiabGreatDoor
open Go.RowKit
theorem made_u (w : World) : (Instr.makeSlice 22 (.int .i64 255) (.int .i64 255)).run Tryz.prog w = .ok (.slice (some ⟨w.heap.size, 0, none⟩) 255 255) (w.alloc (.cells (madeCells #[.int .u32 0] 255) 26)) := by
  obtain ⟨i0, hi, hz0, hz1, hz2⟩ := info_parts info23
  have h := run_make w 22 26 i0 (.int .u32 0) Tryz.underlying22 hi hz0 .i64 .i64 (255 : Nat) (255 : Nat) (by omega) (by omega) (by rw [hz2]; omega) (by omega)
  rw [hz1, Int.toNat_natCast, Nat.mul_one] at h
  exact h
theorem made_s (n : Nat) (hn : n ≤ 17) (w : World) : (Instr.makeSlice 27 (.int .i64 (n : Int)) (.int .i64 (n : Int))).run Tryz.prog w = .ok (.slice (some ⟨w.heap.size, 0, none⟩) n n) (w.alloc (.cells (madeCells #[.int .i64 0, .slice none 0 0] (n * 2)) 24)) := by
  obtain ⟨i0, hi, hz0, hz1, hz2⟩ := info_parts info48
  have h := run_make w 27 24 i0 (.agg #[.int .i64 0, .slice none 0 0]) Tryz.underlying27 hi hz0 .i64 .i64 n n (by omega) (by omega) (by rw [hz2]; omega) (by omega)
  rw [hz1, Int.toNat_natCast] at h
  exact h
/-- Where the filling stands. -/
structure MkI (Wb wr : World) (p q k m : Nat) : Prop where
  b : Below Wb.heap.size Wb wr
  hp : Wb.heap.size ≤ p ∧ Wb.heap.size ≤ q ∧ p ≠ q
  lc : ∀ j, j < 255 → wr.cell? ⟨p, j, none⟩ = some (.int .u32 (if j < k then 9 else 0)) ∧ wr.frozen? ⟨p, j, none⟩ = false
  mf : ∀ j, j < 32 → wr.frozen? ⟨q, j, none⟩ = false
  m0 : ∀ j, j < 16 → m ≤ j → wr.cell? ⟨q, j * 2, none⟩ = some (.int .i64 0) ∧ wr.cell? ⟨q, j * 2 + 1, none⟩ = some (.slice none 0 0)
  m1 : ∀ j, j < 16 → j < m → wr.cell? ⟨q, j * 2, none⟩ = some (.int .i64 1) ∧ ∃ g, g ≠ p ∧ g ≠ q ∧ wr.cell? ⟨q, j * 2 + 1, none⟩ = some (.slice (some ⟨g, 0, none⟩) 1 1) ∧ wr.cell? ⟨g, 0, none⟩ = some (.int .u32 1)
theorem MkI.lts {Wb wr : World} {p q k m : Nat} (h : MkI Wb wr p q k m) : p < wr.heap.size ∧ q < wr.heap.size := by
  refine ⟨lt_of_cell (h.lc 0 (by omega)).1, ?_⟩
  by_cases hm : m ≤ 0
  · exact lt_of_cell (h.m0 0 (by omega) hm).1
  · exact lt_of_cell (h.m1 0 (by omega) (by omega)).1
theorem MkI.start (Wb : World) : MkI Wb ((Wb.alloc (.cells (madeCells #[.int .u32 0] 255) 26)).alloc (.cells (madeCells #[.int .i64 0, .slice none 0 0] 32) 24)) Wb.heap.size (Wb.heap.size + 1) 0 0 := by
  have hs : (Wb.alloc (.cells (madeCells #[.int .u32 0] 255) 26)).heap.size = Wb.heap.size + 1 := by simp
  refine ⟨((Below.refl _ _).alloc (Nat.le_refl _) _).alloc (by rw [hs]; omega) _, ⟨by omega, by omega, by omega⟩, fun j hj => ⟨?_, ?_⟩, fun j hj => ?_, fun j hj _ => ⟨?_, ?_⟩, fun j hj h => by omega⟩
  · rw [World.cell?_alloc_past _ _ _ (by simp), World.cell?_alloc_at _ _ _ _ rfl, if_neg (by omega)]
    simp [madeCells, hj, Nat.mod_one]
  · simp
  · simp
  · rw [World.cell?_alloc_at _ _ _ _ hs.symm]
    have : j * 2 < 32 := by omega
    simp [madeCells, this]
  · rw [World.cell?_alloc_at _ _ _ _ hs.symm]
    have : j * 2 + 1 < 32 := by omega
    have e : (j * 2 + 1) % 2 = 1 := by omega
    simp [madeCells, this, e]
theorem MkI.below {Wb wr w' : World} {p q k m : Nat} (h : MkI Wb wr p q k m) (hb : Below wr.heap.size wr w') : MkI Wb w' p q k m := by
  obtain ⟨l1, l2⟩ := h.lts
  exact ⟨h.b.trans (hb.mono h.b.size), h.hp, fun j hj => ⟨below_cell hb (h.lc j hj).1, (hb.frozen (p := ⟨p, j, none⟩) l1).trans (h.lc j hj).2⟩, fun j hj => (hb.frozen (p := ⟨q, j, none⟩) l2).trans (h.mf j hj), fun j hj hm => ⟨below_cell hb (h.m0 j hj hm).1, below_cell hb (h.m0 j hj hm).2⟩, fun j hj hm => by
    obtain ⟨h1, g, h2, h3, h4, h5⟩ := h.m1 j hj hm
    exact ⟨below_cell hb h1, g, h2, h3, below_cell hb h4, below_cell hb h5⟩⟩
theorem MkI.put1 {Wb wr : World} {p q k : Nat} (h : MkI Wb wr p q k 0) (hk : k < 255) : MkI Wb (wr.setCell ⟨p, k, none⟩ (.int .u32 9)) p q (k + 1) 0 := by
  have hne := h.hp.2.2
  refine ⟨h.b.setCell (p := ⟨p, k, none⟩) h.hp.1 _, h.hp, fun j hj => ⟨?_, by rw [World.frozen?_setCell]; exact (h.lc j hj).2⟩, fun j hj => by rw [World.frozen?_setCell]; exact h.mf j hj, fun j hj hm => ⟨?_, ?_⟩, fun j hj hm => by omega⟩
  · by_cases e : j = k
    · subst e
      rw [if_pos (by omega)]
      exact World.cell?_setCell_same _ _ _ (h.lc j hj).1
    · rw [World.cell?_setCell_other _ _ _ _ (by intro x; injection x with _ x; omega), (h.lc j hj).1]
      by_cases hjk : j < k
      · rw [if_pos hjk, if_pos (by omega)]
      · rw [if_neg hjk, if_neg (by omega)]
  · rw [World.cell?_setCell_other _ _ _ _ (by intro x; injection x with x; omega)]; exact (h.m0 j hj hm).1
  · rw [World.cell?_setCell_other _ _ _ _ (by intro x; injection x with x; omega)]; exact (h.m0 j hj hm).2
theorem MkI.put2 {Wb wr : World} {p q k m g : Nat} (h : MkI Wb wr p q k m) (hm : m < 16) (hg : g ≠ p ∧ g ≠ q) (hc : wr.cell? ⟨g, 0, none⟩ = some (.int .u32 1)) : MkI Wb ((wr.setCell ⟨q, m * 2, none⟩ (.int .i64 1)).setCell ⟨q, m * 2 + 1, none⟩ (.slice (some ⟨g, 0, none⟩) 1 1)) p q k (m + 1) := by
  have hne := h.hp.2.2
  have hz := h.m0 m hm (Nat.le_refl _)
  have far : ∀ (b i : Nat), (b ≠ q ∨ i ≠ m * 2 ∧ i ≠ m * 2 + 1) → ((wr.setCell ⟨q, m * 2, none⟩ (.int .i64 1)).setCell ⟨q, m * 2 + 1, none⟩ (.slice (some ⟨g, 0, none⟩) 1 1)).cell? ⟨b, i, none⟩ = wr.cell? ⟨b, i, none⟩ := fun b i hbi => by
    rw [World.cell?_setCell_other _ _ _ _ (by intro x; injection x with x y; omega), World.cell?_setCell_other _ _ _ _ (by intro x; injection x with x y; omega)]
  refine ⟨(h.b.setCell (p := ⟨q, m * 2, none⟩) h.hp.2.1 _).setCell (p := ⟨q, m * 2 + 1, none⟩) h.hp.2.1 _, h.hp, fun j hj => ⟨by rw [far _ _ (Or.inl hne)]; exact (h.lc j hj).1, by rw [World.frozen?_setCell, World.frozen?_setCell]; exact (h.lc j hj).2⟩, fun j hj => by rw [World.frozen?_setCell, World.frozen?_setCell]; exact h.mf j hj, fun j hj hmj => ⟨?_, ?_⟩, fun j hj hmj => ?_⟩
  · rw [far _ _ (Or.inr ⟨by omega, by omega⟩)]; exact (h.m0 j hj (by omega)).1
  · rw [far _ _ (Or.inr ⟨by omega, by omega⟩)]; exact (h.m0 j hj (by omega)).2
  · by_cases e : j = m
    · subst e
      refine ⟨?_, g, hg.1, hg.2, ?_, ?_⟩
      · rw [World.cell?_setCell_other _ _ _ _ (by intro x; injection x with x y; omega)]
        exact World.cell?_setCell_same _ _ _ hz.1
      · exact World.cell?_setCell_same _ _ _ (by rw [World.cell?_setCell_other _ _ _ _ (by intro x; injection x with x y; omega)]; exact hz.2)
      · rw [far _ _ (Or.inl hg.2)]; exact hc
    · obtain ⟨h1, g', h2, h3, h4, h5⟩ := h.m1 j hj (by omega)
      exact ⟨by rw [far _ _ (Or.inr ⟨by omega, by omega⟩)]; exact h1, g', h2, h3, by rw [far _ _ (Or.inr ⟨by omega, by omega⟩)]; exact h4, by rw [far _ _ (Or.inl h3)]; exact h5⟩
theorem MkI.long {Wb wr : World} {p q m : Nat} (h : MkI Wb wr p q 255 m) : ASAt wr (.slice (some ⟨p, 0, none⟩) 255 255) (List.replicate 255 9) :=
  ⟨some ⟨p, 0, none⟩, p, 0, 255, by rw [List.length_replicate], Or.inl rfl, by rw [List.length_replicate]; omega, fun j hj => by
    rw [List.length_replicate] at hj
    have := (h.lc j hj).1
    rw [if_pos hj] at this
    rw [Nat.zero_add, List.getElem_replicate]
    exact ⟨this, by omega⟩⟩
theorem MkI.many {Wb wr : World} {p q k : Nat} (h : MkI Wb wr p q k 16) : PathAt wr (.slice (some ⟨q, 0, none⟩) 16 16) (List.replicate 16 ((1 : Int), [1])) :=
  ⟨some ⟨q, 0, none⟩, q, 0, 16, by rw [List.length_replicate], Or.inl rfl, by rw [List.length_replicate]; omega, fun j hj => by
    rw [List.length_replicate] at hj
    obtain ⟨h1, g, h2, h3, h4, h5⟩ := h.m1 j hj hj
    rw [Nat.zero_add, List.getElem_replicate]
    exact ⟨h1, _, h4, some ⟨g, 0, none⟩, g, 0, 1, rfl, Or.inl rfl, by simp, fun i hi => by
      have : i = 0 := by simpa using hi
      subst this
      exact ⟨h5, by simp⟩⟩⟩
end Go.Proofs.YtbdfigfjoiefiabGreatDoor
