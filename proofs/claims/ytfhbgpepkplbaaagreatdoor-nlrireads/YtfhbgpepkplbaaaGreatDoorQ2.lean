/-
  The reference's first: what stands in memory.
-/
import Derived.Test.YtfhbgpepkplbaaaGreatDoorG1
import Derived.Deep.RegionHeld3
namespace Go.Proofs.YtfhbgpepkplbaaaGreatDoor
open Go.RowKit
/-- The told prefix that is read so far lies in block B + 1, nothing in block B. -/
structure FsAt (w wx : World) (n : Nl) : Prop where
  n0 : wx.cell? ⟨w.heap.size + 1, 0, none⟩ = some (.int .i64 n.f)
  n1 : wx.cell? ⟨w.heap.size + 1, 1, none⟩ = some (.int .u64 n.r)
  n2 : wx.cell? ⟨w.heap.size + 1, 2, none⟩ = some (.string n.s)
  n3 : wx.cell? ⟨w.heap.size + 1, 3, none⟩ = some (.int .i64 n.l)
  n4 : wx.cell? ⟨w.heap.size + 1, 4, none⟩ = some (.int .u32 n.id)
  n5 : wx.cell? ⟨w.heap.size + 1, 5, none⟩ = some (.int .u32 n.lb)
  nf : ∀ i, i < 6 → wx.frozen? ⟨w.heap.size + 1, i, none⟩ = false
  z0 : wx.cell? ⟨w.heap.size, 0, none⟩ = some (.int .i64 0)
  z1 : wx.cell? ⟨w.heap.size, 1, none⟩ = some (.int .u64 0)
  z2 : wx.cell? ⟨w.heap.size, 2, none⟩ = some (.string ⟨#[]⟩)
  z3 : wx.cell? ⟨w.heap.size, 3, none⟩ = some (.int .i64 0)
  z4 : wx.cell? ⟨w.heap.size, 4, none⟩ = some (.int .u32 0)
  z5 : wx.cell? ⟨w.heap.size, 5, none⟩ = some (.int .u32 0)
  zf : ∀ i, i < 6 → wx.frozen? ⟨w.heap.size, i, none⟩ = false
  bel : Below w.heap.size w wx
  siz : w.heap.size + 2 ≤ wx.heap.size
theorem FsAt.below {w wx w' : World} {n : Nl} (h : FsAt w wx n) (hb : Below (w.heap.size + 2) wx w') : FsAt w w' n := by
  have hs := h.siz
  have c : ∀ {b i : Nat} {v : Value}, b < w.heap.size + 2 → wx.cell? ⟨b, i, none⟩ = some v → w'.cell? ⟨b, i, none⟩ = some v := fun {b i v} hb' hc => (hb.cell (p := ⟨b, i, none⟩) hb').trans hc
  exact ⟨c (by omega) h.n0, c (by omega) h.n1, c (by omega) h.n2, c (by omega) h.n3, c (by omega) h.n4, c (by omega) h.n5, fun i hi => (hb.frozen (p := ⟨w.heap.size + 1, i, none⟩) (by simp)).trans (h.nf i hi), c (by omega) h.z0, c (by omega) h.z1, c (by omega) h.z2, c (by omega) h.z3, c (by omega) h.z4, c (by omega) h.z5, fun i hi => (hb.frozen (p := ⟨w.heap.size, i, none⟩) (by simp)).trans (h.zf i hi), h.bel.trans (hb.mono (by omega)), Nat.le_trans h.siz hb.size⟩
theorem FsAt.below' {w wx w' : World} {n : Nl} (h : FsAt w wx n) (hb : Below wx.heap.size wx w') : FsAt w w' n := h.below (hb.mono h.siz)
theorem FsAt.start (w : World) : FsAt w ((w.alloc (.cells #[.int .i64 0, .int .u64 0, .string ⟨#[]⟩, .int .i64 0, .int .u32 0, .int .u32 0] 27)).alloc (.cells #[.int .i64 0, .int .u64 0, .string ⟨#[]⟩, .int .i64 0, .int .u32 0, .int .u32 0] 27)) ⟨0, 0, ⟨#[]⟩, 0, 0, 0⟩ := by
  have hb : Below w.heap.size w ((w.alloc (.cells #[.int .i64 0, .int .u64 0, .string ⟨#[]⟩, .int .i64 0, .int .u32 0, .int .u32 0] 27)).alloc (.cells #[.int .i64 0, .int .u64 0, .string ⟨#[]⟩, .int .i64 0, .int .u32 0, .int .u32 0] 27)) := ((Below.refl _ _).alloc (by simp) _).alloc (by simp) _
  refine ⟨?_, ?_, ?_, ?_, ?_, ?_, ?_, ?_, ?_, ?_, ?_, ?_, ?_, ?_, hb, by simp⟩
  all_goals (try intro i hi)
  all_goals simp
theorem FsAt.set {w wx : World} {n : Nl} (h : FsAt w wx n) (i : Nat) (v : Value) (m : Nl) (hm : m.cs = n.cs.set i v) (hi : i < 6) : FsAt w (wx.setCell ⟨w.heap.size + 1, i, none⟩ v) m := by
  have o : ∀ b j, (b ≠ w.heap.size + 1 ∨ j ≠ i) → (wx.setCell ⟨w.heap.size + 1, i, none⟩ v).cell? ⟨b, j, none⟩ = wx.cell? ⟨b, j, none⟩ := fun b j hb => World.cell?_setCell_other _ _ _ _ (by intro e; injection e with e1 e2; rcases hb with h | h <;> omega)
  have hc : ∀ j x, n.cs[j]? = some x → wx.cell? ⟨w.heap.size + 1, j, none⟩ = some x := by
    intro j x hx
    match j, hx with
    | 0, hx => simp [Nl.cs] at hx; rw [← hx]; exact h.n0
    | 1, hx => simp [Nl.cs] at hx; rw [← hx]; exact h.n1
    | 2, hx => simp [Nl.cs] at hx; rw [← hx]; exact h.n2
    | 3, hx => simp [Nl.cs] at hx; rw [← hx]; exact h.n3
    | 4, hx => simp [Nl.cs] at hx; rw [← hx]; exact h.n4
    | 5, hx => simp [Nl.cs] at hx; rw [← hx]; exact h.n5
    | j + 6, hx => simp [Nl.cs] at hx
  have hl : n.cs.length = 6 := rfl
  have hs : ∃ u, wx.cell? ⟨w.heap.size + 1, i, none⟩ = some u := ⟨_, hc i (n.cs[i]'(by omega)) (List.getElem?_eq_getElem (by omega))⟩
  obtain ⟨u, hu⟩ := hs
  have key : ∀ j x, m.cs[j]? = some x → (wx.setCell ⟨w.heap.size + 1, i, none⟩ v).cell? ⟨w.heap.size + 1, j, none⟩ = some x := by
    intro j x hx
    rw [hm, List.getElem?_set] at hx
    by_cases e : i = j
    · subst e
      rw [if_pos rfl, if_pos (by omega)] at hx
      rw [World.cell?_setCell_same _ _ _ hu]
      exact hx
    · rw [if_neg e] at hx
      rw [o _ _ (Or.inr (fun h => e h.symm))]
      exact hc j x hx
  have hz : w.heap.size ≠ w.heap.size + 1 := by omega
  exact ⟨key 0 _ rfl, key 1 _ rfl, key 2 _ rfl, key 3 _ rfl, key 4 _ rfl, key 5 _ rfl, fun j hj => by rw [World.frozen?_setCell]; exact h.nf j hj, (o _ _ (Or.inl hz)).trans h.z0, (o _ _ (Or.inl hz)).trans h.z1, (o _ _ (Or.inl hz)).trans h.z2, (o _ _ (Or.inl hz)).trans h.z3, (o _ _ (Or.inl hz)).trans h.z4, (o _ _ (Or.inl hz)).trans h.z5, fun j hj => by rw [World.frozen?_setCell]; exact h.zf j hj, h.bel.setCell (by simp) _, by rw [World.size_setCell]; exact h.siz⟩
theorem ors3 (A B C : Nat) (ha : A < 256) (hb : B < 256) (hc : C < 256) : bits .or .u32 (bits .or .u32 ((A : Int) * 65536) ((B : Int) * 256)) (C : Int) = ((A * 65536 + B * 256 + C : Nat) : Int) := by
  have := ors 0 A B C (by omega) ha hb hc
  have e := or_u32 0 (A * 65536) (by omega) (by omega)
  simp only [Nat.zero_or, Int.natCast_mul, Int.cast_ofNat_Int, Int.zero_mul] at e this
  rw [e] at this
  simpa using this
theorem worth3b (a b c : UInt8) : worth [a, b, c] = a.toNat * 65536 + b.toNat * 256 + c.toNat := by
  simp only [worth, List.foldl_cons, List.foldl_nil]
  omega
end Go.Proofs.YtfhbgpepkplbaaaGreatDoor
