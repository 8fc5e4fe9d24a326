/-
  Terms and policies of one's own.
-/
import Derived.Test.YthaebbmekonacaaGreatDoorS34
import Derived.Test.YthaebbmekonacaaGreatDoorRTM
set_option linter.unusedVariables false
set_option linter.unusedSimpArgs false
set_option maxRecDepth 100000
namespace Go.Proofs.YthaebbmekonacaaGreatDoor
open Go.RowKit
theorem C2.belowB {w w' : World} {b B : Nat} {v0 v1 : Value} (h : C2 w b v0 v1) (hb : Below B w w') (hB : b < B) : C2 w' b v0 v1 :=
  ⟨(hb.cell (p := ⟨b, 0, none⟩) hB).trans h.c0, (hb.cell (p := ⟨b, 1, none⟩) hB).trans h.c1, fun i => by have := h.f i; unfold World.frozen? at this ⊢; rw [hb.block _ hB]; exact this⟩
/-- What comes in fits into memory. -/
def RoomT (T : Tm) : Prop := T.cs.length * 40 ≤ 140737488355328 ∧ T.acs.length * 48 ≤ 140737488355328
/-- Rows of two kinds lie apart. -/
theorem own_apart {w : World} {b1 b2 : Nat} {e1 e2 : TypeId} {s1 s2 : Nat} {v1 v2 : Value} {n1 n2 : Nat} {x1 x2 : List Value} (h1 : w.ownsRow b1 e1 s1 v1 n1 x1) (h2 : w.ownsRow b2 e2 s2 v2 n2 x2) (he : e1 ≠ e2) : ∀ g, v1.ownBlock = some g → some g ≠ v2.ownBlock := by
  intro g hg hc
  obtain ⟨_, ⟨rfl, _⟩ | ⟨g1, c1, u1, rfl, _, k1, _⟩⟩ := h1
  · simp [Value.ownBlock] at hg
  · obtain ⟨_, ⟨rfl, _⟩ | ⟨g2, c2, u2, rfl, _, k2, _⟩⟩ := h2
    · simp [Value.ownBlock] at hc
    · simp only [Value.ownBlock, Option.some.injEq] at hg hc
      subst hg
      subst hc
      rw [k1] at k2
      simp only [Option.some.injEq, Obj.cells.injEq] at k2
      exact he k2.2.1
theorem own_grown {w w' : World} {b1 b2 : Nat} {e1 e2 : TypeId} {s1 s2 : Nat} {v1 v2 : Value} {n1 n2 : Nat} {x1 x2 : List Value} (h1 : w.ownsRow b1 e1 s1 v1 n1 x1) (h2 : w.ownsRow b2 e2 s2 v2 n2 x2) (he : e1 ≠ e2) (hg : w.grownBy w' v2.ownBlock) : w'.ownsRow b1 e1 s1 v1 n1 x1 :=
  owns_heap' h1 fun g hb => hg.block g (owns_lt h1 g hb).2 (own_apart h1 h2 he g hb)
/-- The terms that were put so far. -/
structure OwT (w : World) (B : Nat) (v : Value) (P : List Tv) (L : List Tm) : Prop where
  len : P.length = L.length
  own : OwnTv w B v P
  each : ∀ j (h : j < L.length) (h' : j < P.length), OwnCd w B (.slice P[j].a P[j].n P[j].c) L[j].cs ∧ OwnAc w B (.slice P[j].b P[j].m P[j].d) L[j].acs
theorem OwT.at {w : World} {B : Nat} {v : Value} {P : List Tv} {L : List Tm} (h : OwT w B v P L) : TsAt w v L := by
  obtain ⟨ad, b, off, cap, e, h1, h2, h3⟩ := h.own.at
  refine ⟨ad, b, off, cap, by rw [e, h.len], by rw [← h.len]; exact h1, by rw [← h.len]; exact h2, fun j hj => ?_⟩
  have hj' : j < P.length := by rw [h.len]; exact hj
  obtain ⟨k1, k2⟩ := h3 j hj'
  exact ⟨_, _, k1, k2, (h.each j hj hj').1.at, (h.each j hj hj').2.at⟩
theorem OwT.below {w w' : World} {B : Nat} {v : Value} {P : List Tv} {L : List Tm} (h : OwT w B v P L) (hb : Below w.heap.size w w') : OwT w' B v P L :=
  ⟨h.len, h.own.below hb, fun j hj hj' => ⟨(h.each j hj hj').1.below hb, (h.each j hj hj').2.below hb⟩⟩
theorem OwT.grown {w w' : World} {B : Nat} {v v' : Value} {P : List Tv} {L : List Tm} (h : OwT w B v P L) (hg : w.grownBy w' v.ownBlock) (tv : Tv) (T : Tm) (hc : OwnCd w B (.slice tv.a tv.n tv.c) T.cs) (ha : OwnAc w B (.slice tv.b tv.m tv.d) T.acs) (ho : OwnTv w' B v' (P ++ [tv])) : OwT w' B v' (P ++ [tv]) (L ++ [T]) := by
  refine ⟨by simp [h.len], ho, fun j hj hj' => ?_⟩
  have hv := h.own
  by_cases e : j < L.length
  · have e' : j < P.length := by rw [h.len]; exact e
    rw [List.getElem_append_left e', List.getElem_append_left e]
    exact ⟨own_grown (h.each j e e').1 hv (by decide) hg, own_grown (h.each j e e').2 hv (by decide) hg⟩
  · have ej : j = L.length := by simp at hj; omega
    subst ej
    have ep : P.length = L.length := h.len
    rw [List.getElem_append_right (by omega), List.getElem_append_right (by omega)]
    simp only [ep, Nat.sub_self, List.getElem_cons_zero]
    exact ⟨own_grown hc hv (by decide) hg, own_grown ha hv (by decide) hg⟩
end Go.Proofs.YthaebbmekonacaaGreatDoor
set_option linter.unusedVariables false
set_option linter.unusedSimpArgs false
set_option maxRecDepth 100000
namespace Go.Proofs.YthaebbmekonacaaGreatDoor
open Go.RowKit
/-- A block of three cells. -/
structure C3 (w : World) (b : Nat) (v0 v1 v2 : Value) : Prop where
  c0 : w.cell? ⟨b, 0, none⟩ = some v0
  c1 : w.cell? ⟨b, 1, none⟩ = some v1
  c2 : w.cell? ⟨b, 2, none⟩ = some v2
  f : ∀ i, w.frozen? ⟨b, i, none⟩ = false
theorem C3.new (w : World) (t : TypeId) (v0 v1 v2 : Value) : C3 (w.alloc (.cells #[v0, v1, v2] t)) w.heap.size v0 v1 v2 :=
  ⟨by rw [World.cell?_alloc_new]; rfl, by rw [World.cell?_alloc_new]; rfl, by rw [World.cell?_alloc_new]; rfl, fun i => World.frozen?_alloc_new _ _ _ _⟩
theorem C3.belowB {w w' : World} {b B : Nat} {v0 v1 v2 : Value} (h : C3 w b v0 v1 v2) (hb : Below B w w') (hB : b < B) : C3 w' b v0 v1 v2 :=
  ⟨(hb.cell (p := ⟨b, 0, none⟩) hB).trans h.c0, (hb.cell (p := ⟨b, 1, none⟩) hB).trans h.c1, (hb.cell (p := ⟨b, 2, none⟩) hB).trans h.c2, fun i => by have := h.f i; unfold World.frozen? at this ⊢; rw [hb.block _ hB]; exact this⟩
theorem C3.below {w w' : World} {b : Nat} {v0 v1 v2 : Value} (h : C3 w b v0 v1 v2) (hb : Below w.heap.size w w') : C3 w' b v0 v1 v2 := h.belowB hb (lt_of_cell h.c0)
theorem OwT.set {w : World} {B b i : Nat} {u v : Value} {P : List Tv} {L : List Tm} (h : OwT w B v P L) (hb : b < B) : OwT (w.setCell ⟨b, i, none⟩ u) B v P L :=
  ⟨h.len, owns_heap' h.own fun g hg => by
    have := owns_lt h.own g hg
    simp only [World.setCell, Array.getElem?_modify]
    rw [if_neg (by omega)], fun j hj hj' => ⟨(h.each j hj hj').1.set hb, (h.each j hj hj').2.set hb⟩⟩
theorem C3.other {w : World} {b b' i : Nat} {v v0 v1 v2 : Value} (h : C3 w b v0 v1 v2) (hb : b' ≠ b) : C3 (w.setCell ⟨b', i, none⟩ v) b v0 v1 v2 := by
  obtain ⟨h0, h1, h2, hf⟩ := h
  refine ⟨?_, ?_, ?_, fun i => by rw [World.frozen?_setCell]; exact hf i⟩
  all_goals rw [World.cell?_setCell_other _ _ _ _ (by intro e; injection e with e; exact hb e)]; assumption
theorem C3.set0 {w : World} {b : Nat} {v v0 v1 v2 : Value} (h : C3 w b v0 v1 v2) : C3 (w.setCell ⟨b, 0, none⟩ v) b v v1 v2 := by
  obtain ⟨h0, h1, h2, hf⟩ := h
  exact ⟨World.cell?_setCell_same _ _ _ h0, (World.cell?_setCell_other _ _ _ _ (by intro e; injection e with _ e; omega)).trans h1, (World.cell?_setCell_other _ _ _ _ (by intro e; injection e with _ e; omega)).trans h2, fun i => by rw [World.frozen?_setCell]; exact hf i⟩
theorem C3.set1 {w : World} {b : Nat} {v v0 v1 v2 : Value} (h : C3 w b v0 v1 v2) : C3 (w.setCell ⟨b, 1, none⟩ v) b v0 v v2 := by
  obtain ⟨h0, h1, h2, hf⟩ := h
  exact ⟨(World.cell?_setCell_other _ _ _ _ (by intro e; injection e with _ e; omega)).trans h0, World.cell?_setCell_same _ _ _ h1, (World.cell?_setCell_other _ _ _ _ (by intro e; injection e with _ e; omega)).trans h2, fun i => by rw [World.frozen?_setCell]; exact hf i⟩
theorem C3.set2 {w : World} {b : Nat} {v v0 v1 v2 : Value} (h : C3 w b v0 v1 v2) : C3 (w.setCell ⟨b, 2, none⟩ v) b v0 v1 v := by
  obtain ⟨h0, h1, h2, hf⟩ := h
  exact ⟨(World.cell?_setCell_other _ _ _ _ (by intro e; injection e with _ e; omega)).trans h0, (World.cell?_setCell_other _ _ _ _ (by intro e; injection e with _ e; omega)).trans h1, World.cell?_setCell_same _ _ _ h2, fun i => by rw [World.frozen?_setCell]; exact hf i⟩
end Go.Proofs.YthaebbmekonacaaGreatDoor
