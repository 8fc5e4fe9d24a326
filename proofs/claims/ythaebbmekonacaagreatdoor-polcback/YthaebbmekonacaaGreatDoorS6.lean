/-
  Terms and policies of one's own.
-/
import Derived.Test.YthaebbmekonacaaGreatDoorS34
import Derived.Test.YthaebbmekonacaaGreatDoorRU
set_option linter.unusedVariables false
set_option linter.unusedSimpArgs false
set_option maxRecDepth 100000
namespace Go.Proofs.YthaebbmekonacaaGreatDoor
open Go.RowKit
theorem C2.belowB {w w' : World} {b B : Nat} {v0 v1 : Value} (h : C2 w b v0 v1) (hb : Below B w w') (hB : b < B) : C2 w' b v0 v1 :=
  ⟨(hb.cell (p := ⟨b, 0, none⟩) hB).trans h.c0, (hb.cell (p := ⟨b, 1, none⟩) hB).trans h.c1, fun i => by have := h.f i; unfold World.frozen? at this ⊢; rw [hb.block _ hB]; exact this⟩
theorem below_set {B : Nat} {w w1 : World} (h : Below B w w1) {b i : Nat} {v : Value} (hb : B ≤ b) : Below B w (w1.setCell ⟨b, i, none⟩ v) :=
  ⟨h.os, h.tape, h.output, by simpa using h.size, fun j hj => by
    rw [← h.block j hj]
    simp only [World.setCell, Array.getElem?_modify]
    rw [if_neg (by omega)]⟩
/-- What comes in fits into memory. -/
def RoomT (T : Tm) : Prop := T.cs.length * 40 ≤ 140737488355328 ∧ T.acs.length * 48 ≤ 140737488355328
set_option maxHeartbeats 2000000 in
theorem ownTerm_any (u : Value) (T : Tm) (w : World) (hu : TmAt w u T) (hr : RoomT T) : Calls Tryz.prog 19 #[u] w fun e w' => (∃ tv : Tv, e = .returned (.agg #[.slice tv.a tv.n tv.c, .slice tv.b tv.m tv.d]) ∧ OwnCd w' w.heap.size (.slice tv.a tv.n tv.c) T.cs ∧ OwnAc w' w.heap.size (.slice tv.b tv.m tv.d) T.acs) ∧ Below w.heap.size w w' := by
  obtain ⟨uc, ua, rfl, huc, hua⟩ := hu
  obtain ⟨x1, y1, rfl⟩ := huc.len
  obtain ⟨x2, y2, rfl⟩ := hua.len
  obtain ⟨cs, acs⟩ := T
  dsimp only at *
  obtain ⟨r1, r2⟩ := hr
  dsimp only at r1 r2
  obtain ⟨W1, hW1⟩ : ∃ W1, (w.alloc (.cells #[.slice x1 cs.length y1, .slice x2 acs.length y2] 63)).alloc (.cells #[.slice none 0 0, .slice none 0 0] 63) = W1 := ⟨_, rfl⟩
  have hsz : (w.alloc (.cells #[.slice x1 cs.length y1, .slice x2 acs.length y2] 63)).heap.size = w.heap.size + 1 := by simp
  have hs1 : W1.heap.size = w.heap.size + 2 := by rw [← hW1]; simp
  have bb1 : Below w.heap.size w W1 := by rw [← hW1]; exact ((Below.refl _ _).alloc (Nat.le_refl _) _).alloc (by rw [hsz]; omega) _
  have c1 : C2 W1 w.heap.size (.slice x1 cs.length y1) (.slice x2 acs.length y2) := by rw [← hW1]; exact (C2.new w 63 _ _).below ((Below.refl _ _).alloc (Nat.le_refl _) _)
  have d1 : C2 W1 (w.heap.size + 1) (.slice none 0 0) (.slice none 0 0) := by rw [← hW1, ← hsz]; exact C2.new _ 63 _ _
  have HB1 : Hid (Below w.heap.size w W1) := bb1
  have HC1 : Hid (C2 W1 w.heap.size _ _) := c1
  have HD1 : Hid (C2 W1 (w.heap.size + 1) _ _) := d1
  have HS1 : Hid (W1.heap.size = w.heap.size + 2) := hs1
  have HU : Hid (CdAt W1 (.slice x1 cs.length y1) cs) := huc.below bb1
  have HV : Hid (AcAt w (.slice x2 acs.length y2) acs) := hua
  have z0 := c1.c0
  have z1 := c1.c1
  have f0 := c1.f 0
  clear hsz hs1 bb1 c1 d1 huc hua
  go_enter Tryz.func19, Tryz.ntmps19
  go_wp2_with (first
    | (at_builtin; refine wpList_append_Cd _ rfl _ _ rfl W1.heap.size _ _ [] cs rfl rfl (OwnCd.nil _ _) HU.out (by simpa using r1) (Nat.le_refl _) ?_; intro v6 w6 hown6 hb6; rw [List.nil_append] at hown6; obtain ⟨a6, k6, e6, hk6⟩ := own_len hown6; subst e6;
       have hC6 := HC1.out.belowB hb6 (by have := HS1.out; omega); have hD6 := HD1.out.belowB hb6 (by have := HS1.out; omega);
       have HO6 : Hid (OwnCd w6 W1.heap.size (.slice a6 cs.length k6) cs) := hown6; have HC6 : Hid (C2 w6 w.heap.size _ _) := hC6; have HD6 : Hid (C2 w6 (w.heap.size + 1) _ _) := hD6; have HB6 : Hid (Below w.heap.size w w6) := HB1.out.trans (hb6.mono HB1.out.size);
       obtain ⟨W7, hW7⟩ : ∃ W, w6.setCell ⟨w.heap.size, 0, none⟩ (.slice a6 cs.length k6) = W := ⟨_, rfl⟩;
       have HC7 : Hid (C2 W7 w.heap.size (.slice a6 cs.length k6) (.slice x2 acs.length y2)) := (by unfold Hid; rw [← hW7]; exact HC6.out.set0);
       have HD7 : Hid (C2 W7 (w.heap.size + 1) (.slice none 0 0) (.slice none 0 0)) := (by unfold Hid; rw [← hW7]; exact HD6.out.other (by omega));
       have HO7 : Hid (OwnCd W7 W1.heap.size (.slice a6 cs.length k6) cs) := (by unfold Hid; rw [← hW7]; exact HO6.out.set (by have := HS1.out; omega));
       have HB7 : Hid (Below w.heap.size w W7) := (by unfold Hid; rw [← hW7]; exact below_set HB6.out (Nat.le_refl _));
       have g0 := HC6.out.c0; have g1 := HC6.out.f 0; have g2 := HC7.out.c1; clear hC6 hD6 hown6 hb6 hk6)
    | (at_builtin; refine wpList_append_Ac _ rfl _ _ rfl W7.heap.size _ _ [] acs rfl rfl (OwnAc.nil _ _) (HV.out.below HB7.out) (by simpa using r2) (Nat.le_refl _) ?_; intro v8 w8 hown8 hb8; rw [List.nil_append] at hown8; obtain ⟨a8, k8, e8, hk8⟩ := own_len hown8; subst e8;
       have HO8 : Hid (OwnAc w8 W7.heap.size (.slice a8 acs.length k8) acs) := hown8; have HP8 : Hid (OwnCd w8 W1.heap.size (.slice a6 cs.length k6) cs) := HO7.out.below hb8;
       have HC8 : Hid (C2 w8 w.heap.size (.slice a6 cs.length k6) (.slice x2 acs.length y2)) := HC7.out.below hb8; have HD8 : Hid (C2 w8 (w.heap.size + 1) (.slice none 0 0) (.slice none 0 0)) := HD7.out.below hb8; have HB8 : Hid (Below w.heap.size w w8) := HB7.out.trans (hb8.mono HB7.out.size);
       have HS7 : Hid (w.heap.size + 1 < W7.heap.size) := lt_of_cell HD7.out.c0;
       obtain ⟨W9, hW9⟩ : ∃ W, w8.setCell ⟨w.heap.size, 1, none⟩ (.slice a8 acs.length k8) = W := ⟨_, rfl⟩;
       have HC9 : Hid (C2 W9 w.heap.size (.slice a6 cs.length k6) (.slice a8 acs.length k8)) := (by unfold Hid; rw [← hW9]; exact HC8.out.set1);
       have HD9 : Hid (C2 W9 (w.heap.size + 1) (.slice none 0 0) (.slice none 0 0)) := (by unfold Hid; rw [← hW9]; exact HD8.out.other (by omega));
       have HO9 : Hid (OwnAc W9 W7.heap.size (.slice a8 acs.length k8) acs) := (by unfold Hid; rw [← hW9]; exact HO8.out.set (by have := HS7.out; omega));
       have HP9 : Hid (OwnCd W9 W1.heap.size (.slice a6 cs.length k6) cs) := (by unfold Hid; rw [← hW9]; exact HP8.out.set (by have := HS1.out; omega));
       have HB9 : Hid (Below w.heap.size w W9) := (by unfold Hid; rw [← hW9]; exact below_set HB8.out (Nat.le_refl _));
       have g3 := HC8.out.c1; have g4 := HC8.out.f 1; have g5 := HC9.out.c0; have g6 := HC9.out.c1; have g7 := HD9.out.c0; have g8 := HD9.out.c1; have g9 := HD9.out.f 0; have ga := HD9.out.f 1; clear hown8 hb8 hk8))
  have HF : Hid (C2 ((W9.setCell ⟨w.heap.size + 1, 0, none⟩ (.slice a6 cs.length k6)).setCell ⟨w.heap.size + 1, 1, none⟩ (.slice a8 acs.length k8)) (w.heap.size + 1) (.slice a6 cs.length k6) (.slice a8 acs.length k8)) := HD9.out.set0.set1
  have HBF : Hid (Below w.heap.size w ((W9.setCell ⟨w.heap.size + 1, 0, none⟩ (.slice a6 cs.length k6)).setCell ⟨w.heap.size + 1, 1, none⟩ (.slice a8 acs.length k8))) := below_set (below_set HB9.out (by omega)) (by omega)
  have HOF : Hid (OwnCd ((W9.setCell ⟨w.heap.size + 1, 0, none⟩ (.slice a6 cs.length k6)).setCell ⟨w.heap.size + 1, 1, none⟩ (.slice a8 acs.length k8)) w.heap.size (.slice a6 cs.length k6) cs) := owns_mono ((HP9.out.set (by have := HS1.out; omega)).set (by have := HS1.out; omega)) (by have := HS1.out; omega)
  have HPF : Hid (OwnAc ((W9.setCell ⟨w.heap.size + 1, 0, none⟩ (.slice a6 cs.length k6)).setCell ⟨w.heap.size + 1, 1, none⟩ (.slice a8 acs.length k8)) w.heap.size (.slice a8 acs.length k8) acs) := owns_mono ((HO9.out.set (by have := HS7.out; omega)).set (by have := HS7.out; omega)) (by have := HS7.out; omega)
  generalize (W9.setCell ⟨w.heap.size + 1, 0, none⟩ (.slice a6 cs.length k6)).setCell ⟨w.heap.size + 1, 1, none⟩ (.slice a8 acs.length k8) = WF at *
  have e0 := HF.out.c0
  have e1 := HF.out.c1
  refine bodyPost_ret (v := .agg #[.slice a6 cs.length k6, .slice a8 acs.length k8]) (by simp [results, Tryz.results19, go_sem, e0, e1]) rfl ?_
  exact ⟨⟨⟨a6, cs.length, k6, a8, acs.length, k8⟩, rfl, HOF.out, HPF.out⟩, HBF.out⟩
/-- Rows of two kinds lie apart. -/
theorem own_apart {w : World} {b1 b2 : Nat} {e1 e2 : TypeId} {s1 s2 : Nat} {v1 v2 : Value} {n1 n2 : Nat} {x1 x2 : List Value} (h1 : w.ownsRow b1 e1 s1 v1 n1 x1) (h2 : w.ownsRow b2 e2 s2 v2 n2 x2) (he : e1 ≠ e2) : ∀ g, v1.ownBlock = some g → some g ≠ v2.ownBlock := by
  intro g hg hc
  obtain ⟨_, ⟨rfl, _⟩ | ⟨g1, c1, u1, rfl, _, k1, _⟩⟩ := h1
  · simp [Value.ownBlock] at hg
  · obtain ⟨_, ⟨rfl, _⟩ | ⟨g2, c2, u2, rfl, _, k2, _⟩⟩ := h2
    · simp [Value.ownBlock] at hc
    · simp only [Value.ownBlock, Option.some.injEq] at hg hc
      subst hg
      subst hc
      rw [k1] at k2
      simp only [Option.some.injEq, Obj.cells.injEq] at k2
      exact he k2.2.1
theorem own_grown {w w' : World} {b1 b2 : Nat} {e1 e2 : TypeId} {s1 s2 : Nat} {v1 v2 : Value} {n1 n2 : Nat} {x1 x2 : List Value} (h1 : w.ownsRow b1 e1 s1 v1 n1 x1) (h2 : w.ownsRow b2 e2 s2 v2 n2 x2) (he : e1 ≠ e2) (hg : w.grownBy w' v2.ownBlock) : w'.ownsRow b1 e1 s1 v1 n1 x1 :=
  owns_heap' h1 fun g hb => hg.block g (owns_lt h1 g hb).2 (own_apart h1 h2 he g hb)
/-- The terms that were put so far. -/
structure OwT (w : World) (B : Nat) (v : Value) (P : List Tv) (L : List Tm) : Prop where
  len : P.length = L.length
  own : OwnTv w B v P
  each : ∀ j (h : j < L.length) (h' : j < P.length), OwnCd w B (.slice P[j].a P[j].n P[j].c) L[j].cs ∧ OwnAc w B (.slice P[j].b P[j].m P[j].d) L[j].acs
theorem OwT.at {w : World} {B : Nat} {v : Value} {P : List Tv} {L : List Tm} (h : OwT w B v P L) : TsAt w v L := by
  obtain ⟨ad, b, off, cap, e, h1, h2, h3⟩ := h.own.at
  refine ⟨ad, b, off, cap, by rw [e, h.len], by rw [← h.len]; exact h1, by rw [← h.len]; exact h2, fun j hj => ?_⟩
  have hj' : j < P.length := by rw [h.len]; exact hj
  obtain ⟨k1, k2⟩ := h3 j hj'
  exact ⟨_, _, k1, k2, (h.each j hj hj').1.at, (h.each j hj hj').2.at⟩
theorem OwT.below {w w' : World} {B : Nat} {v : Value} {P : List Tv} {L : List Tm} (h : OwT w B v P L) (hb : Below w.heap.size w w') : OwT w' B v P L :=
  ⟨h.len, h.own.below hb, fun j hj hj' => ⟨(h.each j hj hj').1.below hb, (h.each j hj hj').2.below hb⟩⟩
theorem OwT.grown {w w' : World} {B : Nat} {v v' : Value} {P : List Tv} {L : List Tm} (h : OwT w B v P L) (hg : w.grownBy w' v.ownBlock) (tv : Tv) (T : Tm) (hc : OwnCd w B (.slice tv.a tv.n tv.c) T.cs) (ha : OwnAc w B (.slice tv.b tv.m tv.d) T.acs) (ho : OwnTv w' B v' (P ++ [tv])) : OwT w' B v' (P ++ [tv]) (L ++ [T]) := by
  refine ⟨by simp [h.len], ho, fun j hj hj' => ?_⟩
  have hv := h.own
  by_cases e : j < L.length
  · have e' : j < P.length := by rw [h.len]; exact e
    rw [List.getElem_append_left e', List.getElem_append_left e]
    exact ⟨own_grown (h.each j e e').1 hv (by decide) hg, own_grown (h.each j e e').2 hv (by decide) hg⟩
  · have ej : j = L.length := by simp at hj; omega
    subst ej
    have ep : P.length = L.length := h.len
    rw [List.getElem_append_right (by omega), List.getElem_append_right (by omega)]
    simp only [ep, Nat.sub_self, List.getElem_cons_zero]
    exact ⟨own_grown hc hv (by decide) hg, own_grown ha hv (by decide) hg⟩
def RoomP (p : Po) : Prop := p.ts.length * 48 ≤ 140737488355328 ∧ ∀ t ∈ p.ts, RoomT t
end Go.Proofs.YthaebbmekonacaaGreatDoor
set_option linter.unusedVariables false
set_option linter.unusedSimpArgs false
set_option maxRecDepth 100000
namespace Go.Proofs.YthaebbmekonacaaGreatDoor
open Go.RowKit
/-- A block of three cells. -/
structure C3 (w : World) (b : Nat) (v0 v1 v2 : Value) : Prop where
  c0 : w.cell? ⟨b, 0, none⟩ = some v0
  c1 : w.cell? ⟨b, 1, none⟩ = some v1
  c2 : w.cell? ⟨b, 2, none⟩ = some v2
  f : ∀ i, w.frozen? ⟨b, i, none⟩ = false
theorem C3.new (w : World) (t : TypeId) (v0 v1 v2 : Value) : C3 (w.alloc (.cells #[v0, v1, v2] t)) w.heap.size v0 v1 v2 :=
  ⟨by rw [World.cell?_alloc_new]; rfl, by rw [World.cell?_alloc_new]; rfl, by rw [World.cell?_alloc_new]; rfl, fun i => World.frozen?_alloc_new _ _ _ _⟩
theorem C3.belowB {w w' : World} {b B : Nat} {v0 v1 v2 : Value} (h : C3 w b v0 v1 v2) (hb : Below B w w') (hB : b < B) : C3 w' b v0 v1 v2 :=
  ⟨(hb.cell (p := ⟨b, 0, none⟩) hB).trans h.c0, (hb.cell (p := ⟨b, 1, none⟩) hB).trans h.c1, (hb.cell (p := ⟨b, 2, none⟩) hB).trans h.c2, fun i => by have := h.f i; unfold World.frozen? at this ⊢; rw [hb.block _ hB]; exact this⟩
theorem C3.below {w w' : World} {b : Nat} {v0 v1 v2 : Value} (h : C3 w b v0 v1 v2) (hb : Below w.heap.size w w') : C3 w' b v0 v1 v2 := h.belowB hb (lt_of_cell h.c0)
theorem OwT.set {w : World} {B b i : Nat} {u v : Value} {P : List Tv} {L : List Tm} (h : OwT w B v P L) (hb : b < B) : OwT (w.setCell ⟨b, i, none⟩ u) B v P L :=
  ⟨h.len, owns_heap' h.own fun g hg => by
    have := owns_lt h.own g hg
    simp only [World.setCell, Array.getElem?_modify]
    rw [if_neg (by omega)], fun j hj hj' => ⟨(h.each j hj hj').1.set hb, (h.each j hj hj').2.set hb⟩⟩
theorem C3.other {w : World} {b b' i : Nat} {v v0 v1 v2 : Value} (h : C3 w b v0 v1 v2) (hb : b' ≠ b) : C3 (w.setCell ⟨b', i, none⟩ v) b v0 v1 v2 := by
  obtain ⟨h0, h1, h2, hf⟩ := h
  refine ⟨?_, ?_, ?_, fun i => by rw [World.frozen?_setCell]; exact hf i⟩
  all_goals rw [World.cell?_setCell_other _ _ _ _ (by intro e; injection e with e; exact hb e)]; assumption
theorem C3.set0 {w : World} {b : Nat} {v v0 v1 v2 : Value} (h : C3 w b v0 v1 v2) : C3 (w.setCell ⟨b, 0, none⟩ v) b v v1 v2 := by
  obtain ⟨h0, h1, h2, hf⟩ := h
  exact ⟨World.cell?_setCell_same _ _ _ h0, (World.cell?_setCell_other _ _ _ _ (by intro e; injection e with _ e; omega)).trans h1, (World.cell?_setCell_other _ _ _ _ (by intro e; injection e with _ e; omega)).trans h2, fun i => by rw [World.frozen?_setCell]; exact hf i⟩
theorem C3.set1 {w : World} {b : Nat} {v v0 v1 v2 : Value} (h : C3 w b v0 v1 v2) : C3 (w.setCell ⟨b, 1, none⟩ v) b v0 v v2 := by
  obtain ⟨h0, h1, h2, hf⟩ := h
  exact ⟨(World.cell?_setCell_other _ _ _ _ (by intro e; injection e with _ e; omega)).trans h0, World.cell?_setCell_same _ _ _ h1, (World.cell?_setCell_other _ _ _ _ (by intro e; injection e with _ e; omega)).trans h2, fun i => by rw [World.frozen?_setCell]; exact hf i⟩
theorem C3.set2 {w : World} {b : Nat} {v v0 v1 v2 : Value} (h : C3 w b v0 v1 v2) : C3 (w.setCell ⟨b, 2, none⟩ v) b v0 v1 v := by
  obtain ⟨h0, h1, h2, hf⟩ := h
  exact ⟨(World.cell?_setCell_other _ _ _ _ (by intro e; injection e with _ e; omega)).trans h0, (World.cell?_setCell_other _ _ _ _ (by intro e; injection e with _ e; omega)).trans h1, World.cell?_setCell_same _ _ _ h2, fun i => by rw [World.frozen?_setCell]; exact hf i⟩
theorem oneTv (w : World) (t : Tv) : TvAt (w.alloc (.cells #[.slice t.a t.n t.c, .slice t.b t.m t.d] 63)) (.slice (some ⟨w.heap.size, 0, none⟩) 1 1) [t] := by
  refine ⟨_, w.heap.size, 0, 1, rfl, Or.inl rfl, by simp, fun j hj => ?_⟩
  obtain rfl : j = 0 := by simpa using hj
  refine ⟨?_, ?_⟩ <;> rw [World.cell?_alloc_new] <;> rfl
set_option maxHeartbeats 1000000 in
theorem own_any (u : Value) (p : Po) (w : World) (hu : PoAt w u p) (hr : RoomP p) : Calls Tryz.prog 9 #[u] w fun e w' => (∃ v, e = .returned v ∧ PoAt w' v p) ∧ Below w.heap.size w w' := by
  obtain ⟨ut, rfl, hut⟩ := hu
  obtain ⟨nm, L, els⟩ := p
  dsimp only at *
  obtain ⟨r1, r2⟩ := hr
  dsimp only at r1 r2
  obtain ⟨ad, b, off, cap, rfl, had, hcap, hrow⟩ := hut
  obtain ⟨n, hn⟩ : ∃ n, L.length = n := ⟨_, rfl⟩
  have HN : Hid (L.length = n) := hn
  have HR : Hid (_ : Prop) := hrow
  have HRm : Hid (∀ t ∈ L, RoomT t) := r2
  rw [hn] at had hcap r1 ⊢
  clear hrow hn r2
  obtain ⟨W1, hW1⟩ : ∃ W1, (w.alloc (.cells #[.string nm, .slice ad n cap, .bool els] 24)).alloc (.cells #[.string ⟨#[]⟩, .slice none 0 0, .bool false] 24) = W1 := ⟨_, rfl⟩
  have hsz : (w.alloc (.cells #[.string nm, .slice ad n cap, .bool els] 24)).heap.size = w.heap.size + 1 := by simp
  have hs1 : W1.heap.size = w.heap.size + 2 := by rw [← hW1]; simp
  have bb1 : Below w.heap.size w W1 := by rw [← hW1]; exact ((Below.refl _ _).alloc (Nat.le_refl _) _).alloc (by rw [hsz]; omega) _
  have c1 : C3 W1 w.heap.size (.string nm) (.slice ad n cap) (.bool els) := by rw [← hW1]; exact (C3.new w 24 _ _ _).below ((Below.refl _ _).alloc (Nat.le_refl _) _)
  have d1 : C3 W1 (w.heap.size + 1) (.string ⟨#[]⟩) (.slice none 0 0) (.bool false) := by rw [← hW1, ← hsz]; exact C3.new _ 24 _ _ _
  have HB1 : Hid (Below w.heap.size w W1) := bb1
  have HC1 : Hid (C3 W1 w.heap.size _ _ _) := c1
  have HD1 : Hid (C3 W1 (w.heap.size + 1) _ _ _) := d1
  have HS1 : Hid (W1.heap.size = w.heap.size + 2) := hs1
  clear hsz hs1 bb1 c1 d1
  go_enter Tryz.func9, Tryz.ntmps9
  go_wp2
  go_loopw [3, 4] (fun x3 x4 wr => ∃ (k : Nat) (P : List Tv), k ≤ n ∧ x4 = .int .i64 k ∧ OwT wr W1.heap.size x3 P (L.take k) ∧ Below W1.heap.size W1 wr) (fun _ x4 _ => n - (intOf x4).toNat)
  case atStart => exact ⟨0, [], Nat.zero_le _, rfl, ⟨rfl, OwnTv.nil _ _, fun j hj => by simp at hj⟩, Below.refl _ _⟩
  case round =>
    obtain ⟨k, P, hk, rfl, ho, hb⟩ := hrel
    have hpl : P.length = k := by rw [ho.len, List.length_take, HN.out]; omega
    obtain ⟨av, cv, ev, hcv⟩ := own_len ho.own
    subst ev
    rw [hpl] at ho hcv ⊢
    have HO : Hid (OwT wr W1.heap.size (.slice av k cv) P (L.take k)) := ho
    have HPL : Hid (P.length = k) := hpl
    have HB : Hid (Below W1.heap.size W1 wr) := hb
    have HBw : Hid (Below w.heap.size w wr) := HB1.out.trans (hb.mono HB1.out.size)
    have hc := HC1.out.belowB hb (by have := HS1.out; omega)
    have hd := HD1.out.belowB hb (by have := HS1.out; omega)
    have HC : Hid (C3 wr w.heap.size _ _ _) := hc
    have HD : Hid (C3 wr (w.heap.size + 1) _ _ _) := hd
    have z1 := hc.c1
    clear ho hb hpl hd
    by_cases hlt : k < n
    · clear hc
      obtain rfl : ad = some ⟨b, off, none⟩ := by
        rcases had with h | h
        · exact h
        · omega
      have k1 : k < L.length := by rw [HN.out]; exact hlt
      obtain ⟨vc, va, c0', c1', hvc, hva⟩ := HR.out k k1
      have c0 := below_cell HBw.out c0'
      have c1 := below_cell HBw.out c1'
      have HT : Hid (L.take (k + 1) = L.take k ++ [L[k]]) := List.take_succ_eq_append_getElem k1
      have HK : Hid (Calls Tryz.prog 19 #[.agg #[vc, va]] wr fun e w' => (∃ tv : Tv, e = .returned (.agg #[.slice tv.a tv.n tv.c, .slice tv.b tv.m tv.d]) ∧ OwnCd w' wr.heap.size (.slice tv.a tv.n tv.c) L[k].cs ∧ OwnAc w' wr.heap.size (.slice tv.b tv.m tv.d) L[k].acs) ∧ Below wr.heap.size wr w') := ownTerm_any _ L[k] wr ⟨vc, va, rfl, hvc.below HBw.out, hva.below HBw.out⟩ (HRm.out _ (List.getElem_mem k1))
      obtain ⟨x1, y1, e1'⟩ := hvc.len
      obtain ⟨x2, y2, e2'⟩ := hva.len
      subst e1' e2'
      clear hvc hva c0' c1'
      generalize L[k].cs.length = n1 at *
      generalize L[k].acs.length = n2 at *
      obtain ⟨T, hT⟩ : ∃ T, L[k] = T := ⟨_, rfl⟩
      rw [hT] at HK HT
      clear hT k1
      have i1 : (k : Int) < (n : Int) := by omega
      go_wp2_with fail
      refine Calls.mono HK.out ?_
      rintro e w2 ⟨⟨tv, rfl, hoc, hoa⟩, hb2⟩
      have HO2 : Hid (OwT w2 W1.heap.size (.slice av k cv) P (L.take k)) := HO.out.below hb2
      have HB2 : Hid (Below W1.heap.size W1 w2) := HB.out.trans (hb2.mono HB.out.size)
      have HA : Hid (∀ A, Below w2.heap.size w2 (w2.alloc (.cells A 63))) := fun A => (Below.refl _ _).alloc (Nat.le_refl _) _
      have HOc : Hid (OwnCd w2 W1.heap.size (.slice tv.a tv.n tv.c) T.cs) := owns_mono hoc HB.out.size
      have HOa : Hid (OwnAc w2 W1.heap.size (.slice tv.b tv.m tv.d) T.acs) := owns_mono hoa HB.out.size
      have HC1v : Hid (_ : Prop) := oneTv w2 tv
      clear hoc hoa hb2 HK c0 c1 z1
      go_wp2_with (at_builtin; refine wpList_append_Tv _ rfl _ _ rfl W1.heap.size _ _ P [tv] (by first | rfl | (rw [HPL.out]; rfl)) rfl (by first | exact (HO2.out.below (HA.out _)).own | (rw [HPL.out]; exact (HO2.out.below (HA.out _)).own)) HC1v.out (by rw [HPL.out]; simp; omega) (by have := HB2.out.size; have := (HA.out #[]).size; simp; omega) (by simp) ?_; intro v6 w6 hown6 hb6 hg6)
      refine ⟨⟨k + 1, P ++ [tv], by omega, by go_num, ?_, (HB2.out.trans ((HA.out _).mono HB2.out.size)).trans hb6⟩, by simp [intOf]; omega⟩
      rw [HT.out]
      exact (HO2.out.below (HA.out _)).grown hg6 tv T (HOc.out.below (HA.out _)) (HOa.out.below (HA.out _)) hown6
    · obtain rfl : k = n := by omega
      have HTk : Hid (L.take k = L) := List.take_of_length_le (by rw [HN.out]; exact Nat.le_refl _)
      rw [HTk.out] at HO
      obtain ⟨W2, hW2⟩ : ∃ W, wr.setCell ⟨w.heap.size, 1, none⟩ (.slice av k cv) = W := ⟨_, rfl⟩
      have HC2 : Hid (C3 W2 w.heap.size (.string nm) (.slice av k cv) (.bool els)) := by unfold Hid; rw [← hW2]; exact HC.out.set1
      have HD2 : Hid (C3 W2 (w.heap.size + 1) (.string ⟨#[]⟩) (.slice none 0 0) (.bool false)) := by unfold Hid; rw [← hW2]; exact HD.out.other (by omega)
      have HO2 : Hid (OwT W2 W1.heap.size (.slice av k cv) P L) := by unfold Hid; rw [← hW2]; exact HO.out.set (by have := HS1.out; omega)
      have HB2 : Hid (Below w.heap.size w W2) := by unfold Hid; rw [← hW2]; exact below_set HBw.out (Nat.le_refl _)
      have y0 := hc.f 1
      have g0 := HC2.out.c0
      have g1 := HC2.out.c1
      have g2 := HC2.out.c2
      have e0 := HD2.out.c0
      have e1 := HD2.out.c1
      have e2 := HD2.out.c2
      have f0 := HD2.out.f 0
      have f1 := HD2.out.f 1
      have f2 := HD2.out.f 2
      have HF : Hid (C3 (((W2.setCell ⟨w.heap.size + 1, 0, none⟩ (.string nm)).setCell ⟨w.heap.size + 1, 1, none⟩ (.slice av k cv)).setCell ⟨w.heap.size + 1, 2, none⟩ (.bool els)) (w.heap.size + 1) (.string nm) (.slice av k cv) (.bool els)) := HD2.out.set0.set1.set2
      have HBF : Hid (Below w.heap.size w (((W2.setCell ⟨w.heap.size + 1, 0, none⟩ (.string nm)).setCell ⟨w.heap.size + 1, 1, none⟩ (.slice av k cv)).setCell ⟨w.heap.size + 1, 2, none⟩ (.bool els))) := below_set (below_set (below_set HB2.out (by omega)) (by omega)) (by omega)
      have HOF : Hid (TsAt (((W2.setCell ⟨w.heap.size + 1, 0, none⟩ (.string nm)).setCell ⟨w.heap.size + 1, 1, none⟩ (.slice av k cv)).setCell ⟨w.heap.size + 1, 2, none⟩ (.bool els)) (.slice av k cv) L) := (((HO2.out.set (by have := HS1.out; omega)).set (by have := HS1.out; omega)).set (by have := HS1.out; omega)).at
      clear hc
      go_wp2
      generalize ((W2.setCell ⟨w.heap.size + 1, 0, none⟩ (.string nm)).setCell ⟨w.heap.size + 1, 1, none⟩ (.slice av k cv)).setCell ⟨w.heap.size + 1, 2, none⟩ (.bool els) = WF at *
      have h0 := HF.out.c0
      have h1 := HF.out.c1
      have h2 := HF.out.c2
      refine bodyPost_ret (v := .agg #[.string nm, .slice av k cv, .bool els]) (by simp [results, Tryz.results9, go_sem, h0, h1, h2]) rfl ?_
      exact ⟨⟨_, rfl, _, rfl, HOF.out⟩, HBF.out⟩
end Go.Proofs.YthaebbmekonacaaGreatDoor
