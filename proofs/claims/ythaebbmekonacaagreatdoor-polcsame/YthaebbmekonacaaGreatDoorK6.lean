/-
  The walk of PolcSame.
-/
import Derived.Test.YthaebbmekonacaaGreatDoorS6
set_option linter.unusedVariables false
set_option linter.unusedSimpArgs false
set_option maxRecDepth 100000
namespace Go.Proofs.YthaebbmekonacaaGreatDoor
open Go.RowKit
set_option maxHeartbeats 2000000 in
theorem same_walk (u v : Value) (a b : Po) (w : World) (he : EnvX w) (hu : PoAt w u a) (hv : PoAt w v b) (la : LenP a) (lb : LenP b) (ra : RoomP a) : Calls Tryz.prog 6 #[u, v] w fun e w' => e = .returned (.bool true) ∧ Below w.heap.size w w' := by
  have HE : Hid (EnvX w) := he
  have HU : Hid (PoAt w u a) := hu
  have HV : Hid (PoAt w v b) := hv
  have HLa : Hid (LenP a) := la
  have HLb : Hid (LenP b) := lb
  have HRa : Hid (RoomP a) := ra
  have HRef : Hid (eqP a a = true) := eqP_refl a
  obtain ⟨ut, eu, hut⟩ := hu
  obtain ⟨vt, ev, hvt⟩ := hv
  obtain ⟨x1, y1, e1⟩ := hut.len
  obtain ⟨x2, y2, e2⟩ := hvt.len
  subst e1 e2
  have HEu : Hid (u = _) := eu
  have HEv : Hid (v = _) := ev
  have K1 : Hid (∀ X, Below w.heap.size w X → Calls Tryz.prog 26 #[.agg #[.string a.nm, .slice x1 a.ts.length y1, .bool a.els], .agg #[.string b.nm, .slice x2 b.ts.length y2, .bool b.els]] X fun e w' => e = .returned (.bool (eqP a b)) ∧ Below X.heap.size X w') := fun X hX => same_any _ _ a b X (by have := HU.out.below hX; rw [HEu.out] at this; exact this) (by have := HV.out.below hX; rw [HEv.out] at this; exact this) la lb
  have K2 : Hid (∀ X, Below w.heap.size w X → Calls Tryz.prog 16 #[.agg #[.string a.nm, .slice x1 a.ts.length y1, .bool a.els], .agg #[.string b.nm, .slice x2 b.ts.length y2, .bool b.els]] X fun e w' => e = .returned (.bool (eqP a b)) ∧ Below X.heap.size X w') := fun X hX => rsame_any _ _ a b X (by have := HU.out.below hX; rw [HEu.out] at this; exact this) (by have := HV.out.below hX; rw [HEv.out] at this; exact this) la lb
  have K3 : Hid (∀ X, Below w.heap.size w X → Calls Tryz.prog 9 #[.agg #[.string a.nm, .slice x1 a.ts.length y1, .bool a.els]] X fun e w' => (∃ v, e = .returned v ∧ PoAt w' v a) ∧ Below X.heap.size X w') := fun X hX => own_any _ a X (by have := HU.out.below hX; rw [HEu.out] at this; exact this) ra
  have K4 : Hid (∀ X v', Below w.heap.size w X → PoAt X v' a → Calls Tryz.prog 26 #[.agg #[.string a.nm, .slice x1 a.ts.length y1, .bool a.els], v'] X fun e w' => e = .returned (.bool true) ∧ Below X.heap.size X w') := fun X v' hX hv' => by have := same_any _ _ a a X (by have := HU.out.below hX; rw [HEu.out] at this; exact this) hv' la la; rw [HRef.out] at this; exact this
  have K5 : Hid (∀ X, Below w.heap.size w X → Calls Tryz.prog 18 #[] X fun e w' => e = .returned (.bool true) ∧ Below X.heap.size X w') := fun X hX => works_any X (he.below hX)
  rw [eu, ev]
  clear eu ev hut hvt la lb ra he HU HV HEu HEv HLa HLb HRa HRef HE
  obtain ⟨z, hz⟩ : ∃ z, eqP a b = z := ⟨_, rfl⟩
  rw [hz] at K1 K2
  clear hz
  generalize hna : a.nm = s1 at *
  generalize b.nm = s2 at *
  generalize hla : a.ts.length = n1 at *
  generalize b.ts.length = n2 at *
  generalize hea : a.els = e1 at *
  generalize b.els = e2 at *
  have hsz : (w.alloc (.cells #[.string s1, .slice x1 n1 y1, .bool e1] 24)).heap.size = w.heap.size + 1 := by simp
  obtain ⟨W, hW⟩ : ∃ W, (w.alloc (.cells #[.string s1, .slice x1 n1 y1, .bool e1] 24)).alloc (.cells #[.string s2, .slice x2 n2 y2, .bool e2] 24) = W := ⟨_, rfl⟩
  have HB : Hid (Below w.heap.size w W) := by unfold Hid; rw [← hW]; exact ((Below.refl _ _).alloc (Nat.le_refl _) _).alloc (by rw [hsz]; omega) _
  have c : C3 W w.heap.size (.string s1) (.slice x1 n1 y1) (.bool e1) := by rw [← hW]; exact (C3.new w 24 _ _ _).below ((Below.refl _ _).alloc (Nat.le_refl _) _)
  have d : C3 W (w.heap.size + 1) (.string s2) (.slice x2 n2 y2) (.bool e2) := by rw [← hW, ← hsz]; exact C3.new _ 24 _ _ _
  have p0 := c.c0
  have p1 := c.c1
  have p2 := c.c2
  have q0 := d.c0
  have q1 := d.c1
  have q2 := d.c2
  clear c d hsz hna hla hea
  go_enter Tryz.func6, Tryz.ntmps6
  go_wp2
  go_region_held (fun w' => w'.cell? ⟨w.heap.size, 0, none⟩ = some (.string s1) ∧ w'.cell? ⟨w.heap.size, 1, none⟩ = some (.slice x1 n1 y1) ∧ w'.cell? ⟨w.heap.size, 2, none⟩ = some (.bool e1) ∧ w'.cell? ⟨w.heap.size + 1, 0, none⟩ = some (.string s2) ∧ w'.cell? ⟨w.heap.size + 1, 1, none⟩ = some (.slice x2 n2 y2) ∧ w'.cell? ⟨w.heap.size + 1, 2, none⟩ = some (.bool e2)) (go_keep)
    (first
      | (go_at_call 26; refine Calls.mono (K4.out _ _ HB4.out HO4.out) ?_; rintro e w5 ⟨rfl, hb5⟩; have p0 := below_cell hb5 p0; have p1 := below_cell hb5 p1; have p2 := below_cell hb5 p2; have q0 := below_cell hb5 q0; have q1 := below_cell hb5 q1; have q2 := below_cell hb5 q2; have HB5 : Hid (Below w.heap.size w w5) := HB4.out.trans (hb5.mono HB4.out.size))
      | (go_at_call 26; refine Calls.mono (K1.out _ (below_dr HB.out 1)) ?_; rintro e w2 ⟨rfl, hb2⟩; have p0 := below_cell hb2 p0; have p1 := below_cell hb2 p1; have p2 := below_cell hb2 p2; have q0 := below_cell hb2 q0; have q1 := below_cell hb2 q1; have q2 := below_cell hb2 q2; have HB2 : Hid (Below w.heap.size w w2) := (below_dr HB.out 1).trans (hb2.mono HB.out.size))
      | (go_at_call 16; refine Calls.mono (K2.out _ HB2.out) ?_; rintro e w3 ⟨rfl, hb3⟩; have p0 := below_cell hb3 p0; have p1 := below_cell hb3 p1; have p2 := below_cell hb3 p2; have q0 := below_cell hb3 q0; have q1 := below_cell hb3 q1; have q2 := below_cell hb3 q2; have HB3 : Hid (Below w.heap.size w w3) := HB2.out.trans (hb3.mono HB2.out.size))
      | (go_at_call 9; refine Calls.mono (K3.out _ HB3.out) ?_; rintro e w4 ⟨⟨v4, rfl, ho4⟩, hb4⟩; have p0 := below_cell hb4 p0; have p1 := below_cell hb4 p1; have p2 := below_cell hb4 p2; have q0 := below_cell hb4 q0; have q1 := below_cell hb4 q1; have q2 := below_cell hb4 q2; have HB4 : Hid (Below w.heap.size w w4) := HB3.out.trans (hb4.mono HB3.out.size); have HO4 : Hid (PoAt w4 v4 a) := ho4; clear ho4)
      | (go_at_call 18; refine Calls.mono (K5.out _ HB5.out) ?_; rintro e w6 ⟨rfl, hb6⟩; have p0 := below_cell hb6 p0; have p1 := below_cell hb6 p1; have p2 := below_cell hb6 p2; have q0 := below_cell hb6 q0; have q1 := below_cell hb6 q1; have q2 := below_cell hb6 q2; have HB6 : Hid (Below w.heap.size w w6) := HB5.out.trans (hb6.mono HB5.out.size)))
  all_goals go_wp2
  all_goals go_ret
  all_goals exact ⟨rfl, HB6.out⟩
end Go.Proofs.YthaebbmekonacaaGreatDoor
