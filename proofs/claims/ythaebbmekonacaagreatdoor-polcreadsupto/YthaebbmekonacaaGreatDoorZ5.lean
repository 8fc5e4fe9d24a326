/-
  mayHold, Check, isOf.
-/
import Derived.Test.YthaebbmekonacaaGreatDoorZZ
set_option linter.unusedVariables false
set_option linter.unusedSimpArgs false
set_option maxRecDepth 100000
namespace Go.Proofs.YthaebbmekonacaaGreatDoor
open Go.RowKit
theorem ret_int {k : IntKind} {a b : Int} (h : a = b) : Ending.returned (.int k a) = .returned (.int k b) := by rw [h]
/-- A box of five cells. -/
theorem box5 (w : World) (a b c d e : Value) (t : TypeId) {W : World} (hW : W = w.alloc (.cells #[a, b, c, d, e] t)) :
    Below w.heap.size w W ∧ W.cell? ⟨w.heap.size, 0, none⟩ = some a ∧ W.cell? ⟨w.heap.size, 1, none⟩ = some b ∧ W.cell? ⟨w.heap.size, 2, none⟩ = some c ∧ W.cell? ⟨w.heap.size, 3, none⟩ = some d ∧ W.cell? ⟨w.heap.size, 4, none⟩ = some e := by
  subst hW
  refine ⟨below_box _ _, ?_, ?_, ?_, ?_, ?_⟩ <;> (rw [World.cell?_alloc_new]; rfl)
theorem cells5 {w w' : World} {b : Nat} {x0 x1 x2 x3 x4 : Value} (h : w.cell? ⟨b, 0, none⟩ = some x0 ∧ w.cell? ⟨b, 1, none⟩ = some x1 ∧ w.cell? ⟨b, 2, none⟩ = some x2 ∧ w.cell? ⟨b, 3, none⟩ = some x3 ∧ w.cell? ⟨b, 4, none⟩ = some x4) (hb : Below w.heap.size w w') :
    w'.cell? ⟨b, 0, none⟩ = some x0 ∧ w'.cell? ⟨b, 1, none⟩ = some x1 ∧ w'.cell? ⟨b, 2, none⟩ = some x2 ∧ w'.cell? ⟨b, 3, none⟩ = some x3 ∧ w'.cell? ⟨b, 4, none⟩ = some x4 :=
  ⟨below_cell hb h.1, below_cell hb h.2.1, below_cell hb h.2.2.1, below_cell hb h.2.2.2.1, below_cell hb h.2.2.2.2⟩
set_option maxHeartbeats 4000000 in
theorem mayHold1 (S : Sty) (vi vc vp : Value) (w : World) (ht : Pr.Tabs w) (h : SetAt w S vi vc vp) (hs : Small S) (hk : S.kind = 1) :
    Calls Tryz.prog 107 #[setV S vi vc vp] w fun e w' => e = .returned (.bool (holdB S)) ∧ Below w.heap.size w w' := by
  have HREF : Hid (holdB S = (decide (S.comms.length = 0) && decide (S.paths.length = 0) && decide (S.items.length ≤ 64) && S.items.all okI)) := by
    unfold Hid holdB
    rw [if_pos hk]
  obtain ⟨nm, kind, items, comms, paths⟩ := S
  have KI : Hid (∀ X, Below w.heap.size w X → Calls Tryz.prog 148 #[vi, .func (.func 149) #[] #[]] X fun e w' => e = .returned (.bool (items.all okI)) ∧ Below X.heap.size X w') := fun X hX => allItem vi items okI X (h.i.below hX) hs.i fun k hk y Y hY hy => by
    rw [hy]; exact mayItem_any _ Y ((ht.below hX).below hY) (hs.l _ (List.getElem_mem _))
  have KC : Hid (∀ X, Below w.heap.size w X → Calls Tryz.prog 150 #[vc] X fun e w' => e = .returned (.bool (risB comms)) ∧ Below X.heap.size X w') := fun X hX => rising_any vc comms X (h.c.below hX) hs.c
  have KP : Hid (∀ X, Below w.heap.size w X → Calls Tryz.prog 151 #[vp, .func (.func 152) #[] #[]] X fun e w' => e = .returned (.bool (paths.all okP)) ∧ Below X.heap.size X w') := fun X hX => allPath vp paths okP X (h.p.below hX) hs.p fun k hk y Y hY hy => mayPattern_any y _ Y hy (by have := hs.q _ (List.getElem_mem hk); omega)
  obtain ⟨ai, ci, e1⟩ := h.i.len
  obtain ⟨ac, cc, e2⟩ := h.c.len
  obtain ⟨ap, cp, e3⟩ := h.p.len
  have li := hs.i
  have lc := hs.c
  have lp := hs.p
  simp only at e1 e2 e3 hk HREF li lc lp
  subst e1 e2 e3
  subst hk
  unfold setV
  dsimp only
  generalize holdB _ = r at *
  obtain ⟨hbx, hx⟩ := box5 w (.string nm) (.int .i64 1) (.slice ai items.length ci) (.slice ac comms.length cc) (.slice ap paths.length cp) 47 rfl
  have HX : Hid (_ ∧ _) := hx
  have HBX : Hid (Below _ _ _) := hbx
  obtain ⟨x0, x1, x2, x3, x4⟩ := hx
  clear h hs ht hbx
  generalize items.all okI = zi at *
  generalize risB comms = zc at *
  generalize paths.all okP = zp at *
  generalize items.length = ni at *
  generalize comms.length = nc at *
  generalize paths.length = np at *
  by_cases ha : nc = 0
  · by_cases hb : np = 0
    · by_cases hc : ni ≤ 64
      · have HR : Hid (r = zi) := by unfold Hid; rw [HREF.out]; simp [ha, hb, hc]
        subst ha hb
        go_enter Tryz.func107, Tryz.ntmps107
        go_wp2
        go_quiet (fail)
        have HB5 : Hid (Below w.heap.size w ((w.alloc (.cells #[.string nm, .int .i64 1, .slice ai ni ci, .slice ac 0 cc, .slice ap 0 cp] 47)).drewN nq)) := below_drewN HBX.out _
        obtain ⟨d0, d1, d2, d3, d4⟩ : _ ∧ _ ∧ _ ∧ _ ∧ _ := cells5 HX.out (below_drewN (Below.refl _ _) nq)
        clear HX HBX x1 x2 x3 x4 x0
        generalize (w.alloc (.cells #[.string nm, .int .i64 1, .slice ai ni ci, .slice ac 0 cc, .slice ap 0 cp] 47)).drewN nq = w5 at *
        go_wp2_with (go_at_call 148; refine Calls.mono (KI.out _ HB5.out) ?_; rintro e w2 ⟨rfl, hb2⟩)
        go_ret
        exact ⟨ret_bool HR.out.symm, HB5.out.trans (hb2.mono HB5.out.size)⟩
      · have HR : Hid (r = false) := by unfold Hid; rw [HREF.out]; simp [ha, hb, hc]
        have hc' : ¬ (ni : Int) ≤ 64 := by omega
        subst ha hb
        go_enter Tryz.func107, Tryz.ntmps107
        go_wp2
        go_quiet (fail)
        have HB5 : Hid (Below w.heap.size w ((w.alloc (.cells #[.string nm, .int .i64 1, .slice ai ni ci, .slice ac 0 cc, .slice ap 0 cp] 47)).drewN nq)) := below_drewN HBX.out _
        obtain ⟨d0, d1, d2, d3, d4⟩ : _ ∧ _ ∧ _ ∧ _ ∧ _ := cells5 HX.out (below_drewN (Below.refl _ _) nq)
        clear HX HBX x1 x2 x3 x4 x0
        generalize (w.alloc (.cells #[.string nm, .int .i64 1, .slice ai ni ci, .slice ac 0 cc, .slice ap 0 cp] 47)).drewN nq = w5 at *
        go_wp2
        go_ret
        exact ⟨ret_bool HR.out.symm, HB5.out⟩
    · have HR : Hid (r = false) := by unfold Hid; rw [HREF.out]; simp [ha, hb]
      have hb' : ((np : Int) == 0) = false := by rw [beq_eq_false_iff_ne]; omega
      subst ha
      go_enter Tryz.func107, Tryz.ntmps107
      go_wp2
      go_quiet (fail)
      have HB5 : Hid (Below w.heap.size w ((w.alloc (.cells #[.string nm, .int .i64 1, .slice ai ni ci, .slice ac 0 cc, .slice ap np cp] 47)).drewN nq)) := below_drewN HBX.out _
      obtain ⟨d0, d1, d2, d3, d4⟩ : _ ∧ _ ∧ _ ∧ _ ∧ _ := cells5 HX.out (below_drewN (Below.refl _ _) nq)
      clear HX HBX x1 x2 x3 x4 x0
      generalize (w.alloc (.cells #[.string nm, .int .i64 1, .slice ai ni ci, .slice ac 0 cc, .slice ap np cp] 47)).drewN nq = w5 at *
      go_wp2
      go_ret
      exact ⟨ret_bool HR.out.symm, HB5.out⟩
  · have HR : Hid (r = false) := by unfold Hid; rw [HREF.out]; simp [ha]
    have ha' : ((nc : Int) == 0) = false := by rw [beq_eq_false_iff_ne]; omega
    go_enter Tryz.func107, Tryz.ntmps107
    go_wp2
    go_quiet (fail)
    have HB5 : Hid (Below w.heap.size w ((w.alloc (.cells #[.string nm, .int .i64 1, .slice ai ni ci, .slice ac nc cc, .slice ap np cp] 47)).drewN nq)) := below_drewN HBX.out _
    obtain ⟨d0, d1, d2, d3, d4⟩ : _ ∧ _ ∧ _ ∧ _ ∧ _ := cells5 HX.out (below_drewN (Below.refl _ _) nq)
    clear HX HBX x1 x2 x3 x4 x0
    generalize (w.alloc (.cells #[.string nm, .int .i64 1, .slice ai ni ci, .slice ac nc cc, .slice ap np cp] 47)).drewN nq = w5 at *
    go_wp2
    go_ret
    exact ⟨ret_bool HR.out.symm, HB5.out⟩
set_option maxHeartbeats 4000000 in
theorem mayHold2 (S : Sty) (vi vc vp : Value) (w : World) (ht : Pr.Tabs w) (h : SetAt w S vi vc vp) (hs : Small S) (hk : S.kind = 2) :
    Calls Tryz.prog 107 #[setV S vi vc vp] w fun e w' => e = .returned (.bool (holdB S)) ∧ Below w.heap.size w w' := by
  have HREF : Hid (holdB S = (decide (S.items.length = 0) && decide (S.paths.length = 0) && decide (S.comms.length ≤ 64) && risB S.comms)) := by
    unfold Hid holdB
    rw [if_neg (by omega), if_pos hk]
  obtain ⟨nm, kind, items, comms, paths⟩ := S
  have KI : Hid (∀ X, Below w.heap.size w X → Calls Tryz.prog 148 #[vi, .func (.func 149) #[] #[]] X fun e w' => e = .returned (.bool (items.all okI)) ∧ Below X.heap.size X w') := fun X hX => allItem vi items okI X (h.i.below hX) hs.i fun k hk y Y hY hy => by
    rw [hy]; exact mayItem_any _ Y ((ht.below hX).below hY) (hs.l _ (List.getElem_mem _))
  have KC : Hid (∀ X, Below w.heap.size w X → Calls Tryz.prog 150 #[vc] X fun e w' => e = .returned (.bool (risB comms)) ∧ Below X.heap.size X w') := fun X hX => rising_any vc comms X (h.c.below hX) hs.c
  have KP : Hid (∀ X, Below w.heap.size w X → Calls Tryz.prog 151 #[vp, .func (.func 152) #[] #[]] X fun e w' => e = .returned (.bool (paths.all okP)) ∧ Below X.heap.size X w') := fun X hX => allPath vp paths okP X (h.p.below hX) hs.p fun k hk y Y hY hy => mayPattern_any y _ Y hy (by have := hs.q _ (List.getElem_mem hk); omega)
  obtain ⟨ai, ci, e1⟩ := h.i.len
  obtain ⟨ac, cc, e2⟩ := h.c.len
  obtain ⟨ap, cp, e3⟩ := h.p.len
  have li := hs.i
  have lc := hs.c
  have lp := hs.p
  simp only at e1 e2 e3 hk HREF li lc lp
  subst e1 e2 e3
  subst hk
  unfold setV
  dsimp only
  generalize holdB _ = r at *
  obtain ⟨hbx, hx⟩ := box5 w (.string nm) (.int .i64 2) (.slice ai items.length ci) (.slice ac comms.length cc) (.slice ap paths.length cp) 47 rfl
  have HX : Hid (_ ∧ _) := hx
  have HBX : Hid (Below _ _ _) := hbx
  obtain ⟨x0, x1, x2, x3, x4⟩ := hx
  clear h hs ht hbx
  generalize items.all okI = zi at *
  generalize risB comms = zc at *
  generalize paths.all okP = zp at *
  generalize items.length = ni at *
  generalize comms.length = nc at *
  generalize paths.length = np at *
  by_cases ha : ni = 0
  · by_cases hb : np = 0
    · by_cases hc : nc ≤ 64
      · have HR : Hid (r = zc) := by unfold Hid; rw [HREF.out]; simp [ha, hb, hc]
        subst ha hb
        go_enter Tryz.func107, Tryz.ntmps107
        go_wp2
        go_quiet (fail)
        have HB5 : Hid (Below w.heap.size w ((w.alloc (.cells #[.string nm, .int .i64 2, .slice ai 0 ci, .slice ac nc cc, .slice ap 0 cp] 47)).drewN nq)) := below_drewN HBX.out _
        obtain ⟨d0, d1, d2, d3, d4⟩ : _ ∧ _ ∧ _ ∧ _ ∧ _ := cells5 HX.out (below_drewN (Below.refl _ _) nq)
        clear HX HBX x1 x2 x3 x4 x0
        generalize (w.alloc (.cells #[.string nm, .int .i64 2, .slice ai 0 ci, .slice ac nc cc, .slice ap 0 cp] 47)).drewN nq = w5 at *
        go_wp2_with (go_at_call 150; refine Calls.mono (KC.out _ HB5.out) ?_; rintro e w2 ⟨rfl, hb2⟩)
        go_ret
        exact ⟨ret_bool HR.out.symm, HB5.out.trans (hb2.mono HB5.out.size)⟩
      · have HR : Hid (r = false) := by unfold Hid; rw [HREF.out]; simp [ha, hb, hc]
        have hc' : ¬ (nc : Int) ≤ 64 := by omega
        subst ha hb
        go_enter Tryz.func107, Tryz.ntmps107
        go_wp2
        go_quiet (fail)
        have HB5 : Hid (Below w.heap.size w ((w.alloc (.cells #[.string nm, .int .i64 2, .slice ai 0 ci, .slice ac nc cc, .slice ap 0 cp] 47)).drewN nq)) := below_drewN HBX.out _
        obtain ⟨d0, d1, d2, d3, d4⟩ : _ ∧ _ ∧ _ ∧ _ ∧ _ := cells5 HX.out (below_drewN (Below.refl _ _) nq)
        clear HX HBX x1 x2 x3 x4 x0
        generalize (w.alloc (.cells #[.string nm, .int .i64 2, .slice ai 0 ci, .slice ac nc cc, .slice ap 0 cp] 47)).drewN nq = w5 at *
        go_wp2
        go_ret
        exact ⟨ret_bool HR.out.symm, HB5.out⟩
    · have HR : Hid (r = false) := by unfold Hid; rw [HREF.out]; simp [ha, hb]
      have hb' : ((np : Int) == 0) = false := by rw [beq_eq_false_iff_ne]; omega
      subst ha
      go_enter Tryz.func107, Tryz.ntmps107
      go_wp2
      go_quiet (fail)
      have HB5 : Hid (Below w.heap.size w ((w.alloc (.cells #[.string nm, .int .i64 2, .slice ai 0 ci, .slice ac nc cc, .slice ap np cp] 47)).drewN nq)) := below_drewN HBX.out _
      obtain ⟨d0, d1, d2, d3, d4⟩ : _ ∧ _ ∧ _ ∧ _ ∧ _ := cells5 HX.out (below_drewN (Below.refl _ _) nq)
      clear HX HBX x1 x2 x3 x4 x0
      generalize (w.alloc (.cells #[.string nm, .int .i64 2, .slice ai 0 ci, .slice ac nc cc, .slice ap np cp] 47)).drewN nq = w5 at *
      go_wp2
      go_ret
      exact ⟨ret_bool HR.out.symm, HB5.out⟩
  · have HR : Hid (r = false) := by unfold Hid; rw [HREF.out]; simp [ha]
    have ha' : ((ni : Int) == 0) = false := by rw [beq_eq_false_iff_ne]; omega
    go_enter Tryz.func107, Tryz.ntmps107
    go_wp2
    go_quiet (fail)
    have HB5 : Hid (Below w.heap.size w ((w.alloc (.cells #[.string nm, .int .i64 2, .slice ai ni ci, .slice ac nc cc, .slice ap np cp] 47)).drewN nq)) := below_drewN HBX.out _
    obtain ⟨d0, d1, d2, d3, d4⟩ : _ ∧ _ ∧ _ ∧ _ ∧ _ := cells5 HX.out (below_drewN (Below.refl _ _) nq)
    clear HX HBX x1 x2 x3 x4 x0
    generalize (w.alloc (.cells #[.string nm, .int .i64 2, .slice ai ni ci, .slice ac nc cc, .slice ap np cp] 47)).drewN nq = w5 at *
    go_wp2
    go_ret
    exact ⟨ret_bool HR.out.symm, HB5.out⟩
set_option maxHeartbeats 4000000 in
theorem mayHold3 (S : Sty) (vi vc vp : Value) (w : World) (ht : Pr.Tabs w) (h : SetAt w S vi vc vp) (hs : Small S) (hk : S.kind = 3) :
    Calls Tryz.prog 107 #[setV S vi vc vp] w fun e w' => e = .returned (.bool (holdB S)) ∧ Below w.heap.size w w' := by
  have HREF : Hid (holdB S = (decide (S.items.length = 0) && decide (S.comms.length = 0) && decide (S.paths.length ≤ 64) && S.paths.all okP)) := by
    unfold Hid holdB
    rw [if_neg (by omega), if_neg (by omega), if_pos hk]
  obtain ⟨nm, kind, items, comms, paths⟩ := S
  have KI : Hid (∀ X, Below w.heap.size w X → Calls Tryz.prog 148 #[vi, .func (.func 149) #[] #[]] X fun e w' => e = .returned (.bool (items.all okI)) ∧ Below X.heap.size X w') := fun X hX => allItem vi items okI X (h.i.below hX) hs.i fun k hk y Y hY hy => by
    rw [hy]; exact mayItem_any _ Y ((ht.below hX).below hY) (hs.l _ (List.getElem_mem _))
  have KC : Hid (∀ X, Below w.heap.size w X → Calls Tryz.prog 150 #[vc] X fun e w' => e = .returned (.bool (risB comms)) ∧ Below X.heap.size X w') := fun X hX => rising_any vc comms X (h.c.below hX) hs.c
  have KP : Hid (∀ X, Below w.heap.size w X → Calls Tryz.prog 151 #[vp, .func (.func 152) #[] #[]] X fun e w' => e = .returned (.bool (paths.all okP)) ∧ Below X.heap.size X w') := fun X hX => allPath vp paths okP X (h.p.below hX) hs.p fun k hk y Y hY hy => mayPattern_any y _ Y hy (by have := hs.q _ (List.getElem_mem hk); omega)
  obtain ⟨ai, ci, e1⟩ := h.i.len
  obtain ⟨ac, cc, e2⟩ := h.c.len
  obtain ⟨ap, cp, e3⟩ := h.p.len
  have li := hs.i
  have lc := hs.c
  have lp := hs.p
  simp only at e1 e2 e3 hk HREF li lc lp
  subst e1 e2 e3
  subst hk
  unfold setV
  dsimp only
  generalize holdB _ = r at *
  obtain ⟨hbx, hx⟩ := box5 w (.string nm) (.int .i64 3) (.slice ai items.length ci) (.slice ac comms.length cc) (.slice ap paths.length cp) 47 rfl
  have HX : Hid (_ ∧ _) := hx
  have HBX : Hid (Below _ _ _) := hbx
  obtain ⟨x0, x1, x2, x3, x4⟩ := hx
  clear h hs ht hbx
  generalize items.all okI = zi at *
  generalize risB comms = zc at *
  generalize paths.all okP = zp at *
  generalize items.length = ni at *
  generalize comms.length = nc at *
  generalize paths.length = np at *
  by_cases ha : ni = 0
  · by_cases hb : nc = 0
    · by_cases hc : np ≤ 64
      · have HR : Hid (r = zp) := by unfold Hid; rw [HREF.out]; simp [ha, hb, hc]
        subst ha hb
        go_enter Tryz.func107, Tryz.ntmps107
        go_wp2
        go_quiet (fail)
        have HB5 : Hid (Below w.heap.size w ((w.alloc (.cells #[.string nm, .int .i64 3, .slice ai 0 ci, .slice ac 0 cc, .slice ap np cp] 47)).drewN nq)) := below_drewN HBX.out _
        obtain ⟨d0, d1, d2, d3, d4⟩ : _ ∧ _ ∧ _ ∧ _ ∧ _ := cells5 HX.out (below_drewN (Below.refl _ _) nq)
        clear HX HBX x1 x2 x3 x4 x0
        generalize (w.alloc (.cells #[.string nm, .int .i64 3, .slice ai 0 ci, .slice ac 0 cc, .slice ap np cp] 47)).drewN nq = w5 at *
        go_wp2_with (go_at_call 151; refine Calls.mono (KP.out _ HB5.out) ?_; rintro e w2 ⟨rfl, hb2⟩)
        go_ret
        exact ⟨ret_bool HR.out.symm, HB5.out.trans (hb2.mono HB5.out.size)⟩
      · have HR : Hid (r = false) := by unfold Hid; rw [HREF.out]; simp [ha, hb, hc]
        have hc' : ¬ (np : Int) ≤ 64 := by omega
        subst ha hb
        go_enter Tryz.func107, Tryz.ntmps107
        go_wp2
        go_quiet (fail)
        have HB5 : Hid (Below w.heap.size w ((w.alloc (.cells #[.string nm, .int .i64 3, .slice ai 0 ci, .slice ac 0 cc, .slice ap np cp] 47)).drewN nq)) := below_drewN HBX.out _
        obtain ⟨d0, d1, d2, d3, d4⟩ : _ ∧ _ ∧ _ ∧ _ ∧ _ := cells5 HX.out (below_drewN (Below.refl _ _) nq)
        clear HX HBX x1 x2 x3 x4 x0
        generalize (w.alloc (.cells #[.string nm, .int .i64 3, .slice ai 0 ci, .slice ac 0 cc, .slice ap np cp] 47)).drewN nq = w5 at *
        go_wp2
        go_ret
        exact ⟨ret_bool HR.out.symm, HB5.out⟩
    · have HR : Hid (r = false) := by unfold Hid; rw [HREF.out]; simp [ha, hb]
      have hb' : ((nc : Int) == 0) = false := by rw [beq_eq_false_iff_ne]; omega
      subst ha
      go_enter Tryz.func107, Tryz.ntmps107
      go_wp2
      go_quiet (fail)
      have HB5 : Hid (Below w.heap.size w ((w.alloc (.cells #[.string nm, .int .i64 3, .slice ai 0 ci, .slice ac nc cc, .slice ap np cp] 47)).drewN nq)) := below_drewN HBX.out _
      obtain ⟨d0, d1, d2, d3, d4⟩ : _ ∧ _ ∧ _ ∧ _ ∧ _ := cells5 HX.out (below_drewN (Below.refl _ _) nq)
      clear HX HBX x1 x2 x3 x4 x0
      generalize (w.alloc (.cells #[.string nm, .int .i64 3, .slice ai 0 ci, .slice ac nc cc, .slice ap np cp] 47)).drewN nq = w5 at *
      go_wp2
      go_ret
      exact ⟨ret_bool HR.out.symm, HB5.out⟩
  · have HR : Hid (r = false) := by unfold Hid; rw [HREF.out]; simp [ha]
    have ha' : ((ni : Int) == 0) = false := by rw [beq_eq_false_iff_ne]; omega
    go_enter Tryz.func107, Tryz.ntmps107
    go_wp2
    go_quiet (fail)
    have HB5 : Hid (Below w.heap.size w ((w.alloc (.cells #[.string nm, .int .i64 3, .slice ai ni ci, .slice ac nc cc, .slice ap np cp] 47)).drewN nq)) := below_drewN HBX.out _
    obtain ⟨d0, d1, d2, d3, d4⟩ : _ ∧ _ ∧ _ ∧ _ ∧ _ := cells5 HX.out (below_drewN (Below.refl _ _) nq)
    clear HX HBX x1 x2 x3 x4 x0
    generalize (w.alloc (.cells #[.string nm, .int .i64 3, .slice ai ni ci, .slice ac nc cc, .slice ap np cp] 47)).drewN nq = w5 at *
    go_wp2
    go_ret
    exact ⟨ret_bool HR.out.symm, HB5.out⟩
set_option maxHeartbeats 4000000 in
theorem mayHold0 (S : Sty) (vi vc vp : Value) (w : World) (ht : Pr.Tabs w) (h : SetAt w S vi vc vp) (hs : Small S) (hk : ¬ S.kind = 1 ∧ ¬ S.kind = 2 ∧ ¬ S.kind = 3) :
    Calls Tryz.prog 107 #[setV S vi vc vp] w fun e w' => e = .returned (.bool (holdB S)) ∧ Below w.heap.size w w' := by
  have HREF : Hid (holdB S = false) := by
    unfold Hid holdB
    rw [if_neg hk.1, if_neg hk.2.1, if_neg hk.2.2]
  obtain ⟨nm, kind, items, comms, paths⟩ := S
  have KI : Hid (∀ X, Below w.heap.size w X → Calls Tryz.prog 148 #[vi, .func (.func 149) #[] #[]] X fun e w' => e = .returned (.bool (items.all okI)) ∧ Below X.heap.size X w') := fun X hX => allItem vi items okI X (h.i.below hX) hs.i fun k hk y Y hY hy => by
    rw [hy]; exact mayItem_any _ Y ((ht.below hX).below hY) (hs.l _ (List.getElem_mem _))
  have KC : Hid (∀ X, Below w.heap.size w X → Calls Tryz.prog 150 #[vc] X fun e w' => e = .returned (.bool (risB comms)) ∧ Below X.heap.size X w') := fun X hX => rising_any vc comms X (h.c.below hX) hs.c
  have KP : Hid (∀ X, Below w.heap.size w X → Calls Tryz.prog 151 #[vp, .func (.func 152) #[] #[]] X fun e w' => e = .returned (.bool (paths.all okP)) ∧ Below X.heap.size X w') := fun X hX => allPath vp paths okP X (h.p.below hX) hs.p fun k hk y Y hY hy => mayPattern_any y _ Y hy (by have := hs.q _ (List.getElem_mem hk); omega)
  obtain ⟨ai, ci, e1⟩ := h.i.len
  obtain ⟨ac, cc, e2⟩ := h.c.len
  obtain ⟨ap, cp, e3⟩ := h.p.len
  have li := hs.i
  have lc := hs.c
  have lp := hs.p
  simp only at e1 e2 e3 hk HREF li lc lp
  subst e1 e2 e3
  obtain ⟨k1, k2, k3⟩ := hk
  unfold setV
  dsimp only
  generalize holdB _ = r at *
  obtain ⟨hbx, hx⟩ := box5 w (.string nm) (.int .i64 kind) (.slice ai items.length ci) (.slice ac comms.length cc) (.slice ap paths.length cp) 47 rfl
  have HX : Hid (_ ∧ _) := hx
  have HBX : Hid (Below _ _ _) := hbx
  obtain ⟨x0, x1, x2, x3, x4⟩ := hx
  clear h hs ht hbx
  generalize items.all okI = zi at *
  generalize risB comms = zc at *
  generalize paths.all okP = zp at *
  generalize items.length = ni at *
  generalize comms.length = nc at *
  generalize paths.length = np at *
  go_enter Tryz.func107, Tryz.ntmps107
  go_wp2
  go_quiet (fail)
  have HB5 : Hid (Below w.heap.size w ((w.alloc (.cells #[.string nm, .int .i64 kind, .slice ai ni ci, .slice ac nc cc, .slice ap np cp] 47)).drewN nq)) := below_drewN HBX.out _
  obtain ⟨d0, d1, d2, d3, d4⟩ : _ ∧ _ ∧ _ ∧ _ ∧ _ := cells5 HX.out (below_drewN (Below.refl _ _) nq)
  clear HX HBX x1 x2 x3 x4 x0
  generalize (w.alloc (.cells #[.string nm, .int .i64 kind, .slice ai ni ci, .slice ac nc cc, .slice ap np cp] 47)).drewN nq = w5 at *
  go_wp2
  go_ret
  exact ⟨ret_bool HREF.out.symm, HB5.out⟩
end Go.Proofs.YthaebbmekonacaaGreatDoor
