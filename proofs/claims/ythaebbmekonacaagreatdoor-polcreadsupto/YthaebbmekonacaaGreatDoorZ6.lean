/-
  Check, isOf, Prefix.
-/
import Derived.Test.YthaebbmekonacaaGreatDoorZ5
set_option linter.unusedVariables false
set_option linter.unusedSimpArgs false
set_option maxRecDepth 100000
namespace Go.Proofs.YthaebbmekonacaaGreatDoor
open Go.RowKit
theorem mayHold_any (S : Sty) (vi vc vp : Value) (w : World) (ht : Pr.Tabs w) (h : SetAt w S vi vc vp) (hs : Small S) :
    Calls Tryz.prog 107 #[setV S vi vc vp] w fun e w' => e = .returned (.bool (holdB S)) ∧ Below w.heap.size w w' := by
  by_cases h1 : S.kind = 1
  · exact mayHold1 S vi vc vp w ht h hs h1
  · by_cases h2 : S.kind = 2
    · exact mayHold2 S vi vc vp w ht h hs h2
    · by_cases h3 : S.kind = 3
      · exact mayHold3 S vi vc vp w ht h hs h3
      · exact mayHold0 S vi vc vp w ht h hs ⟨h1, h2, h3⟩
/-- Three lists are slices. -/
theorem SetAt.len {w : World} {S : Sty} {vi vc vp : Value} (h : SetAt w S vi vc vp) : (∃ a n c, vi = .slice a n c) ∧ (∃ a n c, vc = .slice a n c) ∧ (∃ a n c, vp = .slice a n c) := by
  obtain ⟨a1, c1, e1⟩ := h.i.len
  obtain ⟨a2, c2, e2⟩ := h.c.len
  obtain ⟨a3, c3, e3⟩ := h.p.len
  exact ⟨⟨_, _, _, e1⟩, ⟨_, _, _, e2⟩, ⟨_, _, _, e3⟩⟩
def chS (S : Sty) : Int := if okS S then 0 else 2
set_option maxHeartbeats 2000000 in
theorem checkS_any (S : Sty) (vi vc vp : Value) (w : World) (ht : Pr.Tabs w) (h : SetAt w S vi vc vp) (hs : Small S) :
    Calls Tryz.prog 64 #[setV S vi vc vp] w fun e w' => e = .returned (.int .i64 (chS S)) ∧ Below w.heap.size w w' := by
  have HREF : Hid (chS S = if (nameB S.nm && holdB S) then 0 else 2) := rfl
  have KN : Hid (∀ X, Calls Tryz.prog 106 #[.string S.nm] X fun e w' => e = .returned (.bool (nameB S.nm)) ∧ Below X.heap.size X w') := fun X => isName_any S.nm X hs.n
  have KH : Hid (∀ X, Below w.heap.size w X → Calls Tryz.prog 107 #[setV S vi vc vp] X fun e w' => e = .returned (.bool (holdB S)) ∧ Below X.heap.size X w') := fun X hX => mayHold_any S vi vc vp X (ht.below hX) (h.below hX) hs
  obtain ⟨⟨ai, ni, ci, rfl⟩, ⟨ac, nc, cc, rfl⟩, ⟨ap, np, cp, rfl⟩⟩ := h.len
  generalize chS S = r at *
  generalize nameB S.nm = zn at *
  generalize holdB S = zh at *
  unfold setV at KH ⊢
  generalize S.nm = nm at *
  generalize S.kind = kd at *
  obtain ⟨hbx, hx⟩ := box5 w (.string nm) (.int .i64 kd) (.slice ai ni ci) (.slice ac nc cc) (.slice ap np cp) 47 rfl
  have HX : Hid (_ ∧ _) := hx
  have HBX : Hid (Below _ _ _) := hbx
  obtain ⟨x0, x1, x2, x3, x4⟩ := hx
  clear h hs ht hbx
  cases zn with
  | false =>
    go_enter Tryz.func64, Tryz.ntmps64
    go_wp2_with (go_at_call 106; refine Calls.mono (KN.out _) ?_; rintro e w2 ⟨rfl, hb2⟩)
    go_ret
    exact ⟨ret_int HREF.out.symm, HBX.out.trans (hb2.mono HBX.out.size)⟩
  | true =>
    cases zh with
    | false =>
      go_enter Tryz.func64, Tryz.ntmps64
      go_wp2_with (first | (go_at_call 106; refine Calls.mono (KN.out _) ?_; rintro e w2 ⟨rfl, hb2⟩; obtain ⟨d0, d1, d2, d3, d4⟩ : _ ∧ _ ∧ _ ∧ _ ∧ _ := cells5 HX.out hb2; have HB2 : Hid (Below _ _ _) := HBX.out.trans (hb2.mono HBX.out.size)) | (go_at_call 107; refine Calls.mono (KH.out _ HB2.out) ?_; rintro e w3 ⟨rfl, hb3⟩))
      go_ret
      exact ⟨ret_int HREF.out.symm, HB2.out.trans (hb3.mono HB2.out.size)⟩
    | true =>
      go_enter Tryz.func64, Tryz.ntmps64
      go_wp2_with (first | (go_at_call 106; refine Calls.mono (KN.out _) ?_; rintro e w2 ⟨rfl, hb2⟩; obtain ⟨d0, d1, d2, d3, d4⟩ : _ ∧ _ ∧ _ ∧ _ ∧ _ := cells5 HX.out hb2; have HB2 : Hid (Below _ _ _) := HBX.out.trans (hb2.mono HBX.out.size)) | (go_at_call 107; refine Calls.mono (KH.out _ HB2.out) ?_; rintro e w3 ⟨rfl, hb3⟩))
      go_ret
      exact ⟨ret_int HREF.out.symm, HB2.out.trans (hb3.mono HB2.out.size)⟩
theorem cells4 {w w' : World} {b : Nat} {x0 x1 x2 x3 : Value} (h : w.cell? ⟨b, 0, none⟩ = some x0 ∧ w.cell? ⟨b, 1, none⟩ = some x1 ∧ w.cell? ⟨b, 2, none⟩ = some x2 ∧ w.cell? ⟨b, 3, none⟩ = some x3) (hb : Below w.heap.size w w') :
    w'.cell? ⟨b, 0, none⟩ = some x0 ∧ w'.cell? ⟨b, 1, none⟩ = some x1 ∧ w'.cell? ⟨b, 2, none⟩ = some x2 ∧ w'.cell? ⟨b, 3, none⟩ = some x3 :=
  ⟨below_cell hb h.1, below_cell hb h.2.1, below_cell hb h.2.2.1, below_cell hb h.2.2.2⟩
end Go.Proofs.YthaebbmekonacaaGreatDoor
