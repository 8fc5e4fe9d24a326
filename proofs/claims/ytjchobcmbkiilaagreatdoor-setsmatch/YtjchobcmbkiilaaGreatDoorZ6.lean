/-
  Check, isOf, Prefix.
-/
import Derived.Test.YtjchobcmbkiilaaGreatDoorZ5
set_option linter.unusedVariables false
set_option linter.unusedSimpArgs false
set_option maxRecDepth 100000
namespace Go.Proofs.YtjchobcmbkiilaaGreatDoor
open Go.RowKit
theorem mayHold_any (S : Sty) (vi vc vp : Value) (w : World) (ht : Pr.Tabs w) (h : SetAt w S vi vc vp) (hs : Small S) :
    Calls Tryz.prog 34 #[setV S vi vc vp] w fun e w' => e = .returned (.bool (holdB S)) ∧ Below w.heap.size w w' := by
  by_cases h1 : S.kind = 1
  · exact mayHold1 S vi vc vp w ht h hs h1
  · by_cases h2 : S.kind = 2
    · exact mayHold2 S vi vc vp w ht h hs h2
    · by_cases h3 : S.kind = 3
      · exact mayHold3 S vi vc vp w ht h hs h3
      · exact mayHold0 S vi vc vp w ht h hs ⟨h1, h2, h3⟩
/-- Three lists are slices. -/
theorem SetAt.len {w : World} {S : Sty} {vi vc vp : Value} (h : SetAt w S vi vc vp) : (∃ a n c, vi = .slice a n c) ∧ (∃ a n c, vc = .slice a n c) ∧ (∃ a n c, vp = .slice a n c) := by
  obtain ⟨a1, c1, e1⟩ := h.i.len
  obtain ⟨a2, c2, e2⟩ := h.c.len
  obtain ⟨a3, c3, e3⟩ := h.p.len
  exact ⟨⟨_, _, _, e1⟩, ⟨_, _, _, e2⟩, ⟨_, _, _, e3⟩⟩
def chS (S : Sty) : Int := if okS S then 0 else 2
set_option maxHeartbeats 2000000 in
theorem checkS_any (S : Sty) (vi vc vp : Value) (w : World) (ht : Pr.Tabs w) (h : SetAt w S vi vc vp) (hs : Small S) :
    Calls Tryz.prog 9 #[setV S vi vc vp] w fun e w' => e = .returned (.int .i64 (chS S)) ∧ Below w.heap.size w w' := by
  have HREF : Hid (chS S = if (nameB S.nm && holdB S) then 0 else 2) := rfl
  have KN : Hid (∀ X, Calls Tryz.prog 33 #[.string S.nm] X fun e w' => e = .returned (.bool (nameB S.nm)) ∧ Below X.heap.size X w') := fun X => isName_any S.nm X hs.n
  have KH : Hid (∀ X, Below w.heap.size w X → Calls Tryz.prog 34 #[setV S vi vc vp] X fun e w' => e = .returned (.bool (holdB S)) ∧ Below X.heap.size X w') := fun X hX => mayHold_any S vi vc vp X (ht.below hX) (h.below hX) hs
  obtain ⟨⟨ai, ni, ci, rfl⟩, ⟨ac, nc, cc, rfl⟩, ⟨ap, np, cp, rfl⟩⟩ := h.len
  generalize chS S = r at *
  generalize nameB S.nm = zn at *
  generalize holdB S = zh at *
  unfold setV at KH ⊢
  generalize S.nm = nm at *
  generalize S.kind = kd at *
  obtain ⟨hbx, hx⟩ := box5 w (.string nm) (.int .i64 kd) (.slice ai ni ci) (.slice ac nc cc) (.slice ap np cp) 26 rfl
  have HX : Hid (_ ∧ _) := hx
  have HBX : Hid (Below _ _ _) := hbx
  obtain ⟨x0, x1, x2, x3, x4⟩ := hx
  clear h hs ht hbx
  cases zn with
  | false =>
    go_enter Tryz.func9, Tryz.ntmps9
    go_wp2_with (go_at_call 33; refine Calls.mono (KN.out _) ?_; rintro e w2 ⟨rfl, hb2⟩)
    go_ret
    exact ⟨ret_int HREF.out.symm, HBX.out.trans (hb2.mono HBX.out.size)⟩
  | true =>
    cases zh with
    | false =>
      go_enter Tryz.func9, Tryz.ntmps9
      go_wp2_with (first | (go_at_call 33; refine Calls.mono (KN.out _) ?_; rintro e w2 ⟨rfl, hb2⟩; obtain ⟨d0, d1, d2, d3, d4⟩ : _ ∧ _ ∧ _ ∧ _ ∧ _ := cells5 HX.out hb2; have HB2 : Hid (Below _ _ _) := HBX.out.trans (hb2.mono HBX.out.size)) | (go_at_call 34; refine Calls.mono (KH.out _ HB2.out) ?_; rintro e w3 ⟨rfl, hb3⟩))
      go_ret
      exact ⟨ret_int HREF.out.symm, HB2.out.trans (hb3.mono HB2.out.size)⟩
    | true =>
      go_enter Tryz.func9, Tryz.ntmps9
      go_wp2_with (first | (go_at_call 33; refine Calls.mono (KN.out _) ?_; rintro e w2 ⟨rfl, hb2⟩; obtain ⟨d0, d1, d2, d3, d4⟩ : _ ∧ _ ∧ _ ∧ _ ∧ _ := cells5 HX.out hb2; have HB2 : Hid (Below _ _ _) := HBX.out.trans (hb2.mono HBX.out.size)) | (go_at_call 34; refine Calls.mono (KH.out _ HB2.out) ?_; rintro e w3 ⟨rfl, hb3⟩))
      go_ret
      exact ⟨ret_int HREF.out.symm, HB2.out.trans (hb3.mono HB2.out.size)⟩
/-- Is it of that kind, and may it be? -/
def isK (S : Sty) (k : Int) : Bool := decide (S.kind = k) && okS S
set_option maxHeartbeats 2000000 in
theorem isOf_any (S : Sty) (vi vc vp : Value) (k : Int) (w : World) (ht : Pr.Tabs w) (h : SetAt w S vi vc vp) (hs : Small S) :
    Calls Tryz.prog 36 #[setV S vi vc vp, .int .i64 k] w fun e w' => e = .returned (.bool (isK S k)) ∧ Below w.heap.size w w' := by
  have HREF : Hid (isK S k = (decide (S.kind = k) && okS S)) := rfl
  have HCH : Hid (chS S = if okS S then 0 else 2) := rfl
  have KH : Hid (∀ X, Below w.heap.size w X → Calls Tryz.prog 9 #[setV S vi vc vp] X fun e w' => e = .returned (.int .i64 (chS S)) ∧ Below X.heap.size X w') := fun X hX => checkS_any S vi vc vp X (ht.below hX) (h.below hX) hs
  obtain ⟨⟨ai, ni, ci, rfl⟩, ⟨ac, nc, cc, rfl⟩, ⟨ap, np, cp, rfl⟩⟩ := h.len
  generalize isK S k = r at *
  rw [HCH.out] at KH
  clear HCH
  generalize okS S = zk at *
  unfold setV at KH ⊢
  generalize S.nm = nm at *
  generalize S.kind = kd at *
  obtain ⟨hbx, hx⟩ := box5 w (.string nm) (.int .i64 kd) (.slice ai ni ci) (.slice ac nc cc) (.slice ap np cp) 26 rfl
  have HX : Hid (_ ∧ _) := hx
  have HBX : Hid (Below _ _ _) := hbx
  obtain ⟨x0, x1, x2, x3, x4⟩ := hx
  clear h hs ht hbx
  by_cases hk : kd = k
  · subst hk
    rw [decide_eq_true rfl, Bool.true_and] at HREF
    cases zk with
    | true =>
      rw [if_pos rfl] at KH
      go_enter Tryz.func36, Tryz.ntmps36
      go_wp2_with (go_at_call 9; refine Calls.mono (KH.out _ HBX.out) ?_; rintro e w3 ⟨rfl, hb3⟩)
      go_ret
      exact ⟨ret_bool HREF.out.symm, HBX.out.trans (hb3.mono HBX.out.size)⟩
    | false =>
      rw [if_neg (by simp)] at KH
      go_enter Tryz.func36, Tryz.ntmps36
      go_wp2_with (go_at_call 9; refine Calls.mono (KH.out _ HBX.out) ?_; rintro e w3 ⟨rfl, hb3⟩)
      go_ret
      exact ⟨ret_bool HREF.out.symm, HBX.out.trans (hb3.mono HBX.out.size)⟩
  · rw [decide_eq_false hk, Bool.false_and] at HREF
    have hk' : (kd == k) = false := by rw [beq_eq_false_iff_ne]; exact hk
    go_enter Tryz.func36, Tryz.ntmps36
    go_wp2
    go_ret
    exact ⟨ret_bool HREF.out.symm, HBX.out⟩
/-- An item has a prefix. -/
def hasI (x : Itm) (f r : Int) (s : ByteArray) (l : Int) : Bool := decide (x.lo ≤ l) && decide (l ≤ x.hi) && Pr.covB x.f x.r x.s x.l f r s l
theorem box6 (w : World) (a b c d e f : Value) (t : TypeId) {W : World} (hW : W = w.alloc (.cells #[a, b, c, d, e, f] t)) :
    Below w.heap.size w W ∧ W.cell? ⟨w.heap.size, 0, none⟩ = some a ∧ W.cell? ⟨w.heap.size, 1, none⟩ = some b ∧ W.cell? ⟨w.heap.size, 2, none⟩ = some c ∧ W.cell? ⟨w.heap.size, 3, none⟩ = some d ∧ W.cell? ⟨w.heap.size, 4, none⟩ = some e ∧ W.cell? ⟨w.heap.size, 5, none⟩ = some f := by
  subst hW
  refine ⟨below_box _ _, ?_, ?_, ?_, ?_, ?_, ?_⟩ <;> (rw [World.cell?_alloc_new]; rfl)
theorem box4 (w : World) (a b c d : Value) (t : TypeId) {W : World} (hW : W = w.alloc (.cells #[a, b, c, d] t)) :
    Below w.heap.size w W ∧ W.cell? ⟨w.heap.size, 0, none⟩ = some a ∧ W.cell? ⟨w.heap.size, 1, none⟩ = some b ∧ W.cell? ⟨w.heap.size, 2, none⟩ = some c ∧ W.cell? ⟨w.heap.size, 3, none⟩ = some d := by
  subst hW
  refine ⟨below_box _ _, ?_, ?_, ?_, ?_⟩ <;> (rw [World.cell?_alloc_new]; rfl)
theorem cells4 {w w' : World} {b : Nat} {x0 x1 x2 x3 : Value} (h : w.cell? ⟨b, 0, none⟩ = some x0 ∧ w.cell? ⟨b, 1, none⟩ = some x1 ∧ w.cell? ⟨b, 2, none⟩ = some x2 ∧ w.cell? ⟨b, 3, none⟩ = some x3) (hb : Below w.heap.size w w') :
    w'.cell? ⟨b, 0, none⟩ = some x0 ∧ w'.cell? ⟨b, 1, none⟩ = some x1 ∧ w'.cell? ⟨b, 2, none⟩ = some x2 ∧ w'.cell? ⟨b, 3, none⟩ = some x3 :=
  ⟨below_cell hb h.1, below_cell hb h.2.1, below_cell hb h.2.2.1, below_cell hb h.2.2.2⟩
set_option maxHeartbeats 2000000 in
theorem covItem_any (x : Itm) (f r : Int) (s : ByteArray) (l : Int) (b : Nat) (w : World) (ht : Pr.Tabs w) (h0 : w.cell? ⟨b, 0, none⟩ = some (.int .i64 f)) (h1 : w.cell? ⟨b, 1, none⟩ = some (.int .u64 r)) (h2 : w.cell? ⟨b, 2, none⟩ = some (.string s)) (h3 : w.cell? ⟨b, 3, none⟩ = some (.int .i64 l)) :
    Calls Tryz.prog 38 #[itV x, .pointer (some ⟨b, 0, none⟩)] w fun e w' => e = .returned (.bool (hasI x f r s l)) ∧ Below w.heap.size w w' := by
  have HREF : Hid (hasI x f r s l = (decide (x.lo ≤ l) && decide (l ≤ x.hi) && Pr.covB x.f x.r x.s x.l f r s l)) := rfl
  have KC : Hid (∀ X, Below w.heap.size w X → Calls Tryz.prog 39 #[.agg #[.int .i64 x.f, .int .u64 x.r, .string x.s, .int .i64 x.l], .agg #[.int .i64 f, .int .u64 r, .string s, .int .i64 l]] X fun e w' => e = .returned (.bool (Pr.covB x.f x.r x.s x.l f r s l)) ∧ Below X.heap.size X w') := fun X hX => Pr.covers_any x.f x.r x.s x.l f r s l X (ht.below hX).sizes (ht.below hX).rds
  generalize hasI x f r s l = z at *
  generalize Pr.covB x.f x.r x.s x.l f r s l = zc at *
  unfold itV
  obtain ⟨xf, xr, xs, xl, lo, hi⟩ := x
  dsimp only at KC HREF ⊢
  obtain ⟨hbx, y0, y1, y2, y3, y4, y5⟩ := box6 w (.int .i64 xf) (.int .u64 xr) (.string xs) (.int .i64 xl) (.int .i64 lo) (.int .i64 hi) 49 rfl
  have g0 := below_cell hbx h0
  have g1 := below_cell hbx h1
  have g2 := below_cell hbx h2
  have g3 := below_cell hbx h3
  have HBX : Hid (Below _ _ _) := hbx
  clear hbx ht
  by_cases ha : lo ≤ l
  · by_cases hb : l ≤ hi
    · rw [decide_eq_true ha, decide_eq_true hb] at HREF
      go_enter Tryz.func38, Tryz.ntmps38
      go_wp2_with (go_at_call 39; refine Calls.mono (KC.out _ HBX.out) ?_; rintro e w3 ⟨rfl, hb3⟩)
      go_ret
      exact ⟨ret_bool (by rw [HREF.out]; simp), HBX.out.trans (hb3.mono HBX.out.size)⟩
    · rw [decide_eq_true ha, decide_eq_false hb] at HREF
      go_enter Tryz.func38, Tryz.ntmps38
      go_wp2
      go_ret
      exact ⟨ret_bool HREF.out.symm, HBX.out⟩
  · rw [decide_eq_false ha] at HREF
    go_enter Tryz.func38, Tryz.ntmps38
    go_wp2
    go_ret
    exact ⟨ret_bool (by rw [HREF.out]; rfl), HBX.out⟩
/-- A set has a prefix. -/
def preS (S : Sty) (f r : Int) (s : ByteArray) (l : Int) : Bool := isK S 1 && S.items.any fun x => hasI x f r s l
set_option maxHeartbeats 2000000 in
theorem prefix_any (S : Sty) (vi vc vp : Value) (f r : Int) (s : ByteArray) (l : Int) (w : World) (ht : Pr.Tabs w) (h : SetAt w S vi vc vp) (hs : Small S) :
    Calls Tryz.prog 11 #[setV S vi vc vp, .agg #[.int .i64 f, .int .u64 r, .string s, .int .i64 l]] w fun e w' => e = .returned (.bool (preS S f r s l)) ∧ Below w.heap.size w w' := by
  have HREF : Hid (preS S f r s l = (isK S 1 && S.items.any fun x => hasI x f r s l)) := rfl
  have KH : Hid (∀ X, Below w.heap.size w X → Calls Tryz.prog 36 #[setV S vi vc vp, .int .i64 1] X fun e w' => e = .returned (.bool (isK S 1)) ∧ Below X.heap.size X w') := fun X hX => isOf_any S vi vc vp 1 X (ht.below hX) (h.below hX) hs
  have KC : Hid (∀ X b, Below w.heap.size w X → X.cell? ⟨b, 0, none⟩ = some (.int .i64 f) ∧ X.cell? ⟨b, 1, none⟩ = some (.int .u64 r) ∧ X.cell? ⟨b, 2, none⟩ = some (.string s) ∧ X.cell? ⟨b, 3, none⟩ = some (.int .i64 l) → Calls Tryz.prog 37 #[vi, .func (.func 38) #[] #[.pointer (some ⟨b, 0, none⟩)]] X fun e w' => e = .returned (.bool (S.items.any fun x => hasI x f r s l)) ∧ Below X.heap.size X w') := fun X b hX hc =>
    containsCov vi S.items _ (fun x => hasI x f r s l) X (h.i.below hX) hs.i fun k hk y Y hY hy => by
      rw [hy]; exact covItem_any _ f r s l b Y ((ht.below hX).below hY) (below_cell hY hc.1) (below_cell hY hc.2.1) (below_cell hY hc.2.2.1) (below_cell hY hc.2.2.2)
  obtain ⟨⟨ai, ni, ci, rfl⟩, ⟨ac, nc, cc, rfl⟩, ⟨ap, np, cp, rfl⟩⟩ := h.len
  generalize preS S f r s l = z at *
  generalize (S.items.any fun x => hasI x f r s l) = za at *
  generalize isK S 1 = zk at *
  unfold setV at KH ⊢
  generalize S.nm = nm at *
  generalize S.kind = kd at *
  obtain ⟨hbx, hx⟩ := box5 w (.string nm) (.int .i64 kd) (.slice ai ni ci) (.slice ac nc cc) (.slice ap np cp) 26 rfl
  obtain ⟨hby, hy⟩ := box4 (w.alloc (.cells #[.string nm, .int .i64 kd, .slice ai ni ci, .slice ac nc cc, .slice ap np cp] 26)) (.int .i64 f) (.int .u64 r) (.string s) (.int .i64 l) 29 rfl
  have hsz : (w.alloc (.cells #[.string nm, .int .i64 kd, .slice ai ni ci, .slice ac nc cc, .slice ap np cp] 26)).heap.size = w.heap.size + 1 := by simp
  rw [hsz] at hy
  have HX : Hid (_ ∧ _) := cells5 hx hby
  have HY : Hid (_ ∧ _) := hy
  have HBX : Hid (Below w.heap.size w _) := hbx.trans (hby.mono hbx.size)
  obtain ⟨x0, x1, x2, x3, x4⟩ := HX.out
  clear h hs ht hbx hby hx hy hsz
  cases zk with
  | false =>
    go_enter Tryz.func11, Tryz.ntmps11
    go_wp2_with (go_at_call 36; refine Calls.mono (KH.out _ HBX.out) ?_; rintro e w2 ⟨rfl, hb2⟩)
    go_ret
    exact ⟨ret_bool HREF.out.symm, HBX.out.trans (hb2.mono HBX.out.size)⟩
  | true =>
    rw [Bool.true_and] at HREF
    go_enter Tryz.func11, Tryz.ntmps11
    go_wp2_with (first | (go_at_call 36; refine Calls.mono (KH.out _ HBX.out) ?_; rintro e w2 ⟨rfl, hb2⟩; obtain ⟨d0, d1, d2, d3, d4⟩ : _ ∧ _ ∧ _ ∧ _ ∧ _ := cells5 HX.out hb2; have HB2 : Hid (Below _ _ _) := HBX.out.trans (hb2.mono HBX.out.size); have HY2 : Hid (_ ∧ _) := cells4 HY.out hb2) | (go_at_call 37; refine Calls.mono (KC.out _ _ HB2.out HY2.out) ?_; rintro e w3 ⟨rfl, hb3⟩))
    go_ret
    exact ⟨ret_bool HREF.out.symm, HB2.out.trans (hb3.mono HB2.out.size)⟩
end Go.Proofs.YtjchobcmbkiilaaGreatDoor
