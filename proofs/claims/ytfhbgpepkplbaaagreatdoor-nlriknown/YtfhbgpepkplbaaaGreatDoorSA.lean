/-
  slices.Compact of told prefixes.
-/
import Derived.Test.YtfhbgpepkplbaaaGreatDoorH1
import Derived.Sort.Grow
import Derived.Test.YtfhbgpepkplbaaaGreatDoorH5
import Derived.Sort.Walk0
import Derived.Shelf.SlSortCmp.Insertion
import Derived.Test.YtfhbgpepkplbaaaGreatDoorH8
import Derived.Test.YtfhbgpepkplbaaaGreatDoorShelfS
import Derived.Deep.MidRow
import Derived.Laws.StructEq
set_option linter.unusedSimpArgs false
namespace Go.Proofs.YtfhbgpepkplbaaaGreatDoor
open Go.RowKit
theorem below_drewN' {B : Nat} {a w : World} (h : Below B a w) (n : Nat) : Below B a (w.drewN n) := ⟨h.os, h.tape, h.output, h.size, h.block⟩
/-- A world that has only grown: blocks were laid, orders drawn. -/
structure Grw (w w' : World) : Prop where
  bel : Below w.heap.size w w'
  drw : w.drawn ≤ w'.drawn
theorem Grw.refl (w : World) : Grw w w := ⟨Below.refl _ _, Nat.le_refl _⟩
theorem Grw.trans {a b c : World} (h : Grw a b) (k : Grw b c) : Grw a c := ⟨h.bel.trans (k.bel.mono h.bel.size), Nat.le_trans h.drw k.drw⟩
theorem Grw.alloc {a b : World} (h : Grw a b) (o : Obj) : Grw a (b.alloc o) := ⟨h.bel.alloc h.bel.size o, h.drw⟩
theorem Grw.drew {a b : World} (h : Grw a b) : Grw a b.drew := ⟨h.bel.drew, Nat.le_trans h.drw (Nat.le_succ _)⟩
theorem Grw.drewN {a b : World} (h : Grw a b) (n : Nat) : Grw a (b.drewN n) := ⟨below_drewN' h.bel n, Nat.le_trans h.drw (Nat.le_add_right _ _)⟩
theorem Grw.grow {w w' : World} (h : Grw w w') : ∃ q os, w' = Sort.grow (w.drewN q) os := by
  refine ⟨w'.drawn - w.drawn, w'.heap.extract w.heap.size w'.heap.size, ?_⟩
  obtain ⟨⟨h1, h2, h3, h4, h5⟩, h6⟩ := h
  obtain ⟨hp, tp, dr, os, out⟩ := w
  obtain ⟨hp', tp', dr', os', out'⟩ := w'
  simp only at h1 h2 h3 h4 h5 h6
  subst h1 h2 h3
  have e : hp' = hp ++ hp'.extract hp.size hp'.size := by
    apply Array.ext_getElem?
    intro i
    by_cases hi : i < hp.size
    · rw [h5 i hi, Array.getElem?_append_left hi]
    · rw [Array.getElem?_append_right (by omega), Array.getElem?_extract]
      by_cases hj : i < hp'.size
      · rw [if_pos (by omega)]
        congr 1
        omega
      · rw [if_neg (by omega)]
        exact Array.getElem?_eq_none (by omega)
  simp only [Sort.grow, World.drewN]
  congr 1
  omega
set_option maxRecDepth 100000 in
set_option maxHeartbeats 400000 in
theorem cmpG_any (fa ra : Int) (sa : ByteArray) (la : Int) (fb rb : Int) (sb : ByteArray) (lb : Int) (w : World) :
    Calls Tryz.prog 30 #[.agg #[.int .i64 fa, .int .u64 ra, .string sa, .int .i64 la], .agg #[.int .i64 fb, .int .u64 rb, .string sb, .int .i64 lb]] w fun e w' => e = .returned (.int .i64 (pcmp fa ra sa la fb rb sb lb)) ∧ Grw w w' := by
  go_enter Tryz.func30, Tryz.ntmps30
  go_wp2_with fail
  refine (inTurn_any (w.heap.size + 1 + 1) w.heap.size (w.heap.size + 1) fa ra sa la fb rb sb lb _ ?_ ?_ ?_ ?_ ?_ ?_).mono ?_
  · exact (PfxAt.of_alloc w _ fa ra sa la rfl).kept (B := w.heap.size + 1) (((Below.refl _ _).alloc (by simp) _).alloc (by simp) _) (by simp)
  · exact (PfxAt.of_alloc (w.alloc _) _ fb rb sb lb (by simp)).kept (B := w.heap.size + 1 + 1) ((Below.refl _ _).alloc (by simp) _) (by simp)
  · rw [World.cell?_alloc_at _ _ _ _ (by simp)]; rfl
  · rw [World.cell?_alloc_at _ _ _ _ (by simp)]; rfl
  · rw [World.cell?_alloc_at _ _ _ _ (by simp)]; rfl
  · rw [World.cell?_alloc_at _ _ _ _ (by simp)]; rfl
  rintro e w' ⟨rfl, rfl⟩
  go_wp2
  go_ret
  exact ⟨rfl, (((Grw.refl _).alloc _).alloc _).alloc _⟩
set_option maxRecDepth 100000 in
set_option maxHeartbeats 3200000 in
theorem ncmpG_any (fa ra : Int) (sa : ByteArray) (la ia ba fb rb : Int) (sb : ByteArray) (lb ib bb : Int) (w : World) :
    Calls Tryz.prog 11 #[.agg #[.int .i64 fa, .int .u64 ra, .string sa, .int .i64 la, .int .u32 ia, .int .u32 ba], .agg #[.int .i64 fb, .int .u64 rb, .string sb, .int .i64 lb, .int .u32 ib, .int .u32 bb]] w fun e w' => e = .returned (.int .i64 (ncmp fa ra sa la ia ba fb rb sb lb ib bb)) ∧ Grw w w' := by
  have HG0 : Hid (Grw w ((w.alloc (.cells #[.int .i64 fa, .int .u64 ra, .string sa, .int .i64 la, .int .u32 ia, .int .u32 ba] 27)).alloc (.cells #[.int .i64 fb, .int .u64 rb, .string sb, .int .i64 lb, .int .u32 ib, .int .u32 bb] 27))) := ((Grw.refl _).alloc _).alloc _
  have H0 : Hid (TwoAt w ((w.alloc (.cells #[.int .i64 fa, .int .u64 ra, .string sa, .int .i64 la, .int .u32 ia, .int .u32 ba] 27)).alloc (.cells #[.int .i64 fb, .int .u64 rb, .string sb, .int .i64 lb, .int .u32 ib, .int .u32 bb] 27)) fa ra sa la ia ba fb rb sb lb ib bb) := TwoAt.start w fa ra sa la ia ba fb rb sb lb ib bb
  go_enter Tryz.func11, Tryz.ntmps11
  go_wp2
  generalize (w.alloc (.cells #[.int .i64 fa, .int .u64 ra, .string sa, .int .i64 la, .int .u32 ia, .int .u32 ba] 27)).alloc (.cells #[.int .i64 fb, .int .u64 rb, .string sb, .int .i64 lb, .int .u32 ib, .int .u32 bb] 27) = W at *
  have H1 : Hid (TwoAt w W.drew fa ra sa la ia ba fb rb sb lb ib bb) := H0.out.below (Below.refl _ _).drew
  obtain ⟨a0, a1, a2, a3, a4, a5, b0, b1, b2, b3, b4, b5, _⟩ := H0.out
  have HC : Hid (_ : Prop) := cmpG_any fa ra sa la fb rb sb lb W.drew
  have HOR : Hid (∀ wx : World, Calls Tryz.prog 29 #[.slice (some ⟨wx.heap.size, 0, none⟩) 3 3] (wx.alloc (.cells #[.int .i64 (pcmp fa ra sa la fb rb sb lb), .int .i64 (ord ia ib), .int .i64 (ord ba bb)] 3)) fun e w' => e = .returned (.int .i64 (ncmp fa ra sa la ia ba fb rb sb lb ib bb)) ∧ w' = (wx.alloc (.cells #[.int .i64 (pcmp fa ra sa la fb rb sb lb), .int .i64 (ord ia ib), .int .i64 (ord ba bb)] 3))) := fun wx =>
    or_any wx.heap.size 3 [pcmp fa ra sa la fb rb sb lb, ord ia ib, ord ba bb] _ (by simp) (by
      intro j hj
      simp only [List.length_cons, List.length_nil] at hj
      rw [World.cell?_alloc_at _ _ _ _ rfl]
      rcases j with _ | _ | _ | j
      · rfl
      · rfl
      · rfl
      · omega)
  obtain ⟨nc, hnc⟩ : ∃ nc, nc = ncmp fa ra sa la ia ba fb rb sb lb ib bb := ⟨_, rfl⟩
  rw [← hnc] at HOR
  have HNC : Hid (nc = ncmp fa ra sa la ia ba fb rb sb lb ib bb) := hnc
  clear hnc
  generalize pcmp fa ra sa la fb rb sb lb = pc at HC HOR
  go_region_held (fun w' => w'.cell? ⟨w.heap.size, 0, none⟩ = some (.int .i64 fa) ∧ w'.cell? ⟨w.heap.size, 1, none⟩ = some (.int .u64 ra) ∧ w'.cell? ⟨w.heap.size, 2, none⟩ = some (.string sa) ∧ w'.cell? ⟨w.heap.size, 3, none⟩ = some (.int .i64 la) ∧ w'.cell? ⟨w.heap.size, 4, none⟩ = some (.int .u32 ia) ∧ w'.cell? ⟨w.heap.size, 5, none⟩ = some (.int .u32 ba) ∧ w'.cell? ⟨w.heap.size + 1, 0, none⟩ = some (.int .i64 fb) ∧ w'.cell? ⟨w.heap.size + 1, 1, none⟩ = some (.int .u64 rb) ∧ w'.cell? ⟨w.heap.size + 1, 2, none⟩ = some (.string sb) ∧ w'.cell? ⟨w.heap.size + 1, 3, none⟩ = some (.int .i64 lb) ∧ w'.cell? ⟨w.heap.size + 1, 4, none⟩ = some (.int .u32 ib) ∧ w'.cell? ⟨w.heap.size + 1, 5, none⟩ = some (.int .u32 bb)) (go_keep)
    (first | (go_at_call 30; refine Calls.mono HC.out ?_; rintro e w2 ⟨rfl, hg2⟩; have hb2 := hg2.bel; have h2 := TwoAt.below H1.out hb2; obtain ⟨d0, d1, d2, d3, d4, d5, g0, g1, g2, g3, g4, g5, hbel⟩ := id h2) | (go_at_call 31; refine (cmp32_any _ _ _).mono ?_; rintro e w3 ⟨rfl, rfl⟩) | (go_at_call 29; refine Calls.mono (HOR.out _) ?_; rintro e w4 ⟨rfl, rfl⟩))
  have HB : Hid (Grw w _) := (HG0.out.drew).trans hg2
  clear h2 hb2 hg2 d0 d1 d2 d3 d4 d5 g0 g1 g2 g3 g4 g5 a0 a1 a2 a3 a4 a5 b0 b1 b2 b3 b4 b5 HC HOR H0 H1 hbel
  go_wp2
  go_ret
  exact ⟨ret_int HNC.out, HB.out.alloc _⟩
end Go.Proofs.YtfhbgpepkplbaaaGreatDoor
set_option linter.unusedSimpArgs false
namespace Go.Proofs.YtfhbgpepkplbaaaGreatDoor
open Go.RowKit Go.Sort
/-- The order of two. -/
def cmpN (a b : Nl) : Int := ncmp a.f a.r a.s a.l a.id a.lb b.f b.r b.s b.l b.id b.lb
/-- By one thing first, then by others. -/
def lexR {α γ : Type} (l1 : α → α → Prop) (g : γ → α) (l2 : γ → γ → Prop) (a b : γ) : Prop := l1 (g a) (g b) ∨ (g a = g b ∧ l2 a b)
theorem lexR_irrefl {α γ : Type} {l1 : α → α → Prop} {g : γ → α} {l2 : γ → γ → Prop} (h1 : ∀ x, ¬ l1 x x) (h2 : ∀ a, ¬ l2 a a) (a : γ) : ¬ lexR l1 g l2 a a := by
  rintro (h | ⟨_, h⟩)
  · exact h1 _ h
  · exact h2 _ h
theorem lexR_trans {α γ : Type} {l1 : α → α → Prop} {g : γ → α} {l2 : γ → γ → Prop} (h1 : ∀ x y z, l1 x y → l1 y z → l1 x z) (h2 : ∀ x y z, l2 x y → l2 y z → l2 x z) (a b c : γ) (h : lexR l1 g l2 a b) (k : lexR l1 g l2 b c) : lexR l1 g l2 a c := by
  rcases h with h | ⟨e, h⟩ <;> rcases k with k | ⟨e', k⟩
  · exact Or.inl (h1 _ _ _ h k)
  · exact Or.inl (e' ▸ h)
  · exact Or.inl (e ▸ k)
  · exact Or.inr ⟨e.trans e', h2 _ _ _ h k⟩
theorem lexR_total {α γ : Type} {l1 : α → α → Prop} {g : γ → α} {l2 : γ → γ → Prop} (h1 : ∀ x y, ¬ l1 x y → ¬ l1 y x → x = y) (a b : γ) (h : ¬ lexR l1 g l2 a b) (k : ¬ lexR l1 g l2 b a) : g a = g b ∧ ¬ l2 a b ∧ ¬ l2 b a := by
  have e : g a = g b := h1 _ _ (fun x => h (Or.inl x)) (fun x => k (Or.inl x))
  exact ⟨e, fun x => h (Or.inr ⟨e, x⟩), fun x => k (Or.inr ⟨e.symm, x⟩)⟩
def sless (a b : ByteArray) : Prop := Op.bytesLess a.toList b.toList = true
theorem toList_inj {a b : ByteArray} (h : a.toList = b.toList) : a = b := by
  have := congrArg List.toArray h
  apply ByteArray.ext
  simpa [ByteArray.toList_eq] using this
theorem sless_iff (a b : ByteArray) : sless a b ↔ a.toList < b.toList := by unfold sless; rw [bytesLess_eq]; simp
theorem sless_irrefl (a : ByteArray) : ¬ sless a a := by rw [sless_iff]; exact List.lt_irrefl _
theorem sless_trans (a b c : ByteArray) (h1 : sless a b) (h2 : sless b c) : sless a c := by rw [sless_iff] at *; exact List.lt_trans h1 h2
theorem sless_total (a b : ByteArray) (h1 : ¬ sless a b) (h2 : ¬ sless b a) : a = b := by
  rw [sless_iff] at h1 h2
  exact toList_inj (List.le_antisymm h2 h1)
/-- The order of numbers. -/
def ilt (x y : Int) : Prop := x < y
theorem ilt_irrefl (x : Int) : ¬ ilt x x := Int.lt_irrefl x
theorem ilt_trans (x y z : Int) (h : ilt x y) (k : ilt y z) : ilt x z := Int.lt_trans h k
theorem ilt_total (x y : Int) (h : ¬ ilt x y) (k : ¬ ilt y x) : x = y := by unfold ilt at *; omega
/-- One told prefix ahead of another. -/
def nlt : Nl → Nl → Prop := lexR ilt Nl.f (lexR ilt Nl.r (lexR sless Nl.s (lexR ilt Nl.l (lexR ilt Nl.id (fun a b => ilt a.lb b.lb)))))
theorem nlt_irrefl (a : Nl) : ¬ nlt a a :=
  lexR_irrefl ilt_irrefl (lexR_irrefl ilt_irrefl (lexR_irrefl sless_irrefl (lexR_irrefl ilt_irrefl (lexR_irrefl ilt_irrefl (fun a => ilt_irrefl a.lb))))) a
theorem nlt_trans {a b c : Nl} (h : nlt a b) (k : nlt b c) : nlt a c :=
  lexR_trans ilt_trans (lexR_trans ilt_trans (lexR_trans sless_trans (lexR_trans ilt_trans (lexR_trans ilt_trans (fun a b c => ilt_trans a.lb b.lb c.lb))))) a b c h k
theorem nlt_total {a b : Nl} (h : ¬ nlt a b) (k : ¬ nlt b a) : a = b := by
  obtain ⟨e1, h, k⟩ := lexR_total ilt_total a b h k
  obtain ⟨e2, h, k⟩ := lexR_total ilt_total a b h k
  obtain ⟨e3, h, k⟩ := lexR_total sless_total a b h k
  obtain ⟨e4, h, k⟩ := lexR_total ilt_total a b h k
  obtain ⟨e5, h, k⟩ := lexR_total ilt_total a b h k
  have e6 := ilt_total _ _ h k
  obtain ⟨f, r, s, l, i, b1⟩ := a
  obtain ⟨f', r', s', l', i', b2⟩ := b
  simp only at e1 e2 e3 e4 e5 e6
  subst e1 e2 e3 e4 e5 e6
  rfl
theorem pick_neg {c d : Int} : (if c ≠ 0 then c else d) < 0 ↔ c < 0 ∨ (c = 0 ∧ d < 0) := by
  by_cases h : c = 0
  · simp [h]
  · simp [h]
theorem ordN_neg {a b : Int} : ord a b < 0 ↔ a < b := by
  unfold ord
  split
  · simp [*]
  · split <;> simp <;> omega
theorem ordN_zero {a b : Int} : ord a b = 0 ↔ a = b := by
  unfold ord
  split
  · simp; omega
  · split <;> simp <;> omega
theorem ordSN_neg {a b : ByteArray} : ordS a.toList b.toList < 0 ↔ sless a b := by
  unfold ordS sless
  split
  · simp [*]
  · split <;> simp [*]
theorem ordSN_zero {a b : ByteArray} : ordS a.toList b.toList = 0 ↔ a = b := by
  unfold ordS
  split
  · rename_i h
    constructor
    · intro e; simp at e
    · intro e; subst e; exact absurd h (sless_irrefl a)
  · rename_i h
    split
    · rename_i h2
      simp only [true_iff]
      exact toList_inj (by simpa using h2)
    · rename_i h2
      constructor
      · intro e; simp at e
      · intro e; subst e; simp at h2
theorem cmpN_neg (a b : Nl) : cmpN a b < 0 ↔ nlt a b := by
  have e : cmpN a b = if pcmp a.f a.r a.s a.l b.f b.r b.s b.l ≠ 0 then pcmp a.f a.r a.s a.l b.f b.r b.s b.l else if ord a.id b.id ≠ 0 then ord a.id b.id else ord a.lb b.lb := by
    unfold cmpN ncmp firstNZ firstNZ firstNZ firstNZ
    by_cases h1 : pcmp a.f a.r a.s a.l b.f b.r b.s b.l = 0 <;> by_cases h2 : ord a.id b.id = 0 <;> by_cases h3 : ord a.lb b.lb = 0 <;> simp [h1, h2, h3]
  have ez : pcmp a.f a.r a.s a.l b.f b.r b.s b.l = 0 ↔ a.f = b.f ∧ a.r = b.r ∧ a.s = b.s ∧ a.l = b.l := by
    unfold pcmp
    rw [← ordN_zero (a := a.f), ← ordN_zero (a := a.r), ← ordSN_zero (a := a.s), ← ordN_zero (a := a.l)]
    by_cases h1 : ord a.f b.f = 0 <;> by_cases h2 : ord a.r b.r = 0 <;> by_cases h3 : ordS a.s.toList b.s.toList = 0 <;> simp [h1, h2, h3]
  rw [e, pick_neg, pick_neg, ez]
  unfold pcmp
  rw [pick_neg, pick_neg, pick_neg, ordN_neg, ordN_neg, ordN_neg, ordN_neg, ordN_neg, ordSN_neg, ordN_zero, ordN_zero, ordN_zero, ordSN_zero]
  unfold nlt lexR ilt
  constructor
  · rintro ((h | ⟨e1, h | ⟨e2, h | ⟨e3, h⟩⟩⟩) | ⟨⟨e1, e2, e3, e4⟩, h | ⟨e5, h⟩⟩)
    · exact Or.inl h
    · exact Or.inr ⟨e1, Or.inl h⟩
    · exact Or.inr ⟨e1, Or.inr ⟨e2, Or.inl h⟩⟩
    · exact Or.inr ⟨e1, Or.inr ⟨e2, Or.inr ⟨e3, Or.inl h⟩⟩⟩
    · exact Or.inr ⟨e1, Or.inr ⟨e2, Or.inr ⟨e3, Or.inr ⟨e4, Or.inl h⟩⟩⟩⟩
    · exact Or.inr ⟨e1, Or.inr ⟨e2, Or.inr ⟨e3, Or.inr ⟨e4, Or.inr ⟨e5, h⟩⟩⟩⟩⟩
  · rintro (h | ⟨e1, h | ⟨e2, h | ⟨e3, h | ⟨e4, h | ⟨e5, h⟩⟩⟩⟩⟩)
    · exact Or.inl (Or.inl h)
    · exact Or.inl (Or.inr ⟨e1, Or.inl h⟩)
    · exact Or.inl (Or.inr ⟨e1, Or.inr ⟨e2, Or.inl h⟩⟩)
    · exact Or.inl (Or.inr ⟨e1, Or.inr ⟨e2, Or.inr ⟨e3, h⟩⟩⟩)
    · exact Or.inr ⟨⟨e1, e2, e3, e4⟩, Or.inl h⟩
    · exact Or.inr ⟨⟨e1, e2, e3, e4⟩, Or.inr ⟨e5, h⟩⟩
/-- Told prefixes in order, each once. -/
def InOrd (L : List Nl) : Prop := L.Pairwise nlt
theorem ord_unique : ∀ {l m : List Nl}, InOrd l → InOrd m → (∀ x, x ∈ l ↔ x ∈ m) → l = m
  | [], [], _, _, _ => rfl
  | [], b :: s, _, _, h => by have := (h b).2 (by simp); simp at this
  | a :: r, [], _, _, h => by have := (h a).1 (by simp); simp at this
  | a :: r, b :: s, h1, h2, h => by
    obtain ⟨a1, a2⟩ := List.pairwise_cons.1 h1
    obtain ⟨b1, b2⟩ := List.pairwise_cons.1 h2
    have hab : a = b := by
      rcases List.mem_cons.1 ((h a).1 (by simp)) with e | ha
      · exact e
      · rcases List.mem_cons.1 ((h b).2 (by simp)) with e | hb
        · exact e.symm
        · exact absurd (nlt_trans (b1 a ha) (a1 b hb)) (nlt_irrefl _)
    subst hab
    rw [ord_unique a2 b2 (fun p => ⟨fun hp => by
      rcases List.mem_cons.1 ((h p).1 (by simp [hp])) with e | hp'
      · exact absurd (e ▸ a1 p hp) (nlt_irrefl _)
      · exact hp', fun hp => by
      rcases List.mem_cons.1 ((h p).2 (by simp [hp])) with e | hp'
      · exact absurd (e ▸ b1 p hp) (nlt_irrefl _)
      · exact hp'⟩)]
/-- Is one ahead? -/
def nltB (a b : Nl) : Bool := decide (cmpN a b < 0)
theorem nltB_iff {a b : Nl} : nltB a b = true ↔ nlt a b := by unfold nltB; rw [decide_eq_true_iff, cmpN_neg]
/-- One put in at its place, once. -/
def insN (x : Nl) : List Nl → List Nl
  | [] => [x]
  | y :: l => if eqN x y then y :: l else if nltB x y then x :: y :: l else y :: insN x l
theorem mem_insN {x z : Nl} : ∀ {l : List Nl}, z ∈ insN x l ↔ z = x ∨ z ∈ l
  | [] => by simp [insN]
  | y :: l => by
    unfold insN
    split
    · rename_i h
      have := (eqN_iff x y).1 h
      subst this
      simp
    · split
      · simp
      · simp only [List.mem_cons, mem_insN (l := l)]
        constructor
        · rintro (h | h | h) <;> simp [h]
        · rintro (h | h | h) <;> simp [h]
theorem ord_insN {x : Nl} : ∀ {l : List Nl}, InOrd l → InOrd (insN x l)
  | [], _ => by simp [insN, InOrd]
  | y :: l, h => by
    obtain ⟨h1, h2⟩ := List.pairwise_cons.1 h
    unfold insN
    cases he : eqN x y
    · rw [if_neg (by simp)]
      have hne : x ≠ y := fun e => by rw [(eqN_iff x y).2 e] at he; cases he
      cases e : nltB x y
      · rw [if_neg (by simp)]
        have n1 : ¬ nlt x y := fun h3 => by rw [nltB_iff.2 h3] at e; cases e
        have hyx : nlt y x := by
          by_cases h3 : nlt y x
          · exact h3
          · exact absurd (nlt_total n1 h3) hne
        refine List.pairwise_cons.2 ⟨fun z hz => ?_, ord_insN h2⟩
        rcases mem_insN.1 hz with rfl | hz
        · exact hyx
        · exact h1 z hz
      · rw [if_pos rfl]
        refine List.pairwise_cons.2 ⟨fun z hz => ?_, h⟩
        rcases List.mem_cons.1 hz with rfl | hz
        · exact nltB_iff.1 e
        · exact nlt_trans (nltB_iff.1 e) (h1 z hz)
    · rw [if_pos rfl]; exact h
/-- A told prefix without its label. -/
def bare (n : Nl) : Nl := ⟨n.f, n.r, n.s, n.l, n.id, 0⟩
/-- What takes told prefixes back. -/
def goneL (R : List Nl) : List Nl := R.foldl (fun l n => insN (bare n) l) []
theorem goneL_snoc (R : List Nl) (n : Nl) : goneL (R ++ [n]) = insN (bare n) (goneL R) := by simp [goneL]
theorem snoc_ind {α : Type} {P : List α → Prop} (h0 : P []) (h1 : ∀ l x, P l → P (l ++ [x])) (l : List α) : P l := by
  have : ∀ m : List α, P m.reverse := fun m => by
    induction m with
    | nil => exact h0
    | cons a r ih => rw [List.reverse_cons]; exact h1 _ _ ih
  have h := this l.reverse
  rwa [List.reverse_reverse] at h
theorem goneL_ord (R : List Nl) : InOrd (goneL R) := by
  induction R using snoc_ind with
  | h0 => exact List.Pairwise.nil
  | h1 l x ih => rw [goneL_snoc]; exact ord_insN ih
theorem mem_goneL (R : List Nl) (z : Nl) : z ∈ goneL R ↔ z ∈ R.map bare := by
  induction R using snoc_ind with
  | h0 => simp [goneL]
  | h1 l x ih => rw [goneL_snoc, mem_insN, ih]; simp only [List.map_append, List.mem_append, List.map_cons, List.map_nil, List.mem_singleton]; constructor <;> (rintro (h | h) <;> simp [h])
theorem len_insN (x : Nl) : ∀ l : List Nl, (insN x l).length ≤ l.length + 1
  | [] => by simp [insN]
  | y :: l => by
    unfold insN
    split
    · simp
    · split
      · simp
      · simp only [List.length_cons]; have := len_insN x l; omega
theorem len_goneL (R : List Nl) : (goneL R).length ≤ R.length := by
  induction R using snoc_ind with
  | h0 => simp [goneL]
  | h1 l x ih => rw [goneL_snoc]; have := len_insN (bare x) (goneL l); simp; omega
/-- Neighbours that are alike, once. -/
def compN : List Nl → List Nl
  | [] => []
  | [a] => [a]
  | a :: b :: l => if eqN a b then compN (b :: l) else a :: compN (b :: l)
end Go.Proofs.YtfhbgpepkplbaaaGreatDoor
set_option linter.unusedSimpArgs false
set_option maxRecDepth 100000
namespace Go.Proofs.YtfhbgpepkplbaaaGreatDoor
open Go.RowKit Go.Sort
/-- Told prefixes lie in block g, from its start on, and may be written. -/
structure MemL (w : World) (g : Nat) (S : List Nl) : Prop where
  row : ∀ j (h : j < S.length), w.rangeAt g (j * 6) S[j].cs
  there : w.there g 0 (S.length * 6)
theorem csN_len (x : Nl) : x.cs.length = 6 := rfl
theorem csN_one (x : Nl) : ∀ v ∈ x.cs, v.oneCell' = true := by
  intro u hu
  simp only [Nl.cs, List.mem_cons, List.not_mem_nil, or_false] at hu
  rcases hu with h | h | h | h | h | h <;> subst h <;> rfl
theorem MemL.cells {w : World} {g : Nat} {S : List Nl} (h : MemL w g S) (j : Nat) (hj : j < S.length) :
    w.cell? ⟨g, j * 6, none⟩ = some (.int .i64 S[j].f) ∧ w.cell? ⟨g, j * 6 + 1, none⟩ = some (.int .u64 S[j].r) ∧ w.cell? ⟨g, j * 6 + 2, none⟩ = some (.string S[j].s) ∧ w.cell? ⟨g, j * 6 + 3, none⟩ = some (.int .i64 S[j].l) ∧ w.cell? ⟨g, j * 6 + 4, none⟩ = some (.int .u32 S[j].id) ∧ w.cell? ⟨g, j * 6 + 5, none⟩ = some (.int .u32 S[j].lb) := by
  have := h.row j hj
  exact ⟨this 0 _ rfl, this 1 _ rfl, this 2 _ rfl, this 3 _ rfl, this 4 _ rfl, this 5 _ rfl⟩
theorem MemL.lt {w : World} {g : Nat} {S : List Nl} (h : MemL w g S) (hs : 0 < S.length) : g < w.heap.size := lt_of_cell (h.cells 0 hs).1
theorem grown_setCell' (w : World) (a : Addr) (u : Value) : w.grownBy (w.setCell a u) (some a.block) :=
  ⟨rfl, rfl, rfl, by simp, fun k _ hk => heap_setCell_other w a k u (fun e => hk (by rw [e]))⟩
theorem grown_setCells (g : Nat) : ∀ (vs : List Value) (o : Nat) (w : World), w.grownBy (w.setCells g o vs) (some g)
  | [], _, _ => World.grownBy.refl _ _
  | v :: r, o, w => (grown_setCell' w ⟨g, o, none⟩ v).trans (grown_setCells g r (o + 1) _)
theorem MemL.store {w : World} {g : Nat} {S : List Nl} (h : MemL w g S) (k : Nat) (hk : k < S.length) (x : Nl) : MemL (w.setCells g (k * 6) x.cs) g (S.set k x) := by
  have ht : w.there g (k * 6) x.cs.length := fun j hj => by
    have := h.there (k * 6 + j) (by rw [csN_len] at hj; omega)
    rwa [Nat.zero_add] at this
  refine ⟨fun j hj => ?_, ?_⟩
  · have hj' : j < S.length := by simpa using hj
    by_cases e : j = k
    · subst e
      rw [List.getElem_set_self]
      exact World.rangeAt_setCells_same w g _ _ ht
    · rw [List.getElem_set_ne (fun e' => e e'.symm)]
      exact World.rangeAt_setCells_apart (h.row j hj') _ _ _ (Or.inr (by rw [csN_len, csN_len]; omega))
  · rw [List.length_set]
    exact World.there_setCells h.there _ _ _
theorem MemL.keep {w w' : World} {g : Nat} {S : List Nl} (h : MemL w g S) (hh : w'.heap[g]? = w.heap[g]?) : MemL w' g S := by
  have hc : ∀ o, w'.cell? ⟨g, o, none⟩ = w.cell? ⟨g, o, none⟩ := fun o => by simp only [World.cell?, hh]
  have hf : ∀ o, w'.frozen? ⟨g, o, none⟩ = w.frozen? ⟨g, o, none⟩ := fun o => by simp only [World.frozen?, hh]
  exact ⟨fun j hj i v hv => by rw [hc]; exact h.row j hj i v hv, fun j hj => by rw [hc, hf]; exact h.there j hj⟩
theorem MemL.drewN {w : World} {g : Nat} {S : List Nl} (h : MemL w g S) (n : Nat) : MemL (w.drewN n) g S := h.keep rfl
/-- One label is struck out. -/
theorem MemL.strike {w : World} {g : Nat} {S : List Nl} (h : MemL w g S) (k : Nat) (hk : k < S.length) : MemL (w.setCell ⟨g, k * 6 + 5, none⟩ (.int .u32 0)) g (S.set k (bare S[k])) := by
  have e1 : w.setCell ⟨g, k * 6 + 5, none⟩ (.int .u32 0) = w.setCells g (k * 6 + 5) [.int .u32 0] := rfl
  rw [e1]
  have ht : w.there g (k * 6 + 5) 1 := fun j hj => by
    have := h.there (k * 6 + 5 + j) (by omega)
    rwa [Nat.zero_add] at this
  refine ⟨fun j hj => ?_, ?_⟩
  · have hj' : j < S.length := by simpa using hj
    by_cases e : j = k
    · subst e
      rw [List.getElem_set_self]
      have h5 : (w.setCells g (j * 6 + 5) [.int .u32 0]).rangeAt g (j * 6) (S[j].cs.take 5) :=
        World.rangeAt_setCells_apart (fun i v hv => h.row j hj' i v (by
          have hi : i < 5 := by have := (List.getElem?_eq_some_iff.1 hv).1; simp [csN_len] at this; omega
          rwa [List.getElem?_take_of_lt hi] at hv)) _ _ _ (Or.inr (Or.inl (by simp [csN_len])))
      have h6 := World.rangeAt_setCells_same w g (j * 6 + 5) [.int .u32 0] ht
      intro i v hv
      have hi : i < 6 := (List.getElem?_eq_some_iff.1 hv).1
      by_cases e5 : i = 5
      · subst e5
        exact h6 0 v hv
      · refine h5 i v ?_
        rw [List.getElem?_take_of_lt (by omega)]
        rcases (by omega : i = 0 ∨ i = 1 ∨ i = 2 ∨ i = 3 ∨ i = 4) with e | e | e | e | e <;> subst e <;> exact hv
    · rw [List.getElem_set_ne (fun e' => e e'.symm)]
      exact World.rangeAt_setCells_apart (h.row j hj') _ _ _ (Or.inr (by rw [csN_len]; simp; omega))
  · rw [List.length_set]
    exact World.there_setCells h.there _ _ _
theorem MemL.own {w : World} {base g cap : Nat} {R : List Nl} (h : OwnN w base (.slice (some ⟨g, 0, none⟩) R.length cap) R) : MemL w g R := by
  obtain ⟨h0, ⟨h1, h2⟩ | ⟨g', cap', cur, e, hg, hk, h1, h2, h3, h4⟩⟩ := h
  · cases h1
  · injection e with e _ _
    injection e with e
    injection e with e
    subst e
    have hsz : ∀ t, t < R.length * 6 → t < cur.size := fun t ht => by rw [h3]; exact Nat.lt_of_lt_of_le ht (Nat.mul_le_mul_right 6 h1)
    refine ⟨fun j hj i v hv => ?_, fun j hj => ?_⟩
    · have hi : i < 6 := (List.getElem?_eq_some_iff.1 hv).1
      have ht : j * 6 + i < R.length * 6 := by omega
      have hc : w.cell? ⟨g, j * 6 + i, none⟩ = (cellsN R)[j * 6 + i]? := by
        rw [← h4, List.getElem?_take_of_lt ht]
        simp [World.cell?, hk, hsz _ ht]
      rw [hc]
      obtain ⟨q0, q1, q2, q3, q4, q5⟩ := cellsN_at R j hj
      rcases (by omega : i = 0 ∨ i = 1 ∨ i = 2 ∨ i = 3 ∨ i = 4 ∨ i = 5) with e | e | e | e | e | e <;> subst e
      · rw [Nat.add_zero, q0]; exact hv
      · rw [q1]; exact hv
      · rw [q2]; exact hv
      · rw [q3]; exact hv
      · rw [q4]; exact hv
      · rw [q5]; exact hv
    · rw [Nat.zero_add]
      exact ⟨by simp [World.cell?, hk, hsz _ hj], by simp [World.frozen?, hk]⟩
theorem MemL.nls {w : World} {g cap : Nat} {S : List Nl} (h : MemL w g S) (hc : S.length ≤ cap) : NlsAt w (.slice (some ⟨g, 0, none⟩) S.length cap) S :=
  ⟨some ⟨g, 0, none⟩, g, 0, cap, rfl, Or.inl rfl, hc, fun j hj => by
    rw [Nat.zero_add]
    exact h.cells j hj⟩
@[reducible] def nlInh : Inhabited Nl := ⟨⟨0, 0, ⟨#[]⟩, 0, 0, 0⟩⟩
theorem MemL.hold {w : World} {g : Nat} {S : List Nl} (h : MemL w g S) : @HoldsK Nl nlInh Nl.cs 6 w g 0 S.toArray := by
  intro t ht
  have ht' : t < S.length * 6 := by simpa using ht
  have hj : t / 6 < S.length := by omega
  refine ⟨?_, ?_⟩
  · rw [Nat.zero_add, @get_flatK Nl nlInh Nl.cs 6 S.toArray t (by simpa using ht')]
    have hc := h.row (t / 6) hj (t % 6) (S[t / 6].cs[t % 6]'(by rw [csN_len]; omega)) (List.getElem?_eq_getElem _)
    rw [show t / 6 * 6 + t % 6 = t by omega] at hc
    rw [hc]
    simp only [id]
    rw [@getElem!_pos (Array Nl) Nat Nl _ _ _ nlInh S.toArray (t / 6) (by simpa using hj)]
    rw [getElem!_pos (Nl.cs S.toArray[t / 6]) (t % 6) (show t % 6 < 6 by omega)]
    simp
  · exact (h.there t ht').2
theorem MemL.held {w : World} {g : Nat} {S : List Nl} (h : @HoldsK Nl nlInh Nl.cs 6 w g 0 S.toArray) : MemL w g S := by
  have hcell : ∀ j (hj : j < S.length) i (hi : i < 6), w.cell? ⟨g, j * 6 + i, none⟩ = some (S[j].cs[i]'(by rw [csN_len]; exact hi)) ∧ w.frozen? ⟨g, j * 6 + i, none⟩ = false := fun j hj i hi => by
    have hj' : j < S.toArray.size := by simpa using hj
    have h1' := @HoldsK.cell Nl nlInh Nl.cs 6 _ g 0 _ h j i hj' hi
    rw [Nat.zero_add, @getElem!_pos (Array Nl) Nat Nl _ _ _ nlInh S.toArray j hj'] at h1'
    refine ⟨?_, h1'.2⟩
    rw [h1'.1, getElem!_pos (S.toArray[j]).cs i (by rw [csN_len]; exact hi)]
    simp
  refine ⟨fun j hj i v hv => ?_, fun j hj => ?_⟩
  · have hi : i < 6 := (List.getElem?_eq_some_iff.1 hv).1
    rw [(hcell j hj i hi).1, ← hv, List.getElem?_eq_getElem (by rw [csN_len]; exact hi)]
  · rw [Nat.zero_add]
    obtain ⟨h1, h2⟩ := hcell (j / 6) (by omega) (j % 6) (by omega)
    rw [show j / 6 * 6 + j % 6 = j by omega] at h1 h2
    exact ⟨by rw [h1]; rfl, h2⟩
end Go.Proofs.YtfhbgpepkplbaaaGreatDoor
set_option linter.unusedSimpArgs false
set_option maxRecDepth 100000
namespace Go.Proofs.YtfhbgpepkplbaaaGreatDoor
open Go.RowKit Go.Sort
theorem ltN (x y : Nl) : ltOf cmpN x y = true ↔ nlt x y := by unfold ltOf; rw [decide_eq_true_iff, cmpN_neg]
theorem ltN_no (x y : Nl) : ltOf cmpN x y = false ↔ ¬ nlt x y := by rw [← ltN, Bool.not_eq_true]
theorem nlt_ntrans {a b c : Nl} (h1 : ¬ nlt a b) (h2 : ¬ nlt b c) : ¬ nlt a c := by
  intro h
  by_cases e1 : nlt b a
  · exact h2 (nlt_trans e1 h)
  · have := nlt_total h1 e1
    subst this
    exact h2 h
theorem swoN : SWO (ltOf cmpN) where
  irrefl x := by rw [ltN_no]; exact nlt_irrefl _
  trans x y z h1 h2 := by rw [ltN] at *; exact nlt_trans h1 h2
  ntrans x y z h1 h2 := by rw [ltN_no] at *; exact nlt_ntrans h1 h2
theorem totN (x y : Nl) (h1 : ltOf cmpN x y = false) (h2 : ltOf cmpN y x = false) : x = y := by
  rw [ltN_no] at *
  exact nlt_total h1 h2
/-- Told prefixes put into order. -/
def sortN (S : List Nl) : List Nl := S.mergeSort fun x y => !(ltOf cmpN) y x
theorem sortN_len (S : List Nl) : (sortN S).length = S.length := by simp [sortN]
theorem mem_sortN (S : List Nl) (z : Nl) : z ∈ sortN S ↔ z ∈ S := (List.mergeSort_perm S _).mem_iff
theorem pair_sortN (S : List Nl) : (sortN S).Pairwise fun x y => ¬ nlt y x := by
  have h := List.pairwise_mergeSort (le := fun x y => !(ltOf cmpN) y x) (fun a b c h1 h2 => by
    simp only [Bool.not_eq_true'] at *
    rw [ltN_no] at *
    exact nlt_ntrans h2 h1) (fun a b => by
    cases e : ltOf cmpN b a
    · simp
    · simp
      rw [ltN_no]
      rw [ltN] at e
      intro h
      exact nlt_irrefl _ (nlt_trans e h)) S
  refine h.imp (fun {a b} hab => ?_)
  simp only [Bool.not_eq_true'] at hab
  rwa [ltN_no] at hab
theorem eg11 : ∀ args w, (callFunc 11 args).run Tryz.prog w = .ok (.enter 11 args) w := enters_of Tryz.func11 (by kernel_rfl) rfl
theorem laysN (g n : Nat) (w : World) : @CmpLays Nl nlInh Tryz.prog 11 #[] Nl.cs 6 cmpN g 0 n w := by
  intro m os dk _ x y
  exact (ncmpG_any x.f x.r x.s x.l x.id x.lb y.f y.r y.s y.l y.id y.lb _).mono fun e w' ⟨he, hgr⟩ => ⟨he, hgr.grow⟩
theorem grown_sortedN {w : World} {g n : Nat} {os : Array Obj} (d : Array Nl) : w.grownBy (@sortWorldK Nl nlInh Nl.cs 6 w g 0 n d os) (some g) := by
  refine ⟨rfl, rfl, rfl, by simp [sortWorldK, putRowK, putRow, mapBlock, grow, Sort.ahead], fun k hk hne => ?_⟩
  unfold sortWorldK
  rw [heap_grow_old _ _ (by simpa [putRowK, putRow, mapBlock, Sort.ahead] using hk)]
  have : g ≠ k := fun e => hne (by rw [e])
  simp [putRowK, putRow, mapBlock, Sort.ahead, Array.getElem?_modify, this]
theorem sortN_any {w : World} {g cap : Nat} {S : List Nl} (h : MemL w g S) (hs : 0 < S.length) (hl : S.length ≤ 60000) :
    Calls Tryz.prog 39 #[.slice (some ⟨g, 0, none⟩) S.length cap, .func (.func 11) #[] #[]] w fun e w' => e = .returned (.tuple #[]) ∧ MemL w' g (sortN S) ∧ w.grownBy w' (some g) := by
  have hlt := h.lt hs
  have hH := h.hold
  have hcon := @AnyQ.slices_SortFunc_total Tryz.prog Tryz.laysF0_ren Nl nlInh Tryz.laysF0 6 Tryz.isAgg27 Tryz.sizeOf27 Nl.cs (fun _ => rfl) csN_one cmpN swoN 11 #[] g 0 cap S.toArray w eg11 (laysN g _ w) hH hlt (by simp; omega) totN
  rw [List.size_toArray] at hcon
  refine Calls.mono hcon ?_
  rintro e w' ⟨rfl, n, os, rfl⟩
  have hln : (sortN S).length = S.length := sortN_len S
  refine ⟨rfl, MemL.held ?_, grown_sortedN _⟩
  unfold sortWorldK
  refine @holdsK_grow Nl nlInh Nl.cs 6 _ os g 0 _ ?_ ?_
  · simpa [putRowK, putRow, mapBlock, Sort.ahead] using hlt
  · exact @holdsK_putRowK Nl nlInh Nl.cs 6 (Sort.ahead w n) g 0 S.toArray (sortN S).toArray (@holdsK_ahead Nl nlInh Nl.cs 6 w n g 0 _ hH) (by simp [hln])
/-- The first one of each run of alike ones, of the first m. -/
def keepN (S : List Nl) : Nat → List Nl
  | 0 => []
  | m + 1 => if h : m < S.length then (if m = 0 ∨ eqN S[m] (S[m - 1]'(by omega)) = false then keepN S m ++ [S[m]] else keepN S m) else keepN S m
theorem keepN_le (S : List Nl) : ∀ m, (keepN S m).length ≤ m
  | 0 => Nat.le_refl _
  | m + 1 => by
    have := keepN_le S m
    unfold keepN
    split
    · split
      · simp; omega
      · omega
    · omega
theorem keepN_yes {S : List Nl} {m : Nat} (h : m < S.length) (hk : m = 0 ∨ eqN S[m] (S[m - 1]'(by omega)) = false) : keepN S (m + 1) = keepN S m ++ [S[m]] := by
  conv => lhs; unfold keepN
  rw [dif_pos h, if_pos hk]
theorem keepN_no {S : List Nl} {m : Nat} (h : m < S.length) (h0 : m ≠ 0) (hk : eqN S[m] (S[m - 1]'(by omega)) = true) : keepN S (m + 1) = keepN S m := by
  conv => lhs; unfold keepN
  rw [dif_pos h, if_neg (by rintro (e | e); exact h0 e; rw [hk] at e; cases e)]
theorem keepN_mem {S : List Nl} : ∀ m, m ≤ S.length → ∀ z, z ∈ keepN S m ↔ z ∈ S.take m
  | 0, _, z => by simp [keepN]
  | m + 1, hm, z => by
    have ih := keepN_mem (S := S) m (by omega) z
    have hlt : m < S.length := by omega
    rw [List.take_succ_eq_append_getElem hlt]
    by_cases hk : m = 0 ∨ eqN S[m] (S[m - 1]'(by omega)) = false
    · rw [keepN_yes hlt hk, List.mem_append, List.mem_append, ih]
    · have h0 : m ≠ 0 := fun e => hk (Or.inl e)
      have he : eqN S[m] (S[m - 1]'(by omega)) = true := by
        cases e : eqN S[m] (S[m - 1]'(by omega))
        · exact absurd (Or.inr e) hk
        · rfl
      rw [keepN_no hlt h0 he, ih, List.mem_append]
      constructor
      · intro h; exact Or.inl h
      · rintro (h | h)
        · exact h
        · rw [List.mem_singleton] at h
          have e2 := (eqN_iff _ _).1 he
          rw [h, e2]
          have : S[m - 1]'(by omega) = (S.take m)[m - 1]'(by rw [List.length_take]; omega) := by rw [List.getElem_take]
          rw [this]
          exact List.getElem_mem _
theorem keepN_ord {S : List Nl} (hs : S.Pairwise fun x y => ¬ nlt y x) : ∀ m, m ≤ S.length → InOrd (keepN S m)
  | 0, _ => List.Pairwise.nil
  | m + 1, hm => by
    have ih := keepN_ord hs m (by omega)
    have hlt : m < S.length := by omega
    by_cases hk : m = 0 ∨ eqN S[m] (S[m - 1]'(by omega)) = false
    · rw [keepN_yes hlt hk]
      refine List.pairwise_append.2 ⟨ih, by simp, fun a ha b hb => ?_⟩
      rw [List.mem_singleton] at hb
      subst hb
      have ha' := (keepN_mem m (by omega) a).1 ha
      obtain ⟨i, hi, e⟩ := List.getElem_of_mem ha'
      rw [List.getElem_take] at e
      rw [List.length_take] at hi
      subst e
      have h0 : m ≠ 0 := by omega
      have hne : S[m] ≠ S[m - 1]'(by omega) := fun e => by
        rcases hk with hk | hk
        · exact h0 hk
        · rw [(eqN_iff _ _).2 e] at hk; cases hk
      have hp : ¬ nlt S[m] (S[m - 1]'(by omega)) := List.pairwise_iff_getElem.1 hs (m - 1) m (by omega) hlt (by omega)
      have hl : nlt (S[m - 1]'(by omega)) S[m] := by
        by_cases h3 : nlt (S[m - 1]'(by omega)) S[m]
        · exact h3
        · exact absurd (nlt_total hp h3) hne
      by_cases h4 : i = m - 1
      · subst h4; exact hl
      · have h5 : ¬ nlt (S[m - 1]'(by omega)) (S[i]'(by omega)) := List.pairwise_iff_getElem.1 hs i (m - 1) (by omega) (by omega) (by omega)
        by_cases h6 : nlt (S[i]'(by omega)) (S[m - 1]'(by omega))
        · exact nlt_trans h6 hl
        · have := nlt_total h6 h5
          rw [this]; exact hl
    · have h0 : m ≠ 0 := fun e => hk (Or.inl e)
      have he : eqN S[m] (S[m - 1]'(by omega)) = true := by
        cases e : eqN S[m] (S[m - 1]'(by omega))
        · exact absurd (Or.inr e) hk
        · rfl
      rw [keepN_no hlt h0 he]
      exact ih
theorem keep_gone (R : List Nl) : keepN (sortN (R.map bare)) R.length = goneL R := by
  have hl : (sortN (R.map bare)).length = R.length := by rw [sortN_len, List.length_map]
  refine ord_unique (keepN_ord (pair_sortN _) _ (by omega)) (goneL_ord R) (fun z => ?_)
  rw [keepN_mem _ (by omega), mem_goneL, List.take_of_length_le (by omega), mem_sortN]
/-- While no neighbours are alike, nothing is left out. -/
theorem keepN_all {S : List Nl} : ∀ m, m ≤ S.length → (∀ j (hj : j < S.length), j < m → j ≠ 0 → eqN S[j] (S[j - 1]'(by omega)) = false) → keepN S m = S.take m
  | 0, _, _ => by simp [keepN]
  | m + 1, hm, h => by
    have hlt : m < S.length := by omega
    rw [List.take_succ_eq_append_getElem hlt, ← keepN_all (S := S) m (by omega) (fun j hj hm => h j hj (by omega))]
    refine keepN_yes hlt ?_
    by_cases e : m = 0
    · exact Or.inl e
    · exact Or.inr (h m hlt (by omega) e)
end Go.Proofs.YtfhbgpepkplbaaaGreatDoor
set_option linter.unusedSimpArgs false
set_option maxRecDepth 100000
namespace Go.Proofs.YtfhbgpepkplbaaaGreatDoor
open Go.RowKit Go.Sort
/-- Two told prefixes are one, or part somewhere. -/
theorem nl_cases (a b : Nl) : a = b ∨ (eqN a b = false ∧ (a.f == b.f) = false) ∨ (eqN a b = false ∧ a.f = b.f ∧ (a.r == b.r) = false) ∨ (eqN a b = false ∧ a.f = b.f ∧ a.r = b.r ∧ (a.s.toList == b.s.toList) = false) ∨ (eqN a b = false ∧ a.f = b.f ∧ a.r = b.r ∧ (a.s.toList == b.s.toList) = true ∧ (a.l == b.l) = false) ∨
    (eqN a b = false ∧ a.f = b.f ∧ a.r = b.r ∧ (a.s.toList == b.s.toList) = true ∧ a.l = b.l ∧ (a.id == b.id) = false) ∨ (eqN a b = false ∧ a.f = b.f ∧ a.r = b.r ∧ (a.s.toList == b.s.toList) = true ∧ a.l = b.l ∧ a.id = b.id ∧ (a.lb == b.lb) = false) := by
  cases he : eqN a b
  · have hne : a ≠ b := fun e => by rw [(eqN_iff a b).2 e] at he; cases he
    refine Or.inr ?_
    by_cases h1 : a.f = b.f
    · refine Or.inr ?_
      by_cases h2 : a.r = b.r
      · refine Or.inr ?_
        cases h3 : (a.s.toList == b.s.toList)
        · exact Or.inl ⟨rfl, h1, h2, rfl⟩
        · refine Or.inr ?_
          have h3' : a.s = b.s := toList_inj (by simpa using h3)
          by_cases h4 : a.l = b.l
          · refine Or.inr ?_
            by_cases h5 : a.id = b.id
            · refine Or.inr ⟨rfl, h1, h2, rfl, h4, h5, ?_⟩
              simp only [beq_eq_false_iff_ne]
              intro h6
              apply hne
              obtain ⟨f, r, s, l, i, b1⟩ := a
              obtain ⟨f', r', s', l', i', b2⟩ := b
              simp only at h1 h2 h3' h4 h5 h6
              subst h1 h2 h3' h4 h5 h6
              rfl
            · exact Or.inl ⟨rfl, h1, h2, rfl, h4, by simpa using h5⟩
          · exact Or.inl ⟨rfl, h1, h2, rfl, by simpa using h4⟩
      · exact Or.inl ⟨rfl, h1, by simpa using h2⟩
    · exact Or.inl ⟨rfl, by simpa using h1⟩
  · exact Or.inl ((eqN_iff a b).1 he)
theorem zero27 (w : World) : (zeroValue 27).run Tryz.prog w = .ok (.agg #[.int .i64 0, .int .u64 0, .string ⟨#[]⟩, .int .i64 0, .int .u32 0, .int .u32 0]) w := by kernel_rfl
/-- The cells that clear leaves. -/
def zerosN (m : Nat) : List Value := (Builtin.zeroCells #[.int .i64 0, .int .u64 0, .string ⟨#[]⟩, .int .i64 0, .int .u32 0, .int .u32 0] m).toList
theorem zerosN_len (m : Nat) : (zerosN m).length = m * 6 := by simp [zerosN, Builtin.zeroCells]
theorem zerosN_one (m : Nat) : ∀ v ∈ zerosN m, v.oneCell' = true := by
  intro v hv
  simp only [zerosN, Builtin.zeroCells] at hv
  simp at hv
  obtain ⟨i, hi, rfl⟩ := hv
  have h6 : i % 6 = 0 ∨ i % 6 = 1 ∨ i % 6 = 2 ∨ i % 6 = 3 ∨ i % 6 = 4 ∨ i % 6 = 5 := by omega
  rcases h6 with e | e | e | e | e | e <;> simp [e] <;> rfl
theorem run_clearN (w : World) (ty : TypeId) (g o m c : Nat) (hm : 0 < m) (ht : w.there g o (m * 6)) :
    (Builtin.clear_ #[35] ty #[.slice (some ⟨g, o, none⟩) m c]).run Tryz.prog w = .ok (.tuple #[]) (w.setCells g o (zerosN m)) := by
  have hst := run_storeCells_cells (P := Tryz.prog) g o (zerosN m) 0 w (fun j hj => by rw [Nat.add_zero]; exact (ht j (by rw [zerosN_len] at hj; omega)).1) (fun j hj => by rw [Nat.add_zero]; exact (ht j (by rw [zerosN_len] at hj; omega)).2) (zerosN_one m)
  simp only [Nat.add_zero] at hst
  obtain ⟨k, rfl⟩ : ∃ k, m = k + 1 := ⟨m - 1, by omega⟩
  simp only [zerosN] at hst
  simp [Builtin.clear_, run_underlying Tryz.underlying35, zero27, Value.cells, zerosN, hst]
end Go.Proofs.YtfhbgpepkplbaaaGreatDoor
