/-
  A family's capability is taken: takeFam.
-/
import Derived.Test.YtlhnfejgkhilkaaGreatDoorM0
import Derived.Test.YtlhnfejgkhilkaaGreatDoorFC
import Derived.Test.YtlhnfejgkhilkaaGreatDoorLY
import Derived.Deep.RegionHeld3
import Derived.BigRegion
set_option linter.unusedVariables false
set_option linter.unusedSimpArgs false
namespace Go.Proofs.YtlhnfejgkhilkaaGreatDoor
open Go.RowKit
theorem ne_own {w : World} {base : Nat} {e : TypeId} {size : Nat} {v : Value} {n : Nat} {xs : List Value} (h : w.ownsRow base e size v n xs) {k : Nat} {C : Array Value} {t : TypeId} {fz : Nat × Nat} (hk : w.heap[k]? = some (.cells C t fz)) (ht : t ≠ e) : some k ≠ v.ownBlock := by
  intro e'
  obtain ⟨_, ⟨rfl, _⟩ | ⟨g, cap, cur, rfl, _, hgg, _⟩⟩ := h
  · cases e'
  · simp [Value.ownBlock] at e'
    subst e'
    rw [hk] at hgg
    simp at hgg
    exact ht hgg.2.1
theorem owns_grown {w w' : World} {base : Nat} {e : TypeId} {size : Nat} {v : Value} {n : Nat} {xs : List Value} {u : Value} {e2 : TypeId} {size2 n2 : Nat} {ys : List Value} (h : w.ownsRow base e size v n xs) (hu : w.ownsRow base e2 size2 u n2 ys) (hg : w.grownBy w' u.ownBlock) (ht : e ≠ e2) : w'.ownsRow base e size v n xs :=
  owns_heap' h fun g C _ hgC => hg.block g (lt_of_heap hgC) (ne_own hu hgC ht)
/-- A row of an open has turned, and nothing else. -/
theorem fr_grown {w w' : World} {base p : Nat} {e : TypeId} {size : Nat} {v : Value} {n : Nat} {xs : List Value} (h : w.ownsRow base e size v n xs) (he : e = 3 ∨ e = 52 ∨ e = 40) (hg : w.grownBy w' v.ownBlock) : Fr base p w w' :=
  ⟨hg.os, hg.tape, hg.output, hg.size, fun k hk _ hn => hg.block k hk (fun e' => by
    obtain ⟨_, ⟨rfl, _⟩ | ⟨g, cap, cur, rfl, hbg, hgg, _⟩⟩ := h
    · cases e'
    · simp [Value.ownBlock] at e'
      subst e'
      rcases hn with hn | hn
      · omega
      · have := hn cur e (0, 0) hgg
        rcases he with rfl | rfl | rfl
        · exact this.1 rfl
        · exact this.2.1 rfl
        · exact this.2.2 rfl)⟩
theorem famSizes_block {w w' : World} (h : FamSizes w) (e : w'.heap[0]? = w.heap[0]?) : FamSizes w' := by
  obtain ⟨a, b, c, d, f, g⟩ := h
  constructor
  all_goals (rw [World.cell?, e]; assumption)
theorem FamSizes.lt {w : World} (h : FamSizes w) : 0 < w.heap.size := lt_of_cell h.c0
theorem FamSizes.fr {base p : Nat} {w w' : World} (h : FamSizes w) (hf : Fr base p w w') (hb : 0 < base) (hp : 0 < p) : FamSizes w' :=
  famSizes_block h (hf.block 0 h.lt (by omega) (Or.inl hb))
theorem OAt.setF {base p : Nat} {w w' : World} {o : Opn} {vf va vk vf' : Value} {L' : List Int} (h1 : w.heap[p]? = some (.cells (opC o vf va vk) 27 (0, 0))) (h2 : w.ownsRow base 3 1 vf o.fams.length (intsC o.fams)) (h3 : w.ownsRow base 52 3 va o.adds.length (addsC o.adds)) (h4 : w.ownsRow base 40 2 vk o.kept.length (keptC o.kept)) (h5 : OpOk o)
    (hg : w.grownBy w' vf.ownBlock) (ho : w'.ownsRow base 3 1 vf' L'.length (intsC L')) (hk : risF 0 L' = true) :
    OAt base (w'.setCell ⟨p, 3, none⟩ vf') p { o with fams := L' } ∧ Fr base p w (w'.setCell ⟨p, 3, none⟩ vf') ∧ w'.heap[p]? = some (.cells (opC o vf va vk) 27 (0, 0)) := by
  have hp : w'.heap[p]? = some (.cells (opC o vf va vk) 27 (0, 0)) := (hg.block p (lt_of_heap h1) (ne_own h2 h1 (by decide))).trans h1
  have hs := heap_setCell_same w' p 3 (opC o vf va vk) 27 vf' hp
  have hb : Beside p w' (w'.setCell ⟨p, 3, none⟩ vf') := Beside.set _ _ _
  exact ⟨⟨vf', va, vk, hs, owns_beside ho hb hp (by decide), owns_beside (owns_grown h3 h2 hg (by decide)) hb hp (by decide), owns_beside (owns_grown h4 h2 hg (by decide)) hb hp (by decide), ⟨hk, h5.a, h5.k⟩⟩, (fr_grown h2 (Or.inl rfl) hg).trans (Fr.set _ _ _), hp⟩
theorem OAt.setA {base p : Nat} {w w' : World} {o : Opn} {vf va vk va' : Value} {L' : List Ad} (h1 : w.heap[p]? = some (.cells (opC o vf va vk) 27 (0, 0))) (h2 : w.ownsRow base 3 1 vf o.fams.length (intsC o.fams)) (h3 : w.ownsRow base 52 3 va o.adds.length (addsC o.adds)) (h4 : w.ownsRow base 40 2 vk o.kept.length (keptC o.kept)) (h5 : OpOk o)
    (hg : w.grownBy w' va.ownBlock) (ho : w'.ownsRow base 52 3 va' L'.length (addsC L')) (hk : risF 0 (L'.map (·.f)) = true) :
    OAt base (w'.setCell ⟨p, 6, none⟩ va') p { o with adds := L' } ∧ Fr base p w (w'.setCell ⟨p, 6, none⟩ va') ∧ w'.heap[p]? = some (.cells (opC o vf va vk) 27 (0, 0)) := by
  have hp : w'.heap[p]? = some (.cells (opC o vf va vk) 27 (0, 0)) := (hg.block p (lt_of_heap h1) (ne_own h3 h1 (by decide))).trans h1
  have hs := heap_setCell_same w' p 6 (opC o vf va vk) 27 va' hp
  have hb : Beside p w' (w'.setCell ⟨p, 6, none⟩ va') := Beside.set _ _ _
  exact ⟨⟨vf, va', vk, hs, owns_beside (owns_grown h2 h3 hg (by decide)) hb hp (by decide), owns_beside ho hb hp (by decide), owns_beside (owns_grown h4 h3 hg (by decide)) hb hp (by decide), ⟨h5.f, hk, h5.k⟩⟩, (fr_grown h3 (Or.inr (Or.inl rfl)) hg).trans (Fr.set _ _ _), hp⟩
theorem OAt.setK {base p : Nat} {w w' : World} {o : Opn} {vf va vk vk' : Value} {L' : List Kp} (h1 : w.heap[p]? = some (.cells (opC o vf va vk) 27 (0, 0))) (h2 : w.ownsRow base 3 1 vf o.fams.length (intsC o.fams)) (h3 : w.ownsRow base 52 3 va o.adds.length (addsC o.adds)) (h4 : w.ownsRow base 40 2 vk o.kept.length (keptC o.kept)) (h5 : OpOk o)
    (hg : w.grownBy w' vk.ownBlock) (ho : w'.ownsRow base 40 2 vk' L'.length (keptC L')) (hk : risF 0 (L'.map (·.f)) = true) :
    OAt base (w'.setCell ⟨p, 10, none⟩ vk') p { o with kept := L' } ∧ Fr base p w (w'.setCell ⟨p, 10, none⟩ vk') ∧ w'.heap[p]? = some (.cells (opC o vf va vk) 27 (0, 0)) := by
  have hp : w'.heap[p]? = some (.cells (opC o vf va vk) 27 (0, 0)) := (hg.block p (lt_of_heap h1) (ne_own h4 h1 (by decide))).trans h1
  have hs := heap_setCell_same w' p 10 (opC o vf va vk) 27 vk' hp
  have hb : Beside p w' (w'.setCell ⟨p, 10, none⟩ vk') := Beside.set _ _ _
  exact ⟨⟨vf, va, vk', hs, owns_beside (owns_grown h2 h4 hg (by decide)) hb hp (by decide), owns_beside (owns_grown h3 h4 hg (by decide)) hb hp (by decide), owns_beside ho hb hp (by decide), ⟨h5.f, h5.a, hk⟩⟩, (fr_grown h4 (Or.inr (Or.inr rfl)) hg).trans (Fr.set _ _ _), hp⟩
/-- The family of a capability's four bytes. -/
def fam4 (v : List UInt8) : Int := fmN ((worth (v.take 4) / 65536 : Nat) : Int) ((worth (v.take 4) % 256 : Nat) : Int)
def famsI (L : List Int) (v : List UInt8) : List Int := if fam4 v = 0 then L else plA id L (fam4 v)
theorem worth4 (l : List UInt8) : worth (l.take 4) < 4294967296 := by
  have := worth_lt (l.take 4)
  have hl : (l.take 4).length ≤ 4 := by simp; omega
  exact Nat.lt_of_lt_of_le this (Nat.le_trans (Nat.pow_le_pow_right (by omega) hl) (by decide))
set_option maxHeartbeats 3200000 in
set_option maxRecDepth 100000 in
theorem takeFam_any (base p r : Nat) (o : Opn) (l : List UInt8) (X w : World) (ho : OAt base w p o) (hr : Rd w r l) (hl : 4 ≤ l.length) (hg : FamSizes w) (hb0 : 0 < base) (hbp : base ≤ p) (hX : Fr base p X w) (hXr : X.heap.size ≤ r) (hbX : base ≤ X.heap.size) :
    Calls Tryz.prog 60 #[.pointer (some ⟨p, 0, none⟩), .pointer (some ⟨r, 0, none⟩)] w fun e w' => e = .returned (.tuple #[]) ∧ OAt base w' p { o with fams := famsI o.fams l } ∧ Fr base p X w' := by
  have K1 : Hid (_ : Prop) := numR_yes r l 4 w hr (by omega) (by omega) hl
  obtain ⟨C, hC⟩ := hr.ty
  have HT : Hid (_ = _) := hC
  have HO : Hid (OAt base w p o) := ho
  have HG : Hid (FamSizes w) := hg
  have HX : Hid (Fr base p X w) := hX
  have HXR : Hid (X.heap.size ≤ r ∧ base ≤ X.heap.size ∧ 0 < base ∧ base ≤ p) := ⟨hXr, hbX, hb0, hbp⟩
  have hw4 := worth4 l
  have HF4 : Hid (fam4 l = fmN ((worth (l.take 4) / 65536 : Nat) : Int) ((worth (l.take 4) % 256 : Nat) : Int)) := rfl
  have HFI : Hid (isF (fam4 l) = true ∨ fam4 l = 0) := by
    unfold Hid
    by_cases e : fam4 l = 0
    · exact Or.inr e
    · exact Or.inl (fmN_isF _ _ e)
  have HFA : Hid (famsI o.fams l = if fam4 l = 0 then o.fams else plA id o.fams (fam4 l)) := rfl
  generalize famsI o.fams l = FA at *
  generalize worth (l.take 4) = v at *
  generalize fam4 l = f at *
  clear hr hC ho hg hX hXr hbX hl hb0 hbp
  have e1 : (v : Int) / 65536 % 65536 = (v : Int) / 65536 := by omega
  have KF : Hid (∀ w1, FamSizes w1 → Calls Tryz.prog 70 #[.int .u16 ((v : Int) / 65536), .int .u8 ((v : Int) % 256)] w1 fun e w' => e = .returned (.int .i64 f) ∧ Below w1.heap.size w1 w') := fun w1 hg1 => by
    have := fam_any ((v / 65536 : Nat) : Int) ((v % 256 : Nat) : Int) w1 hg1
    rw [← HF4.out] at this
    rw [show ((v / 65536 : Nat) : Int) = (v : Int) / 65536 by omega, show ((v % 256 : Nat) : Int) = (v : Int) % 256 by omega] at this
    exact this
  by_cases hf : f = 0
  · have HFE : Hid (FA = o.fams) := by unfold Hid; rw [HFA.out, if_pos hf]
    subst hf
    go_enter Tryz.func60, Tryz.ntmps60
    go_wp2_with fail
    refine Calls.mono K1.out ?_
    rintro e w1 ⟨rfl, hr1, hb1⟩
    have HO1 : Hid (OAt base w1 p o) := HO.out.beside hb1 HT.out (by decide)
    have HX1 : Hid (Fr base p X w1) := HX.out.later (hb1.below HXR.out.1 HX.out.size)
    have HG1 : Hid (FamSizes w1) := famSizes_block HG.out (hb1.block 0 HG.out.lt (by have := HXR.out; omega))
    clear hr1 hb1 K1 HO HX HG HT
    go_wp2_with fail
    refine Calls.mono (KF.out w1 HG1.out) ?_
    rintro e w2 ⟨rfl, hb2⟩
    have HO2 : Hid (OAt base w2 p o) := HO1.out.below hb2
    have HX2 : Hid (Fr base p X w2) := HX1.out.later (hb2.mono HX1.out.size)
    clear hb2
    go_wp2
    go_end0
    exact ⟨rfl, by rw [HFE.out]; exact HO2.out, HX2.out⟩
  · have HFE : Hid (FA = plA id o.fams f) := by unfold Hid; rw [HFA.out, if_neg hf]
    have HIF : Hid (isF f = true) := by
      rcases HFI.out with h | h
      · exact h
      · exact absurd h hf
    have hf' : (f == 0) = false := by simpa using hf
    have hf2 : (f != 0) = true := by simpa using hf
    clear hf
    go_enter Tryz.func60, Tryz.ntmps60
    go_wp2_with fail
    refine Calls.mono K1.out ?_
    rintro e w1 ⟨rfl, hr1, hb1⟩
    have HO1 : Hid (OAt base w1 p o) := HO.out.beside hb1 HT.out (by decide)
    have HX1 : Hid (Fr base p X w1) := HX.out.later (hb1.below HXR.out.1 HX.out.size)
    have HG1 : Hid (FamSizes w1) := famSizes_block HG.out (hb1.block 0 HG.out.lt (by have := HXR.out; omega))
    clear hr1 hb1 K1 HO HX HG HT
    go_wp2_with fail
    refine Calls.mono (KF.out w1 HG1.out) ?_
    rintro e w2 ⟨rfl, hb2⟩
    have HO2 : Hid (OAt base w2 p o) := HO1.out.below hb2
    have HX2 : Hid (Fr base p X w2) := HX1.out.later (hb2.mono HX1.out.size)
    clear hb2 HO1 HX1 HG1
    obtain ⟨vf, va, vk, h1, h2, h3, h4, h5⟩ := HO2.out
    have KP : Hid (_ : Prop) := placed_int base vf o.fams f w2 h2 (by have := HX2.out.size; have := HXR.out; omega) (srt_of h5.f) (by have := len_of h5.f; omega)
    have HALL : Hid (_ ∧ _ ∧ _ ∧ _ ∧ _) := ⟨h1, h2, h3, h4, h5⟩
    have c3 : w2.cell? ⟨p, 3, none⟩ = some vf := cl_row h1 rfl
    clear h1 h2 h3 h4 h5 HO2
    go_wp2_with fail
    refine Calls.mono KP.out ?_
    rintro e w3 ⟨vf', rfl, ho3, hg3⟩
    obtain ⟨hO, hF, hP⟩ := OAt.setF HALL.out.1 HALL.out.2.1 HALL.out.2.2.1 HALL.out.2.2.2.1 HALL.out.2.2.2.2 hg3 ho3 (ris_plA HALL.out.2.2.2.2.f HIF.out)
    have k3 : w3.cell? ⟨p, 3, none⟩ = some vf := cl_row hP rfl
    have f3 := fz_row (i := 3) hP
    have HEND : Hid (_ ∧ _) := ⟨hO, HX2.out.trans hF⟩
    obtain ⟨ad', c', rfl⟩ := slice_of_owns ho3
    clear hO hF hP ho3 hg3 c3 HALL HX2
    go_wp2
    go_end0
    exact ⟨rfl, by rw [HFE.out]; exact HEND.out.1, HEND.out.2⟩
end Go.Proofs.YtlhnfejgkhilkaaGreatDoor

set_option linter.unusedVariables false
set_option linter.unusedSimpArgs false
namespace Go.Proofs.YtlhnfejgkhilkaaGreatDoor
open Go.RowKit
/-- The family of an entry's four bytes, and its last byte. -/
def ent4 (v : List UInt8) : Int := fmN ((worth (v.take 4) / 65536 : Nat) : Int) ((worth (v.take 4) / 256 % 256 : Nat) : Int)
def entB (v : List UInt8) : Nat := worth (v.take 4) % 256
/-- Entries are taken one by one. -/
def entsF (st : Opn → Int → Nat → Opn) : Nat → List UInt8 → Opn → Opn
  | 0, _, o => o
  | k + 1, l, o => if l.length < 4 then o else entsF st k (l.drop 4) (if ent4 l = 0 then o else st o (ent4 l) (entB l))
theorem entsF_fuel (st : Opn → Int → Nat → Opn) (k : Nat) : ∀ (j : Nat) (l : List UInt8) (o : Opn), l.length ≤ k → l.length ≤ j → entsF st k l o = entsF st j l o := by
  induction k with
  | zero =>
    intro j l o h1 h2
    cases j with
    | zero => rfl
    | succ j => simp only [entsF]; rw [if_pos (by omega)]
  | succ k ih =>
    intro j l o h1 h2
    cases j with
    | zero => simp only [entsF]; rw [if_pos (by omega)]
    | succ j =>
      simp only [entsF]
      split
      · rfl
      · exact ih j _ _ (by simp; omega) (by simp; omega)
def entsL (st : Opn → Int → Nat → Opn) (l : List UInt8) (o : Opn) : Opn := entsF st l.length l o
theorem entsL_stop (st : Opn → Int → Nat → Opn) (l : List UInt8) (o : Opn) (h : l.length < 4) : entsL st l o = o := by
  unfold entsL
  cases hl : l.length with
  | zero => rfl
  | succ k => simp only [entsF]; rw [if_pos h]
theorem entsL_go (st : Opn → Int → Nat → Opn) (l : List UInt8) (o : Opn) (h : ¬ l.length < 4) : entsL st l o = entsL st (l.drop 4) (if ent4 l = 0 then o else st o (ent4 l) (entB l)) := by
  unfold entsL
  obtain ⟨k, hk⟩ : ∃ k, l.length = k + 1 := ⟨l.length - 1, by omega⟩
  rw [hk]
  simp only [entsF]
  rw [if_neg h]
  exact entsF_fuel st _ _ _ _ (by simp; omega) (Nat.le_refl _)
def isT (v : Value) : Nat := match v with | .bool true => 1 | _ => 0
/-- What stands in memory while entries are read. -/
structure EE (base p r q : Nat) (X wr : World) (l : List UInt8) (o : Opn) : Prop where
  o_ : OAt base wr p o
  rd : Rd wr r l
  box : wr.heap[q]? = some (.cells #[.pointer (some ⟨p, 0, none⟩)] 76 (0, 0))
  fr : Fr base p X wr
  g : FamSizes wr
theorem EE.rne {base p r q : Nat} {X wr : World} {l : List UInt8} {o : Opn} (h : EE base p r q X wr l o) : q ≠ r := by
  intro e
  obtain ⟨C, hC⟩ := h.rd.ty
  have h2 := h.box
  rw [e, hC] at h2
  simp at h2
theorem EE.beside {base p r q : Nat} {X wr w' : World} {l l' : List UInt8} {o : Opn} (h : EE base p r q X wr l o) (hr : Rd w' r l') (hb : Beside r wr w') (hX : X.heap.size ≤ r) (h0 : 0 < r) : EE base p r q X w' l' o := by
  obtain ⟨C, hC⟩ := h.rd.ty
  exact ⟨h.o_.beside hb hC (by decide), hr, (hb.block _ (lt_of_heap h.box) h.rne).trans h.box, h.fr.later (hb.below hX h.fr.size), famSizes_block h.g (hb.block 0 h.g.lt (by omega))⟩
theorem EE.below {base p r q : Nat} {X wr w' : World} {l : List UInt8} {o : Opn} (h : EE base p r q X wr l o) (hb : Below wr.heap.size wr w') : EE base p r q X w' l o :=
  ⟨h.o_.below hb, h.rd.below hb, (hb.block _ (lt_of_heap h.box)).trans h.box, h.fr.later (hb.mono h.fr.size), h.g.below hb⟩
theorem EE.turn {base p r q : Nat} {X wr w' : World} {l : List UInt8} {o o' : Opn} (h : EE base p r q X wr l o) (hf : Fr base p wr w') (ho : OAt base w' p o') (hb0 : 0 < base) (hbp : base ≤ p) : EE base p r q X w' l o' := by
  obtain ⟨C, hC⟩ := h.rd.ty
  exact ⟨ho, h.rd.fr hf (h.o_.ne hC (by decide)), hf.keep h.box (h.o_.ne h.box (by decide)) (by decide), h.fr.trans hf, h.g.fr hf hb0 (by omega)⟩
set_option maxRecDepth 100000 in
set_option maxHeartbeats 6400000 in
theorem eachEntry_any (base p r q g : Nat) (st : Opn → Int → Nat → Opn) (l0 : List UInt8) (o0 : Opn) (X w : World) (h0 : EE base p r q X w l0 o0) (hXr : X.heap.size ≤ r) (hb0 : 0 < base) (hbp : base ≤ p) (hr0 : 0 < r)
    (eg : ∀ args W, (callFunc g args).run Tryz.prog W = .ok (.enter g args) W)
    (hf : ∀ Y o (f : Int) (n : Nat), isF f = true → n < 256 → OAt base Y p o → Y.heap[q]? = some (.cells #[.pointer (some ⟨p, 0, none⟩)] 76 (0, 0)) → base ≤ Y.heap.size → Calls Tryz.prog g #[.int .i64 f, .int .u8 (n : Int), .pointer (some ⟨q, 0, none⟩)] Y fun e w' => e = .returned (.tuple #[]) ∧ OAt base w' p (st o f n) ∧ Fr base p Y w')
    (hbX : base ≤ X.heap.size) :
    Calls Tryz.prog 72 #[.pointer (some ⟨r, 0, none⟩), .func (.func g) #[] #[.pointer (some ⟨q, 0, none⟩)]] w fun e w' => e = .returned (.tuple #[]) ∧ OAt base w' p (entsL st l0 o0) ∧ Fr base p X w' := by
  have HF : Hid (_ : Prop) := hf
  have HN : Hid (X.heap.size ≤ r ∧ 0 < base ∧ base ≤ p ∧ 0 < r ∧ base ≤ X.heap.size) := ⟨hXr, hb0, hbp, hr0, hbX⟩
  have H0 : Hid (EE base p r q X w l0 o0) := h0
  clear hf h0 hXr hb0 hbp hr0 hbX
  have KN : Hid (∀ Y l o, EE base p r q X Y l o → 4 ≤ l.length → Calls Tryz.prog 54 #[.pointer (some ⟨r, 0, none⟩), .int .i64 4] Y fun e w' => e = .returned (.tuple #[.int .u64 (worth (l.take 4) : Int), .bool true]) ∧ EE base p r q X w' (l.drop 4) o) := fun Y l o hY hl => by
    refine (numR_yes r l 4 Y hY.rd (by omega) (by omega) hl).mono ?_
    rintro e w' ⟨rfl, h1, h2⟩
    exact ⟨rfl, hY.beside h1 h2 HN.out.1 HN.out.2.2.2.1⟩
  have KS : Hid (∀ Y l o, EE base p r q X Y l o → l.length < 4 → Calls Tryz.prog 54 #[.pointer (some ⟨r, 0, none⟩), .int .i64 4] Y fun e w' => e = .returned (.tuple #[.int .u64 0, .bool false]) ∧ EE base p r q X w' l o) := fun Y l o hY hl => by
    refine (numR_no r l 4 Y hY.rd (by omega) (by omega) hl).mono ?_
    rintro e w' ⟨rfl, h1, h2⟩
    exact ⟨rfl, hY.beside h1 h2 HN.out.1 HN.out.2.2.2.1⟩
  have HREL : Hid (∀ Y l o, EE base p r q X Y l o → True) := fun _ _ _ _ => trivial
  by_cases hs0 : l0.length < 4
  · go_enter Tryz.func72, Tryz.ntmps72
    go_wp2_with fail
    refine Calls.mono (KS.out w l0 o0 H0.out hs0) ?_
    rintro e w1 ⟨rfl, h1⟩
    have H1 : Hid (EE base p r q X w1 l0 o0) := h1
    have HL : Hid (entsL st l0 o0 = o0) := entsL_stop st l0 o0 hs0
    clear h1
    go_wp2
    refine wp_loop_rounds 1 ?_
    rw [rounds_succ]
    go_wp2
    go_end0
    exact ⟨rfl, by rw [HL.out]; exact H1.out.o_, H1.out.fr⟩
  · go_enter Tryz.func72, Tryz.ntmps72
    go_wp2_with fail
    refine Calls.mono (KN.out w l0 o0 H0.out (by omega)) ?_
    rintro e w1 ⟨rfl, h1⟩
    have H1 : Hid (EE base p r q X w1 (l0.drop 4) o0) := h1
    have HL0 : Hid (¬ l0.length < 4) := hs0
    clear h1 hs0 H0
    go_wp2
    go_loopw [4, 5] (fun a c wr => (∃ (l : List UInt8) (o : Opn), ¬ l.length < 4 ∧ a = .int .u64 (worth (l.take 4) : Int) ∧ c = .bool true ∧ EE base p r q X wr (l.drop 4) o ∧ entsL st l0 o0 = entsL st l o) ∨ (∃ o, c = .bool false ∧ (∃ n : Int, a = .int .u64 n) ∧ OAt base wr p o ∧ Fr base p X wr ∧ entsL st l0 o0 = o)) (fun _ c wr => leftAt wr r + isT c)
    case atStart => exact Or.inl ⟨l0, o0, HL0.out, rfl, rfl, H1.out, rfl⟩
    case round =>
      rcases hrel with ⟨l, o, hl, rfl, rfl, hee, hrun⟩ | ⟨o, rfl, ⟨n, rfl⟩, ho, hfr, hrun⟩
      · have HE : Hid (EE base p r q X wr (l.drop 4) o) := hee
        have HRUN : Hid (_ = _) := hrun
        rw [entsL_go st l o hl] at HRUN
        have hv := worth4 l
        have HV : Hid (ent4 l = fmN ((worth (l.take 4) / 65536 : Nat) : Int) ((worth (l.take 4) / 256 % 256 : Nat) : Int)) := rfl
        have HB : Hid (entB l = worth (l.take 4) % 256) := rfl
        have HFI : Hid (isF (ent4 l) = true ∨ ent4 l = 0) := by
          unfold Hid
          by_cases e : ent4 l = 0
          · exact Or.inr e
          · exact Or.inl (fmN_isF _ _ e)
        clear hee hrun hl
        generalize worth (l.take 4) = v at *
        generalize ent4 l = f at *
        generalize entB l = bb at *
        have e1 : (v : Int) / 65536 % 65536 = (v : Int) / 65536 := by omega
        have KF : Hid (∀ w1, FamSizes w1 → Calls Tryz.prog 70 #[.int .u16 ((v : Int) / 65536), .int .u8 ((v : Int) / 256 % 256)] w1 fun e w' => e = .returned (.int .i64 f) ∧ Below w1.heap.size w1 w') := fun w1 hg1 => by
          have := fam_any ((v / 65536 : Nat) : Int) ((v / 256 % 256 : Nat) : Int) w1 hg1
          rw [← HV.out] at this
          rw [show ((v / 65536 : Nat) : Int) = (v : Int) / 65536 by omega, show ((v / 256 % 256 : Nat) : Int) = (v : Int) / 256 % 256 by omega] at this
          exact this
        have HLEFT : Hid (leftAt wr r = (l.drop 4).length) := HE.out.rd.left
        generalize l.drop 4 = l2 at *
        by_cases hf : f = 0
        · rw [if_pos hf] at HRUN
          subst hf
          by_cases hs : l2.length < 4
          · have HL : Hid (entsL st l2 o = o) := entsL_stop st l2 o hs
            go_wp2_with fail
            refine Calls.mono (KF.out wr HE.out.g) ?_
            rintro e w2 ⟨rfl, hb2⟩
            have H2 : Hid (EE base p r q X w2 l2 o) := HE.out.below hb2
            clear hb2 HE
            go_wp2_with fail
            refine Calls.mono (KS.out w2 l2 o H2.out hs) ?_
            rintro e w3 ⟨rfl, h3⟩
            have H3 : Hid (EE base p r q X w3 l2 o) := h3
            clear h3 H2
            go_wp2
            go_roundw
            case rel => exact Or.inr ⟨o, rfl, ⟨_, rfl⟩, H3.out.o_, H3.out.fr, HRUN.out.trans HL.out⟩
            case measure => rw [HLEFT.out, H3.out.rd.left]; simp [isT]
          · go_wp2_with fail
            refine Calls.mono (KF.out wr HE.out.g) ?_
            rintro e w2 ⟨rfl, hb2⟩
            have H2 : Hid (EE base p r q X w2 l2 o) := HE.out.below hb2
            clear hb2 HE
            go_wp2_with fail
            refine Calls.mono (KN.out w2 l2 o H2.out (by omega)) ?_
            rintro e w3 ⟨rfl, h3⟩
            have H3 : Hid (EE base p r q X w3 (l2.drop 4) o) := h3
            clear h3 H2
            go_wp2
            go_roundw
            case rel => exact Or.inl ⟨l2, o, hs, rfl, rfl, H3.out, HRUN.out⟩
            case measure => rw [HLEFT.out, H3.out.rd.left]; simp [isT]; omega
        · rw [if_neg hf] at HRUN
          have HIF : Hid (isF f = true) := by
            rcases HFI.out with h | h
            · exact h
            · exact absurd h hf
          have hf' : (f == 0) = false := by simpa using hf
          have hf2 : (f != 0) = true := by simpa using hf
          have KT : Hid (∀ Y, EE base p r q X Y l2 o → Calls Tryz.prog g #[.int .i64 f, .int .u8 ((v : Int) % 256), .pointer (some ⟨q, 0, none⟩)] Y fun e w' => e = .returned (.tuple #[]) ∧ EE base p r q X w' l2 (st o f bb)) := fun Y hY => by
            have h := HF.out Y o f bb HIF.out (by have := HB.out; omega) hY.o_ hY.box (by have := hY.fr.size; have := HN.out; omega)
            rw [HB.out, show ((v % 256 : Nat) : Int) = (v : Int) % 256 by omega] at h
            refine h.mono ?_
            rintro e w' ⟨rfl, h1, h2⟩
            rw [← HB.out] at h1
            exact ⟨rfl, hY.turn h2 h1 HN.out.2.1 HN.out.2.2.1⟩
          clear hf
          by_cases hs : l2.length < 4
          · have HL : Hid (entsL st l2 (st o f bb) = st o f bb) := entsL_stop st l2 _ hs
            go_wp2_with fail
            refine Calls.mono (KF.out wr HE.out.g) ?_
            rintro e w2 ⟨rfl, hb2⟩
            have H2 : Hid (EE base p r q X w2 l2 o) := HE.out.below hb2
            clear hb2 HE
            go_wp2_with fail
            refine Calls.mono (KT.out w2 H2.out) ?_
            rintro e w3 ⟨rfl, h3⟩
            have H3 : Hid (EE base p r q X w3 l2 (st o f bb)) := h3
            clear h3 H2
            go_wp2_with fail
            refine Calls.mono (KS.out w3 l2 _ H3.out hs) ?_
            rintro e w4 ⟨rfl, h4⟩
            have H4 : Hid (EE base p r q X w4 l2 (st o f bb)) := h4
            clear h4 H3
            go_wp2
            go_roundw
            case rel => exact Or.inr ⟨_, rfl, ⟨_, rfl⟩, H4.out.o_, H4.out.fr, HRUN.out.trans HL.out⟩
            case measure => rw [HLEFT.out, H4.out.rd.left]; simp [isT]
          · go_wp2_with fail
            refine Calls.mono (KF.out wr HE.out.g) ?_
            rintro e w2 ⟨rfl, hb2⟩
            have H2 : Hid (EE base p r q X w2 l2 o) := HE.out.below hb2
            clear hb2 HE
            go_wp2_with fail
            refine Calls.mono (KT.out w2 H2.out) ?_
            rintro e w3 ⟨rfl, h3⟩
            have H3 : Hid (EE base p r q X w3 l2 (st o f bb)) := h3
            clear h3 H2
            go_wp2_with fail
            refine Calls.mono (KN.out w3 l2 _ H3.out (by omega)) ?_
            rintro e w4 ⟨rfl, h4⟩
            have H4 : Hid (EE base p r q X w4 (l2.drop 4) (st o f bb)) := h4
            clear h4 H3
            go_wp2
            go_roundw
            case rel => exact Or.inl ⟨l2, _, hs, rfl, rfl, H4.out, HRUN.out⟩
            case measure => rw [HLEFT.out, H4.out.rd.left]; simp [isT]; omega
      · have HE : Hid (_ ∧ _ ∧ _) := ⟨ho, hfr, hrun⟩
        clear ho hfr hrun
        go_wp2
        go_end0
        exact ⟨rfl, by rw [HE.out.2.2]; exact HE.out.1, HE.out.2.1⟩
end Go.Proofs.YtlhnfejgkhilkaaGreatDoor
