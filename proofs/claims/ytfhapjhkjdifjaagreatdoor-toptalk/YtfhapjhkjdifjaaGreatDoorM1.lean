/-
  A family's capability is taken: takeFam.
-/
import Derived.Test.YtfhapjhkjdifjaaGreatDoorLZ
import Derived.Test.YtfhapjhkjdifjaaGreatDoorFC
set_option linter.unusedVariables false
set_option linter.unusedSimpArgs false
namespace Go.Proofs.YtfhapjhkjdifjaaGreatDoor
open Go.RowKit
theorem ne_own {w : World} {base : Nat} {e : TypeId} {size : Nat} {v : Value} {n : Nat} {xs : List Value} (h : w.ownsRow base e size v n xs) {k : Nat} {C : Array Value} {t : TypeId} {fz : Nat × Nat} (hk : w.heap[k]? = some (.cells C t fz)) (ht : t ≠ e) : some k ≠ v.ownBlock := by
  intro e'
  obtain ⟨_, ⟨rfl, _⟩ | ⟨g, cap, cur, rfl, _, hgg, _⟩⟩ := h
  · cases e'
  · simp [Value.ownBlock] at e'
    subst e'
    rw [hk] at hgg
    simp at hgg
    exact ht hgg.2.1
theorem owns_grown {w w' : World} {base : Nat} {e : TypeId} {size : Nat} {v : Value} {n : Nat} {xs : List Value} {u : Value} {e2 : TypeId} {size2 n2 : Nat} {ys : List Value} (h : w.ownsRow base e size v n xs) (hu : w.ownsRow base e2 size2 u n2 ys) (hg : w.grownBy w' u.ownBlock) (ht : e ≠ e2) : w'.ownsRow base e size v n xs :=
  owns_heap' h fun g C _ hgC => hg.block g (lt_of_heap hgC) (ne_own hu hgC ht)
/-- A row of an open has turned, and nothing else. -/
theorem fr_grown {w w' : World} {base p : Nat} {e : TypeId} {size : Nat} {v : Value} {n : Nat} {xs : List Value} (h : w.ownsRow base e size v n xs) (he : e = 3 ∨ e = 108 ∨ e = 129) (hg : w.grownBy w' v.ownBlock) : Fr base p w w' :=
  ⟨hg.os, hg.tape, hg.output, hg.size, fun k hk _ hn => hg.block k hk (fun e' => by
    obtain ⟨_, ⟨rfl, _⟩ | ⟨g, cap, cur, rfl, hbg, hgg, _⟩⟩ := h
    · cases e'
    · simp [Value.ownBlock] at e'
      subst e'
      rcases hn with hn | hn
      · omega
      · have := hn cur e (0, 0) hgg
        rcases he with rfl | rfl | rfl
        · exact this.1 rfl
        · exact this.2.1 rfl
        · exact this.2.2 rfl)⟩
theorem famSizes_block {w w' : World} (h : FamSizes w) (e : w'.heap[1]? = w.heap[1]?) : FamSizes w' := by
  obtain ⟨a, b, c, d, f, g⟩ := h
  constructor
  all_goals (rw [World.cell?, e]; assumption)
theorem FamSizes.lt {w : World} (h : FamSizes w) : 1 < w.heap.size := lt_of_cell h.c0
theorem FamSizes.fr {base p : Nat} {w w' : World} (h : FamSizes w) (hf : Fr base p w w') (hb : 1 < base) (hp : 1 < p) : FamSizes w' :=
  famSizes_block h (hf.block 1 h.lt (by omega) (Or.inl hb))
theorem OAt.setF {base p : Nat} {w w' : World} {o : Opn} {vf va vk vf' : Value} {L' : List Int} (h1 : w.heap[p]? = some (.cells (opC o vf va vk) 50 (0, 0))) (h2 : w.ownsRow base 3 1 vf o.fams.length (intsC o.fams)) (h3 : w.ownsRow base 108 3 va o.adds.length (addsC o.adds)) (h4 : w.ownsRow base 129 2 vk o.kept.length (keptC o.kept)) (h5 : OpOk o)
    (hg : w.grownBy w' vf.ownBlock) (ho : w'.ownsRow base 3 1 vf' L'.length (intsC L')) (hk : risF 0 L' = true) :
    OAt base (w'.setCell ⟨p, 3, none⟩ vf') p { o with fams := L' } ∧ Fr base p w (w'.setCell ⟨p, 3, none⟩ vf') ∧ w'.heap[p]? = some (.cells (opC o vf va vk) 50 (0, 0)) := by
  have hp : w'.heap[p]? = some (.cells (opC o vf va vk) 50 (0, 0)) := (hg.block p (lt_of_heap h1) (ne_own h2 h1 (by decide))).trans h1
  have hs := heap_setCell_same w' p 3 (opC o vf va vk) 50 vf' hp
  have hb : Beside p w' (w'.setCell ⟨p, 3, none⟩ vf') := Beside.set _ _ _
  exact ⟨⟨vf', va, vk, hs, owns_beside ho hb hp (by decide), owns_beside (owns_grown h3 h2 hg (by decide)) hb hp (by decide), owns_beside (owns_grown h4 h2 hg (by decide)) hb hp (by decide), ⟨hk, h5.a, h5.k⟩⟩, (fr_grown h2 (Or.inl rfl) hg).trans (Fr.set _ _ _), hp⟩
theorem OAt.setA {base p : Nat} {w w' : World} {o : Opn} {vf va vk va' : Value} {L' : List Ad} (h1 : w.heap[p]? = some (.cells (opC o vf va vk) 50 (0, 0))) (h2 : w.ownsRow base 3 1 vf o.fams.length (intsC o.fams)) (h3 : w.ownsRow base 108 3 va o.adds.length (addsC o.adds)) (h4 : w.ownsRow base 129 2 vk o.kept.length (keptC o.kept)) (h5 : OpOk o)
    (hg : w.grownBy w' va.ownBlock) (ho : w'.ownsRow base 108 3 va' L'.length (addsC L')) (hk : risF 0 (L'.map (·.f)) = true) :
    OAt base (w'.setCell ⟨p, 6, none⟩ va') p { o with adds := L' } ∧ Fr base p w (w'.setCell ⟨p, 6, none⟩ va') ∧ w'.heap[p]? = some (.cells (opC o vf va vk) 50 (0, 0)) := by
  have hp : w'.heap[p]? = some (.cells (opC o vf va vk) 50 (0, 0)) := (hg.block p (lt_of_heap h1) (ne_own h3 h1 (by decide))).trans h1
  have hs := heap_setCell_same w' p 6 (opC o vf va vk) 50 va' hp
  have hb : Beside p w' (w'.setCell ⟨p, 6, none⟩ va') := Beside.set _ _ _
  exact ⟨⟨vf, va', vk, hs, owns_beside (owns_grown h2 h3 hg (by decide)) hb hp (by decide), owns_beside ho hb hp (by decide), owns_beside (owns_grown h4 h3 hg (by decide)) hb hp (by decide), ⟨h5.f, hk, h5.k⟩⟩, (fr_grown h3 (Or.inr (Or.inl rfl)) hg).trans (Fr.set _ _ _), hp⟩
theorem OAt.setK {base p : Nat} {w w' : World} {o : Opn} {vf va vk vk' : Value} {L' : List Kp} (h1 : w.heap[p]? = some (.cells (opC o vf va vk) 50 (0, 0))) (h2 : w.ownsRow base 3 1 vf o.fams.length (intsC o.fams)) (h3 : w.ownsRow base 108 3 va o.adds.length (addsC o.adds)) (h4 : w.ownsRow base 129 2 vk o.kept.length (keptC o.kept)) (h5 : OpOk o)
    (hg : w.grownBy w' vk.ownBlock) (ho : w'.ownsRow base 129 2 vk' L'.length (keptC L')) (hk : risF 0 (L'.map (·.f)) = true) :
    OAt base (w'.setCell ⟨p, 10, none⟩ vk') p { o with kept := L' } ∧ Fr base p w (w'.setCell ⟨p, 10, none⟩ vk') ∧ w'.heap[p]? = some (.cells (opC o vf va vk) 50 (0, 0)) := by
  have hp : w'.heap[p]? = some (.cells (opC o vf va vk) 50 (0, 0)) := (hg.block p (lt_of_heap h1) (ne_own h4 h1 (by decide))).trans h1
  have hs := heap_setCell_same w' p 10 (opC o vf va vk) 50 vk' hp
  have hb : Beside p w' (w'.setCell ⟨p, 10, none⟩ vk') := Beside.set _ _ _
  exact ⟨⟨vf, va, vk', hs, owns_beside (owns_grown h2 h4 hg (by decide)) hb hp (by decide), owns_beside (owns_grown h3 h4 hg (by decide)) hb hp (by decide), owns_beside ho hb hp (by decide), ⟨h5.f, h5.a, hk⟩⟩, (fr_grown h4 (Or.inr (Or.inr rfl)) hg).trans (Fr.set _ _ _), hp⟩
/-- The family of a capability's four bytes. -/
def fam4 (v : List UInt8) : Int := fmN ((worth (v.take 4) / 65536 : Nat) : Int) ((worth (v.take 4) % 256 : Nat) : Int)
def famsI (L : List Int) (v : List UInt8) : List Int := if fam4 v = 0 then L else plA id L (fam4 v)
theorem worth4 (l : List UInt8) : worth (l.take 4) < 4294967296 := by
  have := worth_lt (l.take 4)
  have hl : (l.take 4).length ≤ 4 := by simp; omega
  exact Nat.lt_of_lt_of_le this (Nat.le_trans (Nat.pow_le_pow_right (by omega) hl) (by decide))
set_option maxHeartbeats 3200000 in
set_option maxRecDepth 100000 in
theorem takeFam_any (base p r : Nat) (o : Opn) (l : List UInt8) (X w : World) (ho : OAt base w p o) (hr : Rd w r l) (hl : 4 ≤ l.length) (hg : FamSizes w) (hb0 : 1 < base) (hbp : base ≤ p) (hX : Fr base p X w) (hXr : X.heap.size ≤ r) (hbX : base ≤ X.heap.size) :
    Calls Tryz.prog 56 #[.pointer (some ⟨p, 0, none⟩), .pointer (some ⟨r, 0, none⟩)] w fun e w' => e = .returned (.tuple #[]) ∧ OAt base w' p { o with fams := famsI o.fams l } ∧ Fr base p X w' := by
  have K1 : Hid (_ : Prop) := numR_yes r l 4 w hr (by omega) (by omega) hl
  obtain ⟨C, hC⟩ := hr.ty
  have HT : Hid (_ = _) := hC
  have HO : Hid (OAt base w p o) := ho
  have HG : Hid (FamSizes w) := hg
  have HX : Hid (Fr base p X w) := hX
  have HXR : Hid (X.heap.size ≤ r ∧ base ≤ X.heap.size ∧ 1 < base ∧ base ≤ p) := ⟨hXr, hbX, hb0, hbp⟩
  have hw4 := worth4 l
  have HF4 : Hid (fam4 l = fmN ((worth (l.take 4) / 65536 : Nat) : Int) ((worth (l.take 4) % 256 : Nat) : Int)) := rfl
  have HFI : Hid (isF (fam4 l) = true ∨ fam4 l = 0) := by
    unfold Hid
    by_cases e : fam4 l = 0
    · exact Or.inr e
    · exact Or.inl (fmN_isF _ _ e)
  have HFA : Hid (famsI o.fams l = if fam4 l = 0 then o.fams else plA id o.fams (fam4 l)) := rfl
  generalize famsI o.fams l = FA at *
  generalize worth (l.take 4) = v at *
  generalize fam4 l = f at *
  clear hr hC ho hg hX hXr hbX hl hb0 hbp
  have e1 : (v : Int) / 65536 % 65536 = (v : Int) / 65536 := by omega
  have KF : Hid (∀ w1, FamSizes w1 → Calls Tryz.prog 43 #[.int .u16 ((v : Int) / 65536), .int .u8 ((v : Int) % 256)] w1 fun e w' => e = .returned (.int .i64 f) ∧ Below w1.heap.size w1 w') := fun w1 hg1 => by
    have := fam_any ((v / 65536 : Nat) : Int) ((v % 256 : Nat) : Int) w1 hg1
    rw [← HF4.out] at this
    rw [show ((v / 65536 : Nat) : Int) = (v : Int) / 65536 by omega, show ((v % 256 : Nat) : Int) = (v : Int) % 256 by omega] at this
    exact this
  by_cases hf : f = 0
  · have HFE : Hid (FA = o.fams) := by unfold Hid; rw [HFA.out, if_pos hf]
    subst hf
    go_enter Tryz.func56, Tryz.ntmps56
    go_wp2_with fail
    refine Calls.mono K1.out ?_
    rintro e w1 ⟨rfl, hr1, hb1⟩
    have HO1 : Hid (OAt base w1 p o) := HO.out.beside hb1 HT.out (by decide)
    have HX1 : Hid (Fr base p X w1) := HX.out.later (hb1.below HXR.out.1 HX.out.size)
    have HG1 : Hid (FamSizes w1) := famSizes_block HG.out (hb1.block 1 HG.out.lt (by have := HXR.out; omega))
    clear hr1 hb1 K1 HO HX HG HT
    go_wp2_with fail
    refine Calls.mono (KF.out w1 HG1.out) ?_
    rintro e w2 ⟨rfl, hb2⟩
    have HO2 : Hid (OAt base w2 p o) := HO1.out.below hb2
    have HX2 : Hid (Fr base p X w2) := HX1.out.later (hb2.mono HX1.out.size)
    clear hb2
    go_wp2
    go_end0
    exact ⟨rfl, by rw [HFE.out]; exact HO2.out, HX2.out⟩
  · have HFE : Hid (FA = plA id o.fams f) := by unfold Hid; rw [HFA.out, if_neg hf]
    have HIF : Hid (isF f = true) := by
      rcases HFI.out with h | h
      · exact h
      · exact absurd h hf
    have hf' : (f == 0) = false := by simpa using hf
    have hf2 : (f != 0) = true := by simpa using hf
    clear hf
    go_enter Tryz.func56, Tryz.ntmps56
    go_wp2_with fail
    refine Calls.mono K1.out ?_
    rintro e w1 ⟨rfl, hr1, hb1⟩
    have HO1 : Hid (OAt base w1 p o) := HO.out.beside hb1 HT.out (by decide)
    have HX1 : Hid (Fr base p X w1) := HX.out.later (hb1.below HXR.out.1 HX.out.size)
    have HG1 : Hid (FamSizes w1) := famSizes_block HG.out (hb1.block 1 HG.out.lt (by have := HXR.out; omega))
    clear hr1 hb1 K1 HO HX HG HT
    go_wp2_with fail
    refine Calls.mono (KF.out w1 HG1.out) ?_
    rintro e w2 ⟨rfl, hb2⟩
    have HO2 : Hid (OAt base w2 p o) := HO1.out.below hb2
    have HX2 : Hid (Fr base p X w2) := HX1.out.later (hb2.mono HX1.out.size)
    clear hb2 HO1 HX1 HG1
    obtain ⟨vf, va, vk, h1, h2, h3, h4, h5⟩ := HO2.out
    have KP : Hid (_ : Prop) := placed_int base vf o.fams f w2 h2 (by have := HX2.out.size; have := HXR.out; omega) (srt_of h5.f) (by have := len_of h5.f; omega)
    have HALL : Hid (_ ∧ _ ∧ _ ∧ _ ∧ _) := ⟨h1, h2, h3, h4, h5⟩
    have c3 : w2.cell? ⟨p, 3, none⟩ = some vf := cl_row h1 rfl
    clear h1 h2 h3 h4 h5 HO2
    go_wp2_with fail
    refine Calls.mono KP.out ?_
    rintro e w3 ⟨vf', rfl, ho3, hg3⟩
    obtain ⟨hO, hF, hP⟩ := OAt.setF HALL.out.1 HALL.out.2.1 HALL.out.2.2.1 HALL.out.2.2.2.1 HALL.out.2.2.2.2 hg3 ho3 (ris_plA HALL.out.2.2.2.2.f HIF.out)
    have k3 : w3.cell? ⟨p, 3, none⟩ = some vf := cl_row hP rfl
    have f3 := fz_row (i := 3) hP
    have HEND : Hid (_ ∧ _) := ⟨hO, HX2.out.trans hF⟩
    obtain ⟨ad', c', rfl⟩ := slice_of_owns ho3
    clear hO hF hP ho3 hg3 c3 HALL HX2
    go_wp2
    go_end0
    exact ⟨rfl, by rw [HFE.out]; exact HEND.out.1, HEND.out.2⟩
end Go.Proofs.YtfhapjhkjdifjaaGreatDoor
