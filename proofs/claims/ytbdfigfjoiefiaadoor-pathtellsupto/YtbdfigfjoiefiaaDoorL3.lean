/-
  PathTells answers true.
-/
import Derived.Test.YtbdfigfjoiefiaaDoorQ2
import Derived.Test.YtbdfigfjoiefiaaDoorQ3
import Derived.Test.YtbdfigfjoiefiaaDoorO4
import Derived.Test.YtbdfigfjoiefiaaDoorI1
namespace Go.Proofs.YtbdfigfjoiefiaaDoor
open Go.RowKit
theorem owns_heap {w w' : World} {base : Nat} {e : TypeId} {size : Nat} {v : Value} {n : Nat} {xs : List Value} (h : w.ownsRow base e size v n xs) (hh : ∀ g, v.ownBlock = some g → w'.heap[g]? = w.heap[g]?) : w'.ownsRow base e size v n xs := by
  obtain ⟨h0, h | ⟨g, cap, cur, rfl, hg, hk, r⟩⟩ := h
  · exact ⟨h0, Or.inl h⟩
  · exact ⟨h0, Or.inr ⟨g, cap, cur, rfl, hg, (hh g rfl).trans hk, r⟩⟩
/-- ASs that may be written. -/
def Wri (w : World) (g n : Nat) : Prop := ∀ j, j < n → ∃ x, w.cell? ⟨g, j, none⟩ = some (.int .u32 x) ∧ w.frozen? ⟨g, j, none⟩ = false
theorem Wri.put {w : World} {g n : Nat} (h : Wri w g n) (k : Nat) : Wri (w.setCell ⟨g, k, none⟩ (.int .u32 77)) g n := by
  intro j hj
  obtain ⟨x, hx, hf⟩ := h j hj
  by_cases e : k = j
  · subst e; exact ⟨77, World.cell?_setCell_same _ _ _ hx, by rw [World.frozen?_setCell]; exact hf⟩
  · exact ⟨x, by rw [World.cell?_setCell_other _ _ _ _ (by intro h; injection h; omega)]; exact hx, by rw [World.frozen?_setCell]; exact hf⟩
theorem OwnU.wri {w : World} {base g c : Nat} {l : List Nat} (h : OwnU w base (.slice (some ⟨g, 0, none⟩) l.length c) l) : Wri w g l.length := by
  intro j hj
  have ha := h.at
  obtain ⟨⟨_, hv⟩, _, _⟩ := h
  rcases hv with ⟨h0, _⟩ | ⟨g', cap, cur, e, _, hh, _⟩
  · simp at h0
  · simp only [Value.slice.injEq, Option.some.injEq, Addr.mk.injEq, and_true] at e
    obtain ⟨rfl, _⟩ := e
    obtain ⟨ad', b', off', cap', e', had, _, hr⟩ := ha
    simp only [Value.slice.injEq] at e'
    obtain ⟨rfl, _, rfl⟩ := e'
    obtain ⟨rfl, rfl⟩ : g = b' ∧ 0 = off' := by
      rcases had with h | h
      · simpa using h
      · omega
    exact ⟨_, by have := (hr j hj).1; rwa [Nat.zero_add] at this, frozen_row' hh j⟩
set_option maxRecDepth 100000 in
set_option maxHeartbeats 1600000 in
theorem pt_any (va : Value) (L : List Sg) (a : Nat) (w : World) (ha : PathAt w va L) (hsm : ∀ s ∈ L, s.2.length ≤ 1048576) (ht : Tabs w) :
    Calls Tryd.prog 3 #[va, .int .u32 (a : Int)] w fun e w' => e = .returned (.bool true) ∧ Below w.heap.size w w' := by
  obtain ⟨ad, n, cap, rfl⟩ := ha.slice
  have HA : Hid (PathAt _ _ _) := ha
  have HT : Hid (Tabs _) := ht
  have HSM : Hid (∀ s ∈ L.take 20, s.2.length ≤ 1048576) := fun s hs => hsm s (List.mem_of_mem_take hs)
  clear ha ht hsm
  go_enter Tryd.func3, Tryd.ntmps3
  go_wp2_with fail
  refine (cut_any ad n cap L w HA.out).mono ?_
  rintro e w1 ⟨⟨v1, rfl, h1, h20⟩, hw⟩
  obtain rfl : w = w1 := hw.symm
  clear hw
  obtain ⟨a1, n1, c1, rfl⟩ := h1.slice
  have H1 : Hid (PathAt _ _ _) := h1
  clear h1 HA
  generalize L.take 20 = A at *
  go_wp2_with fail
  refine (ownAll_any _ A w H1.out).mono ?_
  rintro e w2 ⟨v2, R, rfl, hR, ho, hb2⟩
  have h2 := ho.at
  rw [hR] at h2
  obtain ⟨a2, n2, c2, rfl⟩ := h2.slice
  have P2 : Hid (PathAt _ _ _) := h2
  have P1 : Hid (PathAt _ _ _) := H1.out.below hb2
  have B2 : Hid (Below _ _ _) := hb2
  clear h2 ho hb2 H1 hR
  have C2 : Hid (Below w2.heap.size w2 w2) := Below.refl _ _
  go_wp2_with fail
  refine (first_any _ A w2 P2.out).mono ?_
  rintro e w3 ⟨rfl, hb⟩
  have C3 : Hid (Below w2.heap.size w2 w3) := hb
  clear hb C2
  go_wp2_with fail
  refine (rfirst_any _ A w3 (P1.out.below C3.out)).mono ?_
  rintro e w4 ⟨rfl, hb⟩
  have C4 : Hid (Below w2.heap.size w2 w4) := C3.out.trans (hb.mono C3.out.size)
  clear hb C3
  generalize (firstOf A).1 = x1 at *
  generalize (firstOf A).2 = x2 at *
  go_wp2_with fail
  refine (check_any _ A w4 (P2.out.below C4.out)).mono ?_
  rintro e w5 ⟨rfl, hb⟩
  have C5 : Hid (Below w2.heap.size w2 w5) := C4.out.trans (hb.mono C4.out.size)
  clear hb C4
  go_wp2_with fail
  refine (rcheck_any _ A w5 (P1.out.below C5.out)).mono ?_
  rintro e w6 ⟨rfl, hw⟩
  obtain rfl : w5 = w6 := hw.symm
  clear hw
  generalize chkOf A = x3 at *
  go_wp2_with fail
  refine (length_any _ A w5 (P2.out.below C5.out) (by omega)).mono ?_
  rintro e w6 ⟨rfl, hb⟩
  have C6 : Hid (Below w2.heap.size w2 w6) := C5.out.trans (hb.mono C5.out.size)
  clear hb C5
  go_wp2_with fail
  refine (rlength_any _ A w6 (P1.out.below C6.out) (by omega)).mono ?_
  rintro e w7 ⟨rfl, hw⟩
  obtain rfl : w6 = w7 := hw.symm
  clear hw
  generalize lenOf A = x4 at *
  go_wp2_with fail
  refine (has_any _ A a w6 (P2.out.below C6.out)).mono ?_
  rintro e w7 ⟨rfl, hb⟩
  have C7 : Hid (Below w2.heap.size w2 w7) := C6.out.trans (hb.mono C6.out.size)
  clear hb C6
  go_wp2_with fail
  refine (rhas_any _ A a w7 (P1.out.below C7.out) h20 HSM.out).mono ?_
  rintro e w8 ⟨rfl, hb⟩
  have C8 : Hid (Below w2.heap.size w2 w8) := C7.out.trans (hb.mono C7.out.size)
  clear hb C7
  generalize decide (a ∈ flatOf A) = x5 at *
  go_wp2_with fail
  refine (bare_any _ A w8 (P2.out.below C8.out) (by omega)).mono ?_
  rintro e w9 ⟨vb, Rb, rfl, hRb, hob, hb⟩
  obtain ⟨ab, cb, rfl⟩ := slice_of_owns hob.1
  have HV0 : Hid (∀ b, (Value.slice ab Rb.length cb).ownBlock = some b → b < w9.heap.size) := fun b e => (hob.1.lt b e).2
  have HM : Hid (∀ r ∈ Rb, ∀ b, r.2.1.ownBlock = some b → b < w9.heap.size) := fun r hr b e => ((hob.2.1 r hr).1.lt b e).2
  have HOB : Hid (OwnS w9 w8.heap.size _ Rb) := hob
  have HRB : Hid (sgs Rb = bareOf A) := hRb
  have C9 : Hid (Below w2.heap.size w2 w9) := C8.out.trans (hb.mono C8.out.size)
  have h89 := hb.size
  clear hb hob hRb
  go_wp2_with fail
  refine (flat_any _ A w9 (P2.out.below C9.out) h20 HSM.out).mono ?_
  rintro e w10 ⟨vf, rfl, hof, hb⟩
  obtain ⟨af, cf, rfl⟩ := slice_of_owns hof.1
  have HOF : Hid (OwnU w10 w9.heap.size _ (flatOf A)) := hof
  have HOB10 : Hid (OwnS w10 w8.heap.size _ Rb) := HOB.out.below hb
  have C10 : Hid (Below w2.heap.size w2 w10) := C9.out.trans (hb.mono C9.out.size)
  clear hb hof HOB
  go_wp2_with fail
  refine (rbare_any _ A w10 (P1.out.below C10.out)).mono ?_
  rintro e w11 ⟨vr, Rr, rfl, hRr, hor, hb⟩
  obtain ⟨ar, cr, rfl⟩ := slice_of_owns hor.1
  have PR : Hid (PathAt w11 (.slice ar Rr.length cr) (bareOf A)) := by unfold Hid; rw [← hRr]; exact hor.at
  have HOB11 : Hid (OwnS w11 w8.heap.size _ Rb) := HOB10.out.below hb
  have HOF11 : Hid (OwnU w11 w9.heap.size _ (flatOf A)) := HOF.out.below hb
  have C11 : Hid (Below w2.heap.size w2 w11) := C10.out.trans (hb.mono C10.out.size)
  have PB : Hid (PathAt w11 (.slice ab Rb.length cb) (bareOf A)) := by unfold Hid; rw [← HRB.out]; exact HOB11.out.at
  clear hb hRr hor HOB10 HOF C10
  go_wp2_with fail
  refine (rsame_any _ _ (bareOf A) (bareOf A) w11 PB.out PR.out).mono ?_
  rintro e w12 ⟨rfl, hb⟩
  rw [show decide (bareOf A = bareOf A) = true by simp]
  have HOB12 : Hid (OwnS w12 w8.heap.size _ Rb) := HOB11.out.below hb
  have HOF12 : Hid (OwnU w12 w9.heap.size _ (flatOf A)) := HOF11.out.below hb
  have C12 : Hid (Below w2.heap.size w2 w12) := C11.out.trans (hb.mono C11.out.size)
  clear hb PB PR HOB11 HOF11 C11
  go_wp2_with fail
  refine (rflat_any _ A w12 (P1.out.below C12.out) h20 HSM.out).mono ?_
  rintro e w13 ⟨vg, rfl, hog, hb⟩
  obtain ⟨ag, cg, rfl⟩ := slice_of_owns hog.1
  have HOG : Hid (ASAt w13 _ (flatOf A)) := hog.at
  have HOB13 : Hid (OwnS w13 w8.heap.size _ Rb) := HOB12.out.below hb
  have HOF13 : Hid (OwnU w13 w9.heap.size _ (flatOf A)) := HOF12.out.below hb
  have C13 : Hid (Below w2.heap.size w2 w13) := C12.out.trans (hb.mono C12.out.size)
  clear hb hog HOB12 HOF12 C12
  go_wp2_with fail
  refine (sameAS_any _ _ (flatOf A) (flatOf A) w13 HOF13.out.at HOG.out).mono ?_
  rintro e w14 ⟨rfl, hb⟩
  rw [show decide (flatOf A = flatOf A) = true by simp]
  have HOB14 : Hid (OwnS w14 w8.heap.size _ Rb) := HOB13.out.below hb
  have HOF14 : Hid (OwnU w14 w9.heap.size _ (flatOf A)) := HOF13.out.below hb
  have C14 : Hid (Below w2.heap.size w2 w14) := C13.out.trans (hb.mono C13.out.size)
  clear hb HOG HOB13 HOF13 C13
  go_wp2_with fail
  refine (spoil_abv _ w14 w8.heap.size w9.heap.size Rb HOB14.out HV0.out HM.out).mono ?_
  rintro e w15 ⟨rfl, hb, habv⟩
  have h28 := C8.out.size
  have C15 : Hid (Below w2.heap.size w2 w15) := C14.out.trans (hb.mono h28)
  have HOF15 : Hid (OwnU w15 w9.heap.size (.slice af (flatOf A).length cf) (flatOf A)) := ⟨owns_heap HOF14.out.1 (fun g e => habv g (HOF14.out.1.lt g e).1), HOF14.out.2⟩
  have hFl := HOF15.out.2.2
  clear hb habv HOB14 HOF14 C14 HV0 HM HRB C8 C9
  have fin : ∀ W, Below w2.heap.size w2 W → PathAt W (.slice a2 n2 c2) A ∧ PathAt W (.slice a1 n1 c1) A ∧ Below w.heap.size w W := fun W hW => ⟨P2.out.below hW, P1.out.below hW, B2.out.trans (hW.mono B2.out.size)⟩
  have FIN : Hid (_ : Prop) := fin
  have hex : ∃ g, 0 < (flatOf A).length → af = some ⟨g, 0, none⟩ ∧ w9.heap.size ≤ g ∧ Wri w15 g (flatOf A).length := by
    have ho := HOF15.out
    rcases ho.1.2 with ⟨h, h0⟩ | ⟨g, cap, cur, e, hg, _⟩
    · exact ⟨0, fun h1 => by omega⟩
    · simp only [Value.slice.injEq] at e
      obtain ⟨rfl, _, rfl⟩ := e
      exact ⟨g, fun _ => ⟨rfl, hg, ho.wri⟩⟩
  obtain ⟨g, hgw⟩ := hex
  generalize flatOf A = F at *
  have HGW : Hid (_ : Prop) := hgw
  clear fin hgw HOF15 P1 P2 B2
  go_wp2
  go_loopw [12] (fun i wr => ∃ n : Nat, n ≤ F.length ∧ i = .int .i64 n ∧ (0 < F.length → Wri wr g F.length) ∧ Below w2.heap.size w2 wr) (fun i _ => F.length - (intOf i).toNat)
  case atStart => exact ⟨0, Nat.zero_le _, rfl, fun h => (HGW.out h).2.2, C15.out⟩
  case round =>
    obtain ⟨k, hk, rfl, hwr, hb⟩ := hrel
    by_cases hlt : k < F.length
    · obtain ⟨rfl, hg9, _⟩ := HGW.out (by omega)
      obtain ⟨x, hx, hf⟩ := hwr (by omega) k hlt
      have HW2 : Hid (0 < F.length → Wri (wr.setCell ⟨g, k, none⟩ (.int .u32 77)) g F.length) := fun h => (hwr h).put k
      have HB2 : Hid (Below w2.heap.size w2 (wr.setCell ⟨g, k, none⟩ (.int .u32 77))) := hb.setCell (by show w2.heap.size ≤ g; omega) _
      clear hwr hb
      go_wp2
      go_roundw
      case rel => exact ⟨k + 1, by omega, by go_num, HW2.out, HB2.out⟩
      case measure => simp [intOf]; omega
    · obtain rfl : k = F.length := by omega
      obtain ⟨q1, q2, q3⟩ := FIN.out wr hb
      have Q1 : Hid (PathAt _ _ _) := q1
      have Q2 : Hid (PathAt _ _ _) := q2
      have Q3 : Hid (Below _ _ _) := q3
      clear hwr hb q1 q2 q3
      go_wp2_with fail
      refine (rsame_any _ _ A A wr Q1.out Q2.out).mono ?_
      rintro e w17 ⟨rfl, hb⟩
      have B7 : Hid (Below w.heap.size w w17) := Q3.out.trans (hb.mono Q3.out.size)
      clear hb
      rw [show decide (A = A) = true by simp]
      go_wp2_with fail
      refine (works_any w17 (HT.out.below B7.out)).mono ?_
      rintro e w18 ⟨rfl, hb8⟩
      have hB8 := B7.out.trans (hb8.mono B7.out.size)
      clear hb8
      go_wp2
      go_ret
      exact ⟨rfl, hB8⟩
end Go.Proofs.YtbdfigfjoiefiaaDoor
