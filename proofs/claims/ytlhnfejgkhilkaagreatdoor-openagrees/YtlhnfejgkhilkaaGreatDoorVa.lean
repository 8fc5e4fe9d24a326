/-
  The reference's Check: the first line, and the loop over families.
-/
import Derived.Test.YtlhnfejgkhilkaaGreatDoorO3
import Derived.BigQuiet
import Derived.Deep.QuietTactic
import Derived.LoopN
set_option linter.unusedVariables false
set_option linter.unusedSimpArgs false
namespace Go.Proofs.YtlhnfejgkhilkaaGreatDoor
open Go.RowKit
theorem rfam_yes (f : Int) (h : isF f = true) (w : World) : Calls Tryz.prog 37 #[.int .i64 f] w fun e w' => e = .returned (.bool true) ∧ w' = w := by
  have hb := isF_bd h
  obtain ⟨h1, h2⟩ := hb
  clear h
  go_enter Tryz.func37, Tryz.ntmps37
  go_wp2
  go_ret
  exact ⟨rfl, rfl⟩
theorem rfam_no (f : Int) (h : isF f = false) (w : World) : Calls Tryz.prog 37 #[.int .i64 f] w fun e w' => e = .returned (.bool false) ∧ w' = w := by
  by_cases h1 : 1 ≤ f
  · have h2 : decide (f ≤ 5) = false := by
      unfold isF at h
      simp at h ⊢
      exact h h1
    clear h
    go_enter Tryz.func37, Tryz.ntmps37
    go_wp2
    go_ret
    exact ⟨rfl, rfl⟩
  · have h1' : decide (1 ≤ f) = false := by simpa using h1
    clear h
    go_enter Tryz.func37, Tryz.ntmps37
    go_wp2
    go_ret
    exact ⟨rfl, rfl⟩
/-- What the first line of the reference's Check asks. -/
def bad1 (o : Opn) : Bool := o.asn == 0 || (!o.four && decide (65535 < o.asn)) || decide (o.hold < 0) || o.hold == 1 || o.hold == 2 || decide (65535 < o.hold) || o.id == 0 || o.fams.length == 0
set_option maxRecDepth 100000 in
set_option maxHeartbeats 6400000 in
theorem rcheck_bad1 (o : Opn) (vf va vk : Value) (w : World) (h : ListsAt w o vf va vk) (hm : bad1 o = true) :
    Calls Tryz.prog 18 #[opV o vf va vk] w fun e w' => e = .returned (.int .i64 2) ∧ Below w.heap.size w w' := by
  obtain ⟨a1, k1, rfl⟩ := h.f.len
  have HB : Hid (Below w.heap.size w (w.alloc (.cells (opC o (.slice a1 o.fams.length k1) va vk) 27))) := (Below.refl _ _).alloc (Nat.le_refl _) _
  obtain ⟨asn, hold, id, fams, four, refr, adds, gr, again, time, kept⟩ := o
  unfold bad1 at hm
  unfold opC at HB
  unfold opV opC
  dsimp only at *
  clear h
  generalize fams.length = nf at *
  by_cases e1 : asn = 0
  · subst e1
    clear hm
    go_enter Tryz.func18, Tryz.ntmps18
    go_wp2
    go_ret
    exact ⟨rfl, HB.out⟩
  have b1 : (asn == 0) = false := by simpa using e1
  rw [b1] at hm
  have hor : (four = true) ∨ (four = false ∧ ¬ 65535 < asn) ∨ (four = false ∧ 65535 < asn) := by
    cases four
    · by_cases h : 65535 < asn
      · exact Or.inr (Or.inr ⟨rfl, h⟩)
      · exact Or.inr (Or.inl ⟨rfl, h⟩)
    · exact Or.inl rfl
  have hrest : (four = false ∧ 65535 < asn) ∨ ((four = true ∨ (four = false ∧ ¬ 65535 < asn)) ∧ (hold < 0 ∨ hold = 1 ∨ hold = 2 ∨ 65535 < hold ∨ id = 0 ∨ nf = 0)) := by
    simp at hm
    rcases hor with h | h | h
    · subst h; simp at hm; exact Or.inr ⟨Or.inl rfl, by omega⟩
    · obtain ⟨rfl, h2⟩ := h; exact Or.inr ⟨Or.inr ⟨rfl, h2⟩, by omega⟩
    · exact Or.inl h
  clear hm hor e1
  rcases hrest with ⟨rfl, h2⟩ | ⟨hf, hc⟩
  · go_enter Tryz.func18, Tryz.ntmps18
    go_wp2
    go_ret
    exact ⟨rfl, HB.out⟩
  · by_cases c1 : hold < 0
    · rcases hf with rfl | ⟨rfl, h65⟩ <;>
      · go_enter Tryz.func18, Tryz.ntmps18
        go_wp2
        go_ret
        exact ⟨rfl, HB.out⟩
    by_cases c2 : hold = 1
    · subst c2
      rcases hf with rfl | ⟨rfl, h65⟩ <;>
      · go_enter Tryz.func18, Tryz.ntmps18
        go_wp2
        go_ret
        exact ⟨rfl, HB.out⟩
    by_cases c3 : hold = 2
    · subst c3
      rcases hf with rfl | ⟨rfl, h65⟩ <;>
      · go_enter Tryz.func18, Tryz.ntmps18
        go_wp2
        go_ret
        exact ⟨rfl, HB.out⟩
    have d2 : (hold == 1) = false := by simpa using c2
    have d3 : (hold == 2) = false := by simpa using c3
    by_cases c4 : 65535 < hold
    · rcases hf with rfl | ⟨rfl, h65⟩ <;>
      · go_enter Tryz.func18, Tryz.ntmps18
        go_wp2
        go_ret
        exact ⟨rfl, HB.out⟩
    by_cases c5 : id = 0
    · subst c5
      rcases hf with rfl | ⟨rfl, h65⟩ <;>
      · go_enter Tryz.func18, Tryz.ntmps18
        go_wp2
        go_ret
        exact ⟨rfl, HB.out⟩
    have d5 : (id == 0) = false := by simpa using c5
    obtain rfl : nf = 0 := by omega
    rcases hf with rfl | ⟨rfl, h65⟩ <;>
    · go_enter Tryz.func18, Tryz.ntmps18
      go_wp2
      go_ret
      exact ⟨rfl, HB.out⟩
end Go.Proofs.YtlhnfejgkhilkaaGreatDoor

set_option linter.unusedVariables false
set_option linter.unusedSimpArgs false
namespace Go.Proofs.YtlhnfejgkhilkaaGreatDoor
open Go.RowKit
/-- What stands in memory: the boxed open, and what is below. -/
structure CkAt (w wr : World) (C : Array Value) : Prop where
  row : wr.heap[w.heap.size]? = some (.cells C 27 (0, 0))
  bel : Below w.heap.size w wr
theorem CkAt.later {w wr w' : World} {C : Array Value} (h : CkAt w wr C) (hb : Below wr.heap.size wr w') : CkAt w w' C :=
  ⟨(hb.block _ (lt_of_heap h.row)).trans h.row, h.bel.trans (hb.mono h.bel.size)⟩
theorem CkAt.drewN {w wr : World} {C : Array Value} (h : CkAt w wr C) (n : Nat) : CkAt w (wr.drewN n) C := h.later (below_drewN (Below.refl _ _) n)
/-- The round's fact of a list that rises so far: the next entry, and the one ahead of it. -/
def UpTo (K : List Int) (k : Nat) (l : Int) : Prop := k ≤ K.length ∧ (k : Int) ≤ l ∧ l ≤ 5 ∧ risF 0 K = risF l (K.drop k) ∧ (k = 0 → l = 0) ∧ ∀ (h : 0 < k) (h2 : k - 1 < K.length), K[k - 1] = l
theorem UpTo.start (K : List Int) : UpTo K 0 0 := ⟨Nat.zero_le _, by omega, by omega, rfl, fun _ => rfl, fun h => absurd h (by omega)⟩
theorem UpTo.next {K : List Int} {k : Nat} {l : Int} (h : UpTo K k l) (hk : k < K.length) (hf : isF K[k] = true) (hl : l < K[k]) : UpTo K (k + 1) K[k] := by
  obtain ⟨h1, h2, h3, h4, h5, h6⟩ := h
  have hb := isF_bd hf
  refine ⟨by omega, by omega, hb.2, ?_, fun e => absurd e (by omega), fun _ h2 => rfl⟩
  rw [h4, risF_drop l K k hk, hf, decide_eq_true hl]
  rfl
theorem UpTo.stop {K : List Int} {k : Nat} {l : Int} (h : UpTo K k l) (hk : k < K.length) (hf : isF K[k] = false ∨ K[k] ≤ l) : risF 0 K = false := by
  rw [h.2.2.2.1, risF_drop l K k hk]
  rcases hf with hf | hf
  · rw [hf]; rfl
  · rw [decide_eq_false (by omega)]; simp
theorem UpTo.done {K : List Int} {k : Nat} {l : Int} (h : UpTo K k l) (hk : ¬ k < K.length) : risF 0 K = true := by
  rw [h.2.2.2.1, List.drop_eq_nil_of_le (by omega)]
  rfl
set_option maxRecDepth 100000 in
set_option maxHeartbeats 12800000 in
theorem rcheck_good (o : Opn) (vf va vk : Value) (w : World) (h : ListsAt w o vf va vk) (hm : bad1 o = false) :
    Calls Tryz.prog 18 #[opV o vf va vk] w fun e w' => e = .returned (.int .i64 (if risF 0 o.fams && risF 0 (o.adds.map (·.f)) && !(o.adds.any idleB) && restB o then 0 else 2)) ∧ Below w.heap.size w w' := by
  obtain ⟨fad, fb, foff, fcap, rfl, fhad, fhcap, fhrow⟩ := h.f
  obtain ⟨aad, ab, aoff, acap, rfl, ahad, ahcap, ahrow⟩ := h.a
  obtain ⟨kad, kb, koff, kcap, rfl, khad, khcap, khrow⟩ := h.k
  have hck : CkAt w (w.alloc (.cells (opC o (.slice fad o.fams.length fcap) (.slice aad o.adds.length acap) (.slice kad o.kept.length kcap)) 27)) (opC o (.slice fad o.fams.length fcap) (.slice aad o.adds.length acap) (.slice kad o.kept.length kcap)) := ⟨hp_new rfl, (Below.refl _ _).alloc (Nat.le_refl _) _⟩
  obtain ⟨R, hR⟩ : ∃ R : Int, R = (if risF 0 o.fams && risF 0 (o.adds.map (·.f)) && !(o.adds.any idleB) && restB o then 0 else 2) := ⟨_, rfl⟩
  rw [← hR]
  have HR : Hid (_ = _) := hR
  have HF : Hid (_ : Prop) := fhrow
  have HA : Hid (_ : Prop) := ahrow
  have HK : Hid (_ : Prop) := khrow
  have HC0 : Hid (CkAt _ _ _) := hck
  obtain ⟨asn, hold, id, fams, four, refr, adds, gr, again, time, kept⟩ := o
  unfold bad1 at hm
  simp only [Bool.or_eq_false_iff, Bool.and_eq_false_iff, beq_eq_false_iff_ne, decide_eq_false_iff_not] at hm
  obtain ⟨⟨⟨⟨⟨⟨⟨m1, m2⟩, m3⟩, m4⟩, m5⟩, m6⟩, m7⟩, m8⟩ := hm
  dsimp only at *
  have b1 : (asn == 0) = false := by simpa using m1
  have b4 : (hold == 1) = false := by simpa using m4
  have b5 : (hold == 2) = false := by simpa using m5
  have b7 : (id == 0) = false := by simpa using m7
  have b8 : ((fams.length : Int) == 0) = false := beq_eq_false_iff_ne.2 (by omega)
  have hfour : (four = true) ∨ (four = false ∧ ¬ 65535 < asn) := by
    rcases m2 with m2 | m2
    · exact Or.inl (by simpa using m2)
    · cases four
      · exact Or.inr ⟨rfl, m2⟩
      · exact Or.inl rfl
  unfold opC at HC0
  unfold opV opC
  dsimp only at HC0 ⊢
  clear m1 m2 m4 m5 m7 m8 hR fhrow ahrow khrow hck h
  rcases hfour with rfl | ⟨rfl, h65⟩
  all_goals
    go_enter Tryz.func18, Tryz.ntmps18
    go_wp2
    refine with_world (fun W => CkAt w W _) HC0.out ?_
    intro W0 hC0
    clear HC0
    have HCK : Hid (CkAt w W0 _) := hC0
    clear hC0
    go_loopw [3] (fun i wr => ∃ (k : Nat) (l : Int), i = .int .i64 k ∧ UpTo fams k l ∧ CkAt w wr _) (fun i _ => fams.length - (intOf i).toNat)
    case atStart => exact ⟨0, 0, rfl, UpTo.start _, HCK.out⟩
    case round =>
      obtain ⟨k, l, rfl, hup, hck⟩ := hrel
      clear HCK
      have HCK : Hid (CkAt w wr _) := hck
      have HUP : Hid (UpTo fams k l) := hup
      have c3 : wr.cell? ⟨w.heap.size, 3, none⟩ = some (.slice fad fams.length fcap) := cl_row hck.row rfl
      have hk5 : (k : Int) ≤ 5 := by have := hup.2.1; have := hup.2.2.1; omega
      have hkl : k ≤ fams.length := by have := hup.1; simpa using this
      by_cases hlt : k < fams.length
      · obtain rfl : fad = some ⟨fb, foff, none⟩ := by
          rcases fhad with h | h
          · exact h
          · omega
        have e0 := (hck.bel.cell (p := ⟨fb, foff + k, none⟩) (lt_of_cell (HF.out k hlt))).trans (HF.out k hlt)
        have HFK : Hid (∀ x, x = fams[k] → (isF x = true → l < x → UpTo fams (k + 1) x) ∧ (isF x = false ∨ x ≤ l → risF 0 fams = false)) := fun x hx => by
          subst hx
          have hlt2 : k < fams.length := by simpa using hlt
          have hel : fams[k] = fams[k] := by simp
          exact ⟨fun h1 h2 => by have := HUP.out.next hlt2 (by rw [hel]; exact h1) (by rw [hel]; exact h2); rw [hel] at this; exact this, fun h => HUP.out.stop hlt2 (by rw [hel]; exact h)⟩
        obtain ⟨f, hfe⟩ : ∃ f, f = fams[k] := ⟨_, rfl⟩
        have HFE2 : Hid (_ ∧ _) := HFK.out f hfe
        rw [← hfe] at e0
        clear HFK hck hup
        by_cases hf : isF f = true
        · have hbd := isF_bd hf
          have HIF : Hid (isF f = true) := hf
          have KF : Hid (∀ X, Calls Tryz.prog 37 #[.int .i64 f] X fun e w' => e = .returned (.bool true) ∧ w' = X) := fun X => rfam_yes f hf X
          clear hf hfe
          by_cases hk0 : k = 0
          · have hl0 := HUP.out.2.2.2.2.1 hk0
            subst hk0 hl0
            have i1 : (0 : Int) < (fams.length : Int) := by omega
            have e0' : wr.cell? ⟨fb, foff, none⟩ = some (.int .i64 f) := by have := e0; simpa using this
            clear e0
            go_wp2
            go_quiet ((go_at_call 37; exact Calls.quiet_of_same (KF.out _)))
            go_wp2
            go_roundw
            case rel => exact ⟨1, f, rfl, HFE2.out.1 HIF.out (by omega), HCK.out.drewN _⟩
            case measure => simp [intOf]; omega
          · obtain ⟨m, rfl⟩ : ∃ m, k = m + 1 := ⟨k - 1, by omega⟩
            have hml : m < fams.length := by omega
            have hgl : fams[m] = l := by
              have := HUP.out.2.2.2.2.2 (by omega) (by simpa using hml)
              simpa using this
            have e1 := (HCK.out.bel.cell (p := ⟨fb, foff + m, none⟩) (lt_of_cell (HF.out m hml))).trans (HF.out m hml)
            rw [hgl] at e1
            clear hgl hk0
            have i1 : ((m + 1 : Nat) : Int) < (fams.length : Int) := by omega
            have i2 : (m : Int) < (fams.length : Int) := by omega
            have i3 : ((m + 1 : Nat) : Int) - 1 = (m : Int) := by omega
            have i4 : (0 : Int) < ((m + 1 : Nat) : Int) := by omega
            by_cases hfl : l < f
            · have hfl' : decide (f ≤ l) = false := by simp; omega
              go_wp2
              go_quiet ((go_at_call 37; exact Calls.quiet_of_same (KF.out _)))
              go_wp2
              go_roundw
              case rel => exact ⟨m + 2, f, by go_num, HFE2.out.1 HIF.out hfl, HCK.out.drewN _⟩
              case measure => simp [intOf]; omega
            · have hfl' : f ≤ l := by omega
              have HNO : Hid (risF 0 fams = false) := HFE2.out.2 (Or.inr hfl')
              go_wp2
              go_quiet ((go_at_call 37; exact Calls.quiet_of_same (KF.out _)))
              go_wp2
              go_ret
              exact ⟨ret_int (by rw [HR.out]; rw [HNO.out]; rfl), (HCK.out.drewN _).bel⟩
        · have hf0 : isF f = false := by simpa using hf
          have KF : Hid (∀ X, Calls Tryz.prog 37 #[.int .i64 f] X fun e w' => e = .returned (.bool false) ∧ w' = X) := fun X => rfam_no f hf0 X
          have HNO : Hid (risF 0 fams = false) := HFE2.out.2 (Or.inl hf0)
          have i1 : (k : Int) < (fams.length : Int) := by omega
          clear hf hf0 hfe
          go_wp2
          go_quiet ((go_at_call 37; exact Calls.quiet_of_same (KF.out _)))
          go_wp2
          go_ret
          exact ⟨ret_int (by rw [HR.out]; rw [HNO.out]; rfl), (HCK.out.drewN _).bel⟩
      · have i1 : ¬ ((k : Int) < (fams.length : Int)) := by omega
        have HRF : Hid (risF 0 fams = true) := HUP.out.done (by simpa using hlt)
        clear HUP hup hck
        go_wp2
        have HCKb : Hid (CkAt w wr _) := HCK.out
        clear HCK c3 i1 hlt hk5 hkl
        refine with_world (fun W => CkAt w W _) HCKb.out ?_
        intro W1 hC1
        clear HCKb
        have HCK : Hid (CkAt w W1 _) := hC1
        clear hC1
        go_loopw [4] (fun i wr => ∃ (k : Nat) (l : Int), i = .int .i64 k ∧ UpTo (adds.map (·.f)) k l ∧ (adds.take k).any idleB = false ∧ CkAt w wr _) (fun i _ => adds.length - (intOf i).toNat)
        case atStart => exact ⟨0, 0, rfl, UpTo.start _, rfl, HCK.out⟩
        case round =>
          obtain ⟨k, l, rfl, hup, hni, hck⟩ := hrel
          clear HCK
          have HCK : Hid (CkAt w wr _) := hck
          have HUP : Hid (UpTo (adds.map (·.f)) k l) := hup
          have HNJ : Hid ((adds.take k).any idleB = false) := hni
          have c6 : wr.cell? ⟨w.heap.size, 6, none⟩ = some (.slice aad adds.length acap) := cl_row hck.row rfl
          have hk5 : (k : Int) ≤ 5 := by have := hup.2.1; have := hup.2.2.1; omega
          have hkl : k ≤ adds.length := by have := hup.1; simpa using this
          by_cases hlt : k < adds.length
          · obtain rfl : aad = some ⟨ab, aoff, none⟩ := by
              rcases ahad with h | h
              · exact h
              · omega
            have e0 := (hck.bel.cell (p := ⟨ab, aoff + k * 3, none⟩) (lt_of_cell (HA.out k hlt).1)).trans (HA.out k hlt).1
            have e1 := (hck.bel.cell (p := ⟨ab, aoff + k * 3 + 1, none⟩) (lt_of_cell (HA.out k hlt).2.1)).trans (HA.out k hlt).2.1
            have e2 := (hck.bel.cell (p := ⟨ab, aoff + k * 3 + 2, none⟩) (lt_of_cell (HA.out k hlt).2.2)).trans (HA.out k hlt).2.2
            have HFK : Hid (∀ x, x = adds[k].f → (isF x = true → l < x → UpTo (adds.map (·.f)) (k + 1) x) ∧ (isF x = false ∨ x ≤ l → risF 0 (adds.map (·.f)) = false)) := fun x hx => by
              subst hx
              have hlt2 : k < (adds.map (·.f)).length := by simpa using hlt
              have hel : (adds.map (·.f))[k] = adds[k].f := by simp
              exact ⟨fun h1 h2 => by have := HUP.out.next hlt2 (by rw [hel]; exact h1) (by rw [hel]; exact h2); rw [hel] at this; exact this, fun h => HUP.out.stop hlt2 (by rw [hel]; exact h)⟩
            have HID : Hid ((adds.take (k + 1)).any idleB = (!adds[k].s && !adds[k].t)) := by
              unfold Hid
              rw [List.take_succ_eq_append_getElem hlt, List.any_append, HNJ.out]
              simp [idleB]
            have HIDA : Hid (idleB adds[k] = true → adds.any idleB = true) := fun h => List.any_eq_true.2 ⟨adds[k], List.getElem_mem hlt, h⟩
            have HIDB : Hid (idleB adds[k] = (!adds[k].s && !adds[k].t)) := rfl
            obtain ⟨f, hfe⟩ : ∃ f, f = adds[k].f := ⟨_, rfl⟩
            have HFE2 : Hid (_ ∧ _) := HFK.out f hfe
            rw [← hfe] at e0
            clear HFK hck hup hfe
            generalize idleB adds[k] = zi at *
            generalize adds[k].s = s at *
            generalize adds[k].t = t at *
            have hba : Below wr.heap.size wr (wr.alloc (.cells #[.int .i64 f, .bool s, .bool t] 52)) := (Below.refl _ _).alloc (Nat.le_refl _) _
            have HCA : Hid (CkAt w (wr.alloc (.cells #[.int .i64 f, .bool s, .bool t] 52)) _) := HCK.out.later hba
            have x0 : (wr.alloc (.cells #[.int .i64 f, .bool s, .bool t] 52)).cell? ⟨wr.heap.size, 0, none⟩ = some (.int .i64 f) := by simp
            have x1 : (wr.alloc (.cells #[.int .i64 f, .bool s, .bool t] 52)).cell? ⟨wr.heap.size, 1, none⟩ = some (.bool s) := by simp
            have x2 : (wr.alloc (.cells #[.int .i64 f, .bool s, .bool t] 52)).cell? ⟨wr.heap.size, 2, none⟩ = some (.bool t) := by simp
            have c6' : (wr.alloc (.cells #[.int .i64 f, .bool s, .bool t] 52)).cell? ⟨w.heap.size, 6, none⟩ = some (.slice (some ⟨ab, aoff, none⟩) adds.length acap) := below_cell hba c6
            have i1 : (k : Int) < (adds.length : Int) := by omega
            by_cases hf : isF f = true
            · have hbd := isF_bd hf
              have HIF : Hid (isF f = true) := hf
              have KF : Hid (∀ X, Calls Tryz.prog 37 #[.int .i64 f] X fun e w' => e = .returned (.bool true) ∧ w' = X) := fun X => rfam_yes f hf X
              clear hf
              by_cases hk0 : k = 0
              · have hl0 := HUP.out.2.2.2.2.1 hk0
                subst hk0 hl0
                have y0 : wr.cell? ⟨ab, aoff, none⟩ = some (.int .i64 f) := by have := e0; simpa using this
                have y1 : wr.cell? ⟨ab, aoff + 1, none⟩ = some (.bool s) := by have := e1; simpa using this
                have y2 : wr.cell? ⟨ab, aoff + 2, none⟩ = some (.bool t) := by have := e2; simpa using this
                have i0 : (0 : Int) < (adds.length : Int) := by omega
                clear e0 e1 e2
                cases s <;> cases t
                · have HYES : Hid (adds.any idleB = true) := HIDA.out HIDB.out
                  go_wp2
                  clear hba
                  generalize wr.alloc (.cells #[.int .i64 f, .bool false, .bool false] 52) = WA at *
                  go_quiet ((go_at_call 37; exact Calls.quiet_of_same (KF.out _)))
                  go_wp2
                  go_ret
                  exact ⟨ret_int (by rw [HR.out, HYES.out]; simp), (HCA.out.drewN _).bel⟩
                · go_wp2
                  clear hba
                  generalize wr.alloc (.cells #[.int .i64 f, .bool false, .bool true] 52) = WA at *
                  go_quiet ((go_at_call 37; exact Calls.quiet_of_same (KF.out _)))
                  go_wp2
                  go_roundw
                  case rel => exact ⟨1, f, rfl, HFE2.out.1 HIF.out (by omega), by rw [HID.out]; rfl, HCA.out.drewN _⟩
                  case measure => simp [intOf]; omega
                · go_wp2
                  clear hba
                  generalize wr.alloc (.cells #[.int .i64 f, .bool true, .bool false] 52) = WA at *
                  go_quiet ((go_at_call 37; exact Calls.quiet_of_same (KF.out _)))
                  go_wp2
                  go_roundw
                  case rel => exact ⟨1, f, rfl, HFE2.out.1 HIF.out (by omega), by rw [HID.out]; rfl, HCA.out.drewN _⟩
                  case measure => simp [intOf]; omega
                · go_wp2
                  clear hba
                  generalize wr.alloc (.cells #[.int .i64 f, .bool true, .bool true] 52) = WA at *
                  go_quiet ((go_at_call 37; exact Calls.quiet_of_same (KF.out _)))
                  go_wp2
                  go_roundw
                  case rel => exact ⟨1, f, rfl, HFE2.out.1 HIF.out (by omega), by rw [HID.out]; rfl, HCA.out.drewN _⟩
                  case measure => simp [intOf]; omega
              · obtain ⟨m, rfl⟩ : ∃ m, k = m + 1 := ⟨k - 1, by omega⟩
                have hml : m < adds.length := by omega
                have hgl : adds[m].f = l := by
                  have := HUP.out.2.2.2.2.2 (by omega) (by simpa using hml)
                  simpa using this
                have p0 := (HCA.out.bel.cell (p := ⟨ab, aoff + m * 3, none⟩) (lt_of_cell (HA.out m hml).1)).trans (HA.out m hml).1
                rw [hgl] at p0
                clear hgl hk0
                have j1 : ((m + 1 : Nat) : Int) < (adds.length : Int) := by omega
                have j2 : (m : Int) < (adds.length : Int) := by omega
                have j3 : ((m + 1 : Nat) : Int) - 1 = (m : Int) := by omega
                have j4 : (0 : Int) < ((m + 1 : Nat) : Int) := by omega
                by_cases hfl : l < f
                · have hfl' : decide (f ≤ l) = false := by simp; omega
                  cases s <;> cases t
                  · have HYES : Hid (adds.any idleB = true) := HIDA.out HIDB.out
                    go_wp2
                    clear hba
                    generalize wr.alloc (.cells #[.int .i64 f, .bool false, .bool false] 52) = WA at *
                    go_quiet ((go_at_call 37; exact Calls.quiet_of_same (KF.out _)))
                    go_wp2
                    go_ret
                    exact ⟨ret_int (by rw [HR.out, HYES.out]; simp), (HCA.out.drewN _).bel⟩
                  · go_wp2
                    clear hba
                    generalize wr.alloc (.cells #[.int .i64 f, .bool false, .bool true] 52) = WA at *
                    go_quiet ((go_at_call 37; exact Calls.quiet_of_same (KF.out _)))
                    go_wp2
                    go_roundw
                    case rel => exact ⟨m + 2, f, by go_num, HFE2.out.1 HIF.out (by omega), by rw [HID.out]; rfl, HCA.out.drewN _⟩
                    case measure => simp [intOf]; omega
                  · go_wp2
                    clear hba
                    generalize wr.alloc (.cells #[.int .i64 f, .bool true, .bool false] 52) = WA at *
                    go_quiet ((go_at_call 37; exact Calls.quiet_of_same (KF.out _)))
                    go_wp2
                    go_roundw
                    case rel => exact ⟨m + 2, f, by go_num, HFE2.out.1 HIF.out (by omega), by rw [HID.out]; rfl, HCA.out.drewN _⟩
                    case measure => simp [intOf]; omega
                  · go_wp2
                    clear hba
                    generalize wr.alloc (.cells #[.int .i64 f, .bool true, .bool true] 52) = WA at *
                    go_quiet ((go_at_call 37; exact Calls.quiet_of_same (KF.out _)))
                    go_wp2
                    go_roundw
                    case rel => exact ⟨m + 2, f, by go_num, HFE2.out.1 HIF.out (by omega), by rw [HID.out]; rfl, HCA.out.drewN _⟩
                    case measure => simp [intOf]; omega
                · have hfl' : f ≤ l := by omega
                  have HNO : Hid (risF 0 (adds.map (·.f)) = false) := HFE2.out.2 (Or.inr hfl')
                  go_wp2
                  clear hba
                  generalize wr.alloc (.cells #[.int .i64 f, .bool s, .bool t] 52) = WA at *
                  go_quiet ((go_at_call 37; exact Calls.quiet_of_same (KF.out _)))
                  go_wp2
                  go_ret
                  exact ⟨ret_int (by rw [HR.out, HRF.out, HNO.out]; rfl), (HCA.out.drewN _).bel⟩
            · have hf0 : isF f = false := by simpa using hf
              have KF : Hid (∀ X, Calls Tryz.prog 37 #[.int .i64 f] X fun e w' => e = .returned (.bool false) ∧ w' = X) := fun X => rfam_no f hf0 X
              have HNO : Hid (risF 0 (adds.map (·.f)) = false) := HFE2.out.2 (Or.inl hf0)
              clear hf hf0
              go_wp2
              clear hba
              generalize wr.alloc (.cells #[.int .i64 f, .bool s, .bool t] 52) = WA at *
              go_quiet ((go_at_call 37; exact Calls.quiet_of_same (KF.out _)))
              go_wp2
              go_ret
              exact ⟨ret_int (by rw [HR.out, HRF.out, HNO.out]; rfl), (HCA.out.drewN _).bel⟩
          · have i1 : ¬ ((k : Int) < (adds.length : Int)) := by omega
            have HRA : Hid (risF 0 (adds.map (·.f)) = true) := HUP.out.done (by simpa using hlt)
            have HNI : Hid (adds.any idleB = false) := by
              unfold Hid
              have := HNJ.out
              rwa [List.take_of_length_le (by omega)] at this
            clear HUP HNJ
            have g7 : wr.cell? ⟨w.heap.size, 7, none⟩ = some (.bool gr) := cl_row HCK.out.row rfl
            have g8 : wr.cell? ⟨w.heap.size, 8, none⟩ = some (.bool again) := cl_row HCK.out.row rfl
            have g9 : wr.cell? ⟨w.heap.size, 9, none⟩ = some (.int .i64 time) := cl_row HCK.out.row rfl
            have g10 : wr.cell? ⟨w.heap.size, 10, none⟩ = some (.slice kad kept.length kcap) := cl_row HCK.out.row rfl
            cases gr with
            | true =>
              by_cases t0 : time < 0
              · go_wp2
                go_ret
                exact ⟨ret_int (by rw [HR.out, HRF.out, HRA.out, HNI.out]; simp [restB]; try omega), HCK.out.bel⟩
              by_cases t1 : 4095 < time
              · go_wp2
                go_ret
                exact ⟨ret_int (by rw [HR.out, HRF.out, HRA.out, HNI.out]; simp [restB]; try omega), HCK.out.bel⟩
              go_wp2
              refine with_world (fun W => CkAt w W _) HCK.out ?_
              intro W2 hC2
              clear HCK
              have HCK : Hid (CkAt w W2 _) := hC2
              clear hC2
              go_loopw [6] (fun i wr => ∃ (k : Nat) (l : Int), i = .int .i64 k ∧ UpTo (kept.map (·.f)) k l ∧ CkAt w wr _) (fun i _ => kept.length - (intOf i).toNat)
              case atStart => exact ⟨0, 0, rfl, UpTo.start _, HCK.out⟩
              case round =>
                obtain ⟨k, l, rfl, hup, hck⟩ := hrel
                clear HCK
                have HCK : Hid (CkAt w wr _) := hck
                have HUP : Hid (UpTo (kept.map (·.f)) k l) := hup
                have c3 : wr.cell? ⟨w.heap.size, 10, none⟩ = some (.slice kad kept.length kcap) := cl_row hck.row rfl
                have hk5 : (k : Int) ≤ 5 := by have := hup.2.1; have := hup.2.2.1; omega
                have hkl : k ≤ kept.length := by have := hup.1; simpa using this
                by_cases hlt : k < kept.length
                · obtain rfl : kad = some ⟨kb, koff, none⟩ := by
                    rcases khad with h | h
                    · exact h
                    · omega
                  have e0 := (hck.bel.cell (p := ⟨kb, koff + k * 2, none⟩) (lt_of_cell (HK.out k hlt).1)).trans (HK.out k hlt).1
                  have HFK : Hid (∀ x, x = kept[k].f → (isF x = true → l < x → UpTo (kept.map (·.f)) (k + 1) x) ∧ (isF x = false ∨ x ≤ l → risF 0 (kept.map (·.f)) = false)) := fun x hx => by
                    subst hx
                    have hlt2 : k < (kept.map (·.f)).length := by simpa using hlt
                    have hel : (kept.map (·.f))[k] = kept[k].f := by simp
                    exact ⟨fun h1 h2 => by have := HUP.out.next hlt2 (by rw [hel]; exact h1) (by rw [hel]; exact h2); rw [hel] at this; exact this, fun h => HUP.out.stop hlt2 (by rw [hel]; exact h)⟩
                  obtain ⟨f, hfe⟩ : ∃ f, f = kept[k].f := ⟨_, rfl⟩
                  have HFE2 : Hid (_ ∧ _) := HFK.out f hfe
                  rw [← hfe] at e0
                  clear HFK hck hup
                  by_cases hf : isF f = true
                  · have hbd := isF_bd hf
                    have HIF : Hid (isF f = true) := hf
                    have KF : Hid (∀ X, Calls Tryz.prog 37 #[.int .i64 f] X fun e w' => e = .returned (.bool true) ∧ w' = X) := fun X => rfam_yes f hf X
                    clear hf hfe
                    by_cases hk0 : k = 0
                    · have hl0 := HUP.out.2.2.2.2.1 hk0
                      subst hk0 hl0
                      have i1 : (0 : Int) < (kept.length : Int) := by omega
                      have e0' : wr.cell? ⟨kb, koff, none⟩ = some (.int .i64 f) := by have := e0; simpa using this
                      clear e0
                      go_wp2
                      go_quiet ((go_at_call 37; exact Calls.quiet_of_same (KF.out _)))
                      go_wp2
                      go_roundw
                      case rel => exact ⟨1, f, rfl, HFE2.out.1 HIF.out (by omega), HCK.out.drewN _⟩
                      case measure => simp [intOf]; omega
                    · obtain ⟨m, rfl⟩ : ∃ m, k = m + 1 := ⟨k - 1, by omega⟩
                      have hml : m < kept.length := by omega
                      have hgl : kept[m].f = l := by
                        have := HUP.out.2.2.2.2.2 (by omega) (by simpa using hml)
                        simpa using this
                      have e1 := (HCK.out.bel.cell (p := ⟨kb, koff + m * 2, none⟩) (lt_of_cell (HK.out m hml).1)).trans (HK.out m hml).1
                      rw [hgl] at e1
                      clear hgl hk0
                      have i1 : ((m + 1 : Nat) : Int) < (kept.length : Int) := by omega
                      have i2 : (m : Int) < (kept.length : Int) := by omega
                      have i3 : ((m + 1 : Nat) : Int) - 1 = (m : Int) := by omega
                      have i4 : (0 : Int) < ((m + 1 : Nat) : Int) := by omega
                      by_cases hfl : l < f
                      · have hfl' : decide (f ≤ l) = false := by simp; omega
                        go_wp2
                        go_quiet ((go_at_call 37; exact Calls.quiet_of_same (KF.out _)))
                        go_wp2
                        go_roundw
                        case rel => exact ⟨m + 2, f, by go_num, HFE2.out.1 HIF.out hfl, HCK.out.drewN _⟩
                        case measure => simp [intOf]; omega
                      · have hfl' : f ≤ l := by omega
                        have HNO : Hid (risF 0 (kept.map (·.f)) = false) := HFE2.out.2 (Or.inr hfl')
                        go_wp2
                        go_quiet ((go_at_call 37; exact Calls.quiet_of_same (KF.out _)))
                        go_wp2
                        go_ret
                        exact ⟨ret_int (by rw [HR.out]; rw [HRF.out, HRA.out, HNI.out]; simp [restB, HNO.out]), (HCK.out.drewN _).bel⟩
                  · have hf0 : isF f = false := by simpa using hf
                    have KF : Hid (∀ X, Calls Tryz.prog 37 #[.int .i64 f] X fun e w' => e = .returned (.bool false) ∧ w' = X) := fun X => rfam_no f hf0 X
                    have HNO : Hid (risF 0 (kept.map (·.f)) = false) := HFE2.out.2 (Or.inl hf0)
                    have i1 : (k : Int) < (kept.length : Int) := by omega
                    clear hf hf0 hfe
                    go_wp2
                    go_quiet ((go_at_call 37; exact Calls.quiet_of_same (KF.out _)))
                    go_wp2
                    go_ret
                    exact ⟨ret_int (by rw [HR.out]; rw [HRF.out, HRA.out, HNI.out]; simp [restB, HNO.out]), (HCK.out.drewN _).bel⟩
                · have i1 : ¬ ((k : Int) < (kept.length : Int)) := by omega
                  have HRK : Hid (risF 0 (kept.map (·.f)) = true) := HUP.out.done (by simpa using hlt)
                  clear HUP hup hck
                  go_wp2
                  go_ret
                  exact ⟨ret_int (by rw [HR.out, HRF.out, HRA.out, HNI.out]; simp [restB, HRK.out]; omega), HCK.out.bel⟩
            | false =>
              cases again with
              | true =>
                go_wp2
                go_ret
                exact ⟨ret_int (by rw [HR.out, HRF.out, HRA.out, HNI.out]; simp [restB]; try omega), HCK.out.bel⟩
              | false =>
                by_cases tz : time = 0
                · subst tz
                  by_cases hkz : kept.length = 0
                  · have hkz2 : (kept.length : Int) = 0 := by omega
                    go_wp2
                    refine with_world (fun W => CkAt w W _) HCK.out ?_
                    intro W2 hC2
                    clear HCK
                    have HCK : Hid (CkAt w W2 _) := hC2
                    clear hC2
                    go_loopw [6] (fun i wr => ∃ (k : Nat) (l : Int), i = .int .i64 k ∧ UpTo (kept.map (·.f)) k l ∧ CkAt w wr _) (fun i _ => kept.length - (intOf i).toNat)
                    case atStart => exact ⟨0, 0, rfl, UpTo.start _, HCK.out⟩
                    case round =>
                      obtain ⟨k, l, rfl, hup, hck⟩ := hrel
                      clear HCK
                      have HCK : Hid (CkAt w wr _) := hck
                      have HUP : Hid (UpTo (kept.map (·.f)) k l) := hup
                      have c3 : wr.cell? ⟨w.heap.size, 10, none⟩ = some (.slice kad kept.length kcap) := cl_row hck.row rfl
                      have hk5 : (k : Int) ≤ 5 := by have := hup.2.1; have := hup.2.2.1; omega
                      have hkl : k ≤ kept.length := by have := hup.1; simpa using this
                      by_cases hlt : k < kept.length
                      · exact absurd hlt (by omega)
                      · have i1 : ¬ ((k : Int) < (kept.length : Int)) := by omega
                        have HRK : Hid (risF 0 (kept.map (·.f)) = true) := HUP.out.done (by simpa using hlt)
                        clear HUP hup hck
                        go_wp2
                        go_ret
                        exact ⟨ret_int (by rw [HR.out, HRF.out, HRA.out, HNI.out]; simp [restB, hkz]), HCK.out.bel⟩
                  · have hkz2 : (0 : Int) < (kept.length : Int) := by omega
                    go_wp2
                    go_ret
                    exact ⟨ret_int (by rw [HR.out, HRF.out, HRA.out, HNI.out]; simp [restB]; exact fun h => hkz (by rw [h]; rfl)), HCK.out.bel⟩
                · have tz' : (time == 0) = false := by simpa using tz
                  have tz2 : (time != 0) = true := by simpa using tz
                  go_wp2
                  go_ret
                  exact ⟨ret_int (by rw [HR.out, HRF.out, HRA.out, HNI.out]; simp [restB]; try omega), HCK.out.bel⟩
end Go.Proofs.YtlhnfejgkhilkaaGreatDoor
