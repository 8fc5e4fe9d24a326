/-
  Whether an open may be: what it says of restarts; entries that say nothing.
-/
import Derived.Test.YtlhnfejgkhilkaaGreatDoorO1b
set_option linter.unusedVariables false
set_option linter.unusedSimpArgs false
namespace Go.Proofs.YtlhnfejgkhilkaaGreatDoor
open Go.RowKit
def idleB (a : Ad) : Bool := !a.s && !a.t
set_option maxRecDepth 100000 in
set_option maxHeartbeats 1600000 in
theorem indexIdle_any (v : Value) (L : List Ad) (w : World) (hv : AddsAt w v L) (hlen : L.length ≤ 1000) :
    Calls Tryz.prog 46 #[v, .func (.func 34) #[] #[]] w fun e w' => (∃ n : Int, e = .returned (.int .i64 n) ∧ decide (0 ≤ n) = L.any idleB) ∧ Below w.heap.size w w' := by
  obtain ⟨ad, b, off, cap, rfl, had, hcap, hrow⟩ := hv
  have HR : Hid (_ : Prop) := hrow
  clear hrow
  go_enter Tryz.func46, Tryz.ntmps46
  go_wp2
  go_loopw [8] (fun i wr => ∃ (k : Nat), k ≤ L.length ∧ i = .int .i64 k ∧ Below w.heap.size w wr ∧ L.any idleB = (L.drop k).any idleB) (fun i _ => L.length - (intOf i).toNat)
  case atStart => exact ⟨0, Nat.zero_le _, rfl, Below.refl _ _, rfl⟩
  case round =>
    obtain ⟨k, hk, rfl, hb, hany⟩ := hrel
    have HB : Hid (Below w.heap.size w wr) := hb
    have HRI : Hid (_ = _) := hany
    clear hb hany
    by_cases hlt : k < L.length
    · obtain rfl : ad = some ⟨b, off, none⟩ := by
        rcases had with h | h
        · exact h
        · omega
      have c0 := (HB.out.cell (p := ⟨b, off + k * 3, none⟩) (lt_of_cell (HR.out k hlt).1)).trans (HR.out k hlt).1
      have c1 := (HB.out.cell (p := ⟨b, off + k * 3 + 1, none⟩) (lt_of_cell (HR.out k hlt).2.1)).trans (HR.out k hlt).2.1
      have c2 := (HB.out.cell (p := ⟨b, off + k * 3 + 2, none⟩) (lt_of_cell (HR.out k hlt).2.2)).trans (HR.out k hlt).2.2
      have HD : Hid ((L.drop k).any idleB = (idleB L[k] || (L.drop (k + 1)).any idleB)) := by
        unfold Hid
        rw [List.drop_eq_getElem_cons hlt, List.any_cons]
      rw [HD.out] at HRI
      clear HD
      have HI : Hid (idleB L[k] = (!L[k].s && !L[k].t)) := rfl
      generalize idleB L[k] = z at *
      generalize L[k].f = f at *
      generalize L[k].s = s at *
      generalize L[k].t = t at *
      have HK : Hid (Calls Tryz.prog 34 #[.agg #[.int .i64 f, .bool s, .bool t]] wr fun e w' => e = .returned (.bool z) ∧ Below wr.heap.size wr w') := by
        unfold Hid; rw [HI.out]; exact idle_any f s t wr
      clear HI
      cases z with
      | true =>
        go_wp2_with (go_at_call 34; refine Calls.mono HK.out ?_; rintro e w2 ⟨rfl, hb2⟩)
        go_ret
        exact ⟨⟨_, rfl, by rw [HRI.out]; simp⟩, HB.out.trans (hb2.mono HB.out.size)⟩
      | false =>
        go_wp2_with (go_at_call 34; refine Calls.mono HK.out ?_; rintro e w2 ⟨rfl, hb2⟩)
        go_roundw
        case rel => exact ⟨k + 1, by omega, by go_num, HB.out.trans (hb2.mono HB.out.size), by rw [HRI.out]; rfl⟩
        case measure => simp [intOf]; omega
    · obtain rfl : k = L.length := by omega
      rw [List.drop_eq_nil_of_le (by simp)] at HRI
      go_wp2
      go_ret
      exact ⟨⟨_, rfl, by rw [HRI.out]; rfl⟩, HB.out⟩
theorem containsIdle_any (v : Value) (L : List Ad) (w : World) (hv : AddsAt w v L) (hlen : L.length ≤ 1000) :
    Calls Tryz.prog 33 #[v, .func (.func 34) #[] #[]] w fun e w' => e = .returned (.bool (L.any idleB)) ∧ Below w.heap.size w w' := by
  have HK : Hid (_ : Prop) := indexIdle_any v L w hv hlen
  clear hv
  go_enter Tryz.func33, Tryz.ntmps33
  go_wp2_with (go_at_call 46; refine Calls.mono HK.out ?_; rintro e w2 ⟨⟨n, rfl, hn⟩, hb2⟩)
  go_ret
  exact ⟨rfl, hb2⟩
def restB (o : Opn) : Bool := if o.gr then decide (0 ≤ o.time) && decide (o.time ≤ 4095) && risF 0 (o.kept.map (·.f)) else !o.again && (o.time == 0) && (o.kept.length == 0)
theorem KeptsAt.len {w : World} {v : Value} {L : List Kp} (h : KeptsAt w v L) : ∃ ad cap, v = .slice ad L.length cap := by
  obtain ⟨ad, b, off, cap, h1, h2, h3, h4⟩ := h
  exact ⟨ad, cap, h1⟩
set_option maxRecDepth 100000 in
set_option maxHeartbeats 1600000 in
theorem restart_any (o : Opn) (vf va vk : Value) (w : World) (hg : FamSizes w) (hk : KeptsAt w vk o.kept) :
    Calls Tryz.prog 35 #[opV o vf va vk] w fun e w' => e = .returned (.bool (restB o)) ∧ Below w.heap.size w w' := by
  obtain ⟨asn, hold, id, fams, four, refr, adds, gr, again, time, kept⟩ := o
  have hba : Below w.heap.size w (w.alloc (.cells (opC ⟨asn, hold, id, fams, four, refr, adds, gr, again, time, kept⟩ vf va vk) 27)) := (Below.refl _ _).alloc (Nat.le_refl _) _
  have HK : Hid (_ : Prop) := rising_kept vk kept _ (hg.below hba) (hk.below hba)
  have HBA : Hid (Below _ _ _) := hba
  obtain ⟨ad, cap, rfl⟩ := hk.len
  have HREF : Hid (restB ⟨asn, hold, id, fams, four, refr, adds, gr, again, time, kept⟩ = if gr then decide (0 ≤ time) && decide (time ≤ 4095) && risF 0 (kept.map (·.f)) else !again && (time == 0) && (kept.length == 0)) := rfl
  generalize restB ⟨asn, hold, id, fams, four, refr, adds, gr, again, time, kept⟩ = r at *
  clear hg hk hba
  unfold opC at HK HBA
  unfold opV opC
  dsimp only at HK HBA ⊢
  cases gr with
  | false =>
    cases again with
    | true =>
      go_enter Tryz.func35, Tryz.ntmps35
      go_wp2
      go_ret
      exact ⟨ret_bool HREF.out.symm, HBA.out⟩
    | false =>
      by_cases ht : time = 0
      · subst ht
        go_enter Tryz.func35, Tryz.ntmps35
        go_wp2
        go_ret
        exact ⟨ret_bool (by rw [HREF.out]; simp [Bool.beq_eq_decide_eq]), HBA.out⟩
      · have ht' : (time == 0) = false := by simpa using ht
        go_enter Tryz.func35, Tryz.ntmps35
        go_wp2
        go_ret
        exact ⟨ret_bool (by rw [HREF.out, ht']; rfl), HBA.out⟩
  | true =>
    by_cases h0 : 0 ≤ time
    · by_cases h1 : time ≤ 4095
      · have HX : Hid (r = risF 0 (kept.map (·.f))) := by unfold Hid; rw [HREF.out, decide_eq_true h0, decide_eq_true h1]; rfl
        rw [← HX.out] at HK
        go_enter Tryz.func35, Tryz.ntmps35
        go_wp2_with (go_at_call 47; refine Calls.mono HK.out ?_; rintro e w2 ⟨rfl, hb2⟩)
        go_ret
        exact ⟨rfl, HBA.out.trans (hb2.mono HBA.out.size)⟩
      · have h1' : decide (time ≤ 4095) = false := by simpa using h1
        have HX : Hid (r = false) := by unfold Hid; rw [HREF.out, h1']; simp
        go_enter Tryz.func35, Tryz.ntmps35
        go_wp2
        go_ret
        exact ⟨ret_bool HX.out.symm, HBA.out⟩
    · have h0' : decide (0 ≤ time) = false := by simpa using h0
      have HX : Hid (r = false) := by unfold Hid; rw [HREF.out, h0']; simp
      go_enter Tryz.func35, Tryz.ntmps35
      go_wp2
      go_ret
      exact ⟨ret_bool HX.out.symm, HBA.out⟩
end Go.Proofs.YtlhnfejgkhilkaaGreatDoor
