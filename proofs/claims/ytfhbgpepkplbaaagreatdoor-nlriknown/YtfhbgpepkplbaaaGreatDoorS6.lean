/-
  Withdrawn.
-/
import Derived.Test.YtfhbgpepkplbaaaGreatDoorS5
set_option linter.unusedSimpArgs false
set_option maxRecDepth 100000
namespace Go.Proofs.YtfhbgpepkplbaaaGreatDoor
open Go.RowKit Go.Sort
/-- Told prefixes, the first k without labels. -/
def halfB (R : List Nl) (k : Nat) : List Nl := (R.take k).map bare ++ R.drop k
theorem halfB_len (R : List Nl) (k : Nat) : (halfB R k).length = R.length := by
  unfold halfB; rw [List.length_append, List.length_map, List.length_take, List.length_drop]; omega
theorem halfB_at {R : List Nl} {k : Nat} (h : k < R.length) : (halfB R k)[k]'(by rw [halfB_len]; exact h) = R[k] := by
  have hl : ((R.take k).map bare).length = k := by rw [List.length_map, List.length_take]; omega
  unfold halfB
  rw [List.getElem_append_right (by omega), List.getElem_drop]
  congr 1
  omega
theorem halfB_set {R : List Nl} {k : Nat} (h : k < R.length) : (halfB R k).set k (bare R[k]) = halfB R (k + 1) := by
  have hl : ((R.take k).map bare).length = k := by rw [List.length_map, List.length_take]; omega
  unfold halfB
  rw [List.set_append_right _ _ (by omega), hl, Nat.sub_self, List.take_succ_eq_append_getElem h, List.map_append, List.drop_eq_getElem_cons h, List.set_cons_zero, List.append_assoc]
  rfl
theorem halfB_all (R : List Nl) : halfB R R.length = R.map bare := by unfold halfB; simp
theorem compact_none (ad : Option Addr) (c : Nat) (w : World) : Calls Tryz.prog 40 #[.slice ad 0 c] w fun e w' => e = .returned (.slice ad 0 c) ∧ w' = w := by
  go_enter Tryz.func40, Tryz.ntmps40
  go_wp2
  go_ret
  exact ⟨rfl, rfl⟩
set_option maxHeartbeats 4000000 in
theorem withdrawn_any (v : Value) (R : List Nl) (w : World) (h : NlsAt w v R) (hlen : R.length ≤ 1000) :
    Calls Tryz.prog 18 #[v] w fun e w' => ∃ u, e = .returned u ∧ NlsAt w' u (goneL R) ∧ Below w.heap.size w w' := by
  have HC : Hid (_ : Prop) := cloneN_any v R w h (by omega)
  have HL : Hid (R.length ≤ 1000) := hlen
  have hlI : (R.length : Int) ≤ 1000 := by omega
  obtain ⟨adv, _, _, capv, rfl, _, _, _⟩ := h
  clear hlen
  by_cases hz : R.length = 0
  · have hR : R = [] := List.length_eq_zero_iff.1 hz
    subst hR
    go_enter Tryz.func18, Tryz.ntmps18
    go_wp2_with fail
    refine Calls.mono HC.out ?_
    rintro e w1 ⟨ad, c, rfl, ho1, hb1⟩
    have HB1 : Hid (Below w.heap.size w w1) := hb1
    clear ho1 hb1
    go_wp2_with fail
    refine wp_loop_rounds 1 ?_
    rw [rounds_succ]
    go_wp2_with fail
    have hcon := AnyF.slices_SortFunc_none Tryz.laysF0 ad c (.func (.func 11) #[] #[]) w1
    refine Calls.mono hcon ?_
    rintro e w2 ⟨rfl, rfl⟩
    clear hcon
    go_wp2_with fail
    refine (compact_none ad c _).mono ?_
    rintro e w3 ⟨rfl, rfl⟩
    go_wp2
    go_ret
    exact ⟨_, rfl, ⟨ad, 0, 0, c, rfl, Or.inr rfl, Nat.zero_le _, fun j hj => by simp [goneL] at hj⟩, HB1.out⟩
  · go_enter Tryz.func18, Tryz.ntmps18
    go_wp2_with fail
    refine Calls.mono HC.out ?_
    rintro e w1 ⟨ad, c, rfl, ho1, hb1⟩
    obtain ⟨g, rfl, hg, hcl⟩ : ∃ g, ad = some ⟨g, 0, none⟩ ∧ w.heap.size ≤ g ∧ R.length ≤ c := by
      obtain ⟨_, ⟨h1, h2⟩ | ⟨g, cap, cur, e, hg, hk, hc1, _⟩⟩ := id ho1
      · exact absurd h2 hz
      · injection e with e _ e2
        subst e2
        exact ⟨g, e, hg, hc1⟩
    have HB1 : Hid (Below w.heap.size w w1 ∧ w.heap.size ≤ g ∧ R.length ≤ c ∧ 0 < R.length) := ⟨hb1, hg, hcl, by omega⟩
    have HM1 : Hid (MemL w1 g (halfB R 0)) := MemL.own ho1
    clear ho1 hb1 hg hcl HC hz
    go_wp2_with fail
    go_loopw [9] (fun i wr => ∃ k : Nat, k ≤ R.length ∧ i = .int .i64 k ∧ MemL wr g (halfB R k) ∧ w1.grownBy wr (some g)) (fun i _ => R.length - (intOf i).toNat)
    case atStart => exact ⟨0, Nat.zero_le _, rfl, HM1.out, World.grownBy.refl _ _⟩
    case round =>
      obtain ⟨k, hk, rfl, hm, hgr⟩ := hrel
      have HM : Hid (MemL wr g (halfB R k)) := hm
      have HG : Hid (w1.grownBy wr (some g)) := hgr
      clear hm hgr
      by_cases hlt : k < R.length
      · have hltI : (k : Int) < (R.length : Int) := by omega
        have hkl : k < (halfB R k).length := by rw [halfB_len]; exact hlt
        have c5 := (HM.out.cells k hkl).2.2.2.2.2
        have hf5 : wr.frozen? ⟨g, k * 6 + 5, none⟩ = false := by
          have := (HM.out.there (k * 6 + 5) (by rw [halfB_len]; omega)).2
          rwa [Nat.zero_add] at this
        have HM2 : Hid (MemL (wr.setCell ⟨g, k * 6 + 5, none⟩ (.int .u32 0)) g (halfB R (k + 1))) := by
          have := HM.out.strike k hkl
          rw [halfB_at hlt, halfB_set hlt] at this
          exact this
        have HG2 : Hid (w1.grownBy (wr.setCell ⟨g, k * 6 + 5, none⟩ (.int .u32 0)) (some g)) := HG.out.trans (grown_setCell' _ _ _)
        generalize ((halfB R k)[k]'hkl).lb = lb0 at *
        clear hkl
        go_wp2
        go_roundw
        case rel => exact ⟨k + 1, by omega, by go_num, HM2.out, HG2.out⟩
        case measure => simp [intOf]; omega
      · obtain rfl : k = R.length := by omega
        have hltI : ¬ (R.length : Int) < (R.length : Int) := by omega
        have HMS : Hid (MemL wr g (R.map bare)) := by have := HM.out; rw [halfB_all] at this; exact this
        generalize wr = wo at *
        have HSO : Hid (_ : Prop) := sortN_any (cap := c) HMS.out (by rw [List.length_map]; exact HB1.out.2.2.2) (by rw [List.length_map]; have := HL.out; omega)
        rw [List.length_map] at HSO
        go_wp2_with fail
        refine Calls.mono HSO.out ?_
        rintro e w3 ⟨rfl, hm3, hg3⟩
        have hl3 : (sortN (R.map bare)).length = R.length := by rw [sortN_len, List.length_map]
        have HCO : Hid (_ : Prop) := compact_any (cap := c) hm3 (by rw [hl3]; exact HB1.out.2.2.2) (by rw [hl3]; exact HB1.out.2.2.1) (by rw [hl3]; have := HL.out; omega)
        rw [hl3, keep_gone] at HCO
        have HG3 : Hid (w1.grownBy w3 (some g)) := HG.out.trans hg3
        clear hm3 hg3 hl3 HSO HMS HM
        go_wp2_with fail
        refine Calls.mono HCO.out ?_
        rintro e w4 ⟨m, rfl, hn4, hg4⟩
        have HN4 : Hid (NlsAt w4 (.slice (some ⟨g, 0, none⟩) m c) (goneL R)) := hn4
        have HB4 : Hid (Below w.heap.size w w4) := HB1.out.1.grown (HG3.out.trans hg4) HB1.out.1.size (fun j e => by cases e; exact HB1.out.2.1)
        clear hn4 hg4 HCO
        go_wp2
        go_ret
        exact ⟨_, rfl, HN4.out, HB4.out⟩
end Go.Proofs.YtfhbgpepkplbaaaGreatDoor
