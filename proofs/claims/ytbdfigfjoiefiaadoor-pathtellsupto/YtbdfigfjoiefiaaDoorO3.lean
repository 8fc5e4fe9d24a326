/-
  The reference's Prepend, whole; and spoil.
-/
import Derived.Test.YtbdfigfjoiefiaaDoorO2
namespace Go.Proofs.YtbdfigfjoiefiaaDoor
open Go.RowKit
theorem rprep_all (v : Value) (L : List Sg) (a : Nat) (conf : Bool) (w : World) (h : PathAt w v L) (ha : a < 4294967296) :
    Calls Tryd.prog 28 #[v, .int .u32 (a : Int), .bool conf] w fun e w' => RPrepOk w (prepP L a conf) (prepE L a conf) e w' := by
  by_cases hbad : okPath L = false ∨ a = 0
  · rw [show prepE L a conf = 2 from if_pos hbad, show prepP L a conf = [] from if_pos hbad]
    exact rprep_bad v L a conf w h hbad
  · have hok : okPath L = true := by cases hq : okPath L with | true => rfl | false => exact absurd (Or.inl hq) hbad
    have ha0 : a ≠ 0 := fun h => hbad (Or.inr h)
    cases htk : takes (kindOf conf) L with
    | true =>
      cases L with
      | nil => simp [takes] at htk
      | cons s T =>
        have hk : s.1 = (kindOf conf : Nat) ∧ s.2.length < 255 := by simpa [takes] using htk
        have e1 : prepP (s :: T) a conf = ((kindOf conf : Int), a :: s.2) :: T := by unfold prepP; rw [if_neg hbad, if_pos htk]
        have e2 : prepE (s :: T) a conf = 0 := by unfold prepE; rw [if_neg hbad, if_pos htk]
        rw [e1, e2]
        cases conf with
        | true => exact rprep_takes_true s T v a w h hok ha ha0 hk.1 hk.2
        | false => exact rprep_takes_false s T v a w h hok ha ha0 hk.1 hk.2
    | false =>
      have e1 : prepP L a conf = otherP (kindOf conf : Nat) a L := by unfold prepP otherP; rw [if_neg hbad, if_neg (by rw [htk]; simp)]
      have e2 : prepE L a conf = otherE L := by unfold prepE otherE; rw [if_neg hbad, if_neg (by rw [htk]; simp)]
      rw [e1, e2]
      cases conf with
      | true => exact rprep_other_true L v a w h hok ha ha0 htk
      | false => exact rprep_other_false L v a w h hok ha ha0 htk
/-- What spoil needs to go on: the segments behind the first n are as they were; all rows may be written. -/
structure Spl (w wr : World) (base g : Nat) (R : List Sv) (n : Nat) : Prop where
  kin : ∀ i (_ : i < R.length), ∃ x, wr.cell? ⟨g, i * 2, none⟩ = some (.int .i64 x)
  cel : ∀ i (h : i < R.length), n ≤ i → wr.cell? ⟨g, i * 2 + 1, none⟩ = some R[i].2.1
  fro : ∀ i, i < R.length * 2 → wr.frozen? ⟨g, i, none⟩ = false
  row : ∀ i (h : i < R.length) j, j < R[i].2.2.length → ∃ b c x, R[i].2.1 = .slice (some ⟨b, 0, none⟩) R[i].2.2.length c ∧ b ≠ g ∧ base ≤ b ∧ wr.cell? ⟨b, j, none⟩ = some (.int .u32 x) ∧ wr.frozen? ⟨b, j, none⟩ = false
  bel : Below base w wr
theorem frozen_row {w : World} {g : Nat} {cur : Array Value} {t : TypeId} (h : w.heap[g]? = some (.cells cur t (0, 0))) (j : Nat) : w.frozen? ⟨g, j, none⟩ = false := by
  simp [World.frozen?, h]
theorem Spl.start {w : World} {base g n cap : Nat} {R : List Sv} (h : OwnS w base (.slice (some ⟨g, 0, none⟩) n cap) R) : Spl w w base g R 0 := by
  refine ⟨fun i hi => ⟨_, (h.cells i hi).1⟩, fun i hi _ => (h.cells i hi).2, fun i _ => ?_, fun i hi j hj => ?_, Below.refl _ _⟩
  · obtain ⟨⟨_, hv⟩, _, _⟩ := h
    rcases hv with ⟨h0, _⟩ | ⟨g', cap', cur, e, _, hh, _⟩
    · simp at h0
    · simp only [Value.slice.injEq, Option.some.injEq, Addr.mk.injEq, and_true] at e
      obtain ⟨rfl, _⟩ := e
      exact frozen_row hh i
  · have hu := h.2.1 R[i] (List.getElem_mem hi)
    have hap := hu.apart h.1
    have hat := hu.at
    obtain ⟨⟨_, hv⟩, _, _⟩ := hu
    rcases hv with ⟨_, h0⟩ | ⟨b, c, cur, e, hb, hh, hc, hm, hs, ht⟩
    · omega
    · refine ⟨b, c, (R[i].2.2[j] : Nat), e, ?_, hb, ?_, frozen_row hh j⟩
      · exact hap b (by rw [e]; rfl)
      · obtain ⟨ad', b', off', cap', e', had, _, hr⟩ := hat
        rw [e] at e'
        simp only [Value.slice.injEq] at e'
        obtain ⟨rfl, _, rfl⟩ := e'
        obtain ⟨rfl, rfl⟩ : b = b' ∧ 0 = off' := by
          rcases had with h | h
          · simpa using h
          · omega
        have := (hr j hj).1
        rwa [Nat.zero_add] at this
theorem Spl.put {w wr : World} {base g n : Nat} {R : List Sv} (h : Spl w wr base g R n) {b j : Nat} {x : Int} (hb : base ≤ b) (hbg : b ≠ g) (hc : wr.cell? ⟨b, j, none⟩ = some (.int .u32 x)) : Spl w (wr.setCell ⟨b, j, none⟩ (.int .u32 77)) base g R n := by
  refine ⟨fun i hi => ?_, fun i hi hn => ?_, fun i hi => ?_, fun i hi k hk => ?_, h.bel.setCell (by exact hb) _⟩
  · obtain ⟨y, hy⟩ := h.kin i hi
    exact ⟨y, by rw [World.cell?_setCell_other _ _ _ _ (by intro h; injection h with h1 h2; omega)]; exact hy⟩
  · rw [World.cell?_setCell_other _ _ _ _ (by intro h; injection h with h1 h2; omega)]; exact h.cel i hi hn
  · rw [World.frozen?_setCell]; exact h.fro i hi
  · obtain ⟨b', c, y, e, hne, hb', hy, hf⟩ := h.row i hi k hk
    by_cases he : b' = b ∧ k = j
    · obtain ⟨rfl, rfl⟩ := he
      exact ⟨b', c, 77, e, hne, hb', World.cell?_setCell_same _ _ _ hc, by rw [World.frozen?_setCell]; exact hf⟩
    · exact ⟨b', c, y, e, hne, hb', by rw [World.cell?_setCell_other _ _ _ _ (by intro h; injection h with h1 h2; first | omega | exact he ⟨h1.symm, h2.symm⟩)]; exact hy, by rw [World.frozen?_setCell]; exact hf⟩
theorem Spl.next {w wr : World} {base g n : Nat} {R : List Sv} (h : Spl w wr base g R n) (hg : base ≤ g) : Spl w ((wr.setCell ⟨g, n * 2, none⟩ (.int .i64 0)).setCell ⟨g, n * 2 + 1, none⟩ (.slice none 0 0)) base g R (n + 1) := by
  refine ⟨fun i hi => ?_, fun i hi hni => ?_, fun i hi => ?_, fun i hi k hk => ?_, (h.bel.setCell (by exact hg) _).setCell (by exact hg) _⟩
  · rw [World.cell?_setCell_other _ _ _ _ (by intro h; injection h with h1 h2; omega)]
    obtain ⟨y, hy⟩ := h.kin i hi
    by_cases e : n = i
    · subst e; exact ⟨0, World.cell?_setCell_same _ _ _ hy⟩
    · exact ⟨y, by rw [World.cell?_setCell_other _ _ _ _ (by intro h; injection h with h1 h2; omega)]; exact hy⟩
  · rw [World.cell?_setCell_other _ _ _ _ (by intro h; injection h with h1 h2; omega), World.cell?_setCell_other _ _ _ _ (by intro h; injection h with h1 h2; omega)]; exact h.cel i hi (by omega)
  · rw [World.frozen?_setCell, World.frozen?_setCell]; exact h.fro i hi
  · obtain ⟨b', c, y, e, hne, hb', hy, hf⟩ := h.row i hi k hk
    exact ⟨b', c, y, e, hne, hb', by rw [World.cell?_setCell_other _ _ _ _ (by intro h; injection h with h1 h2; omega), World.cell?_setCell_other _ _ _ _ (by intro h; injection h with h1 h2; omega)]; exact hy, by rw [World.frozen?_setCell, World.frozen?_setCell]; exact hf⟩
theorem spoil_none (n c : Nat) (w : World) (hn : n = 0) :
    Calls Tryd.prog 25 #[.slice none n c] w fun e w' => e = .returned (.tuple #[]) ∧ w' = w := by
  subst hn
  go_enter Tryd.func25, Tryd.ntmps25
  go_wp2
  refine wp_loop_rounds 1 ?_
  rw [rounds_succ]
  go_wp2
  go_end0
  exact ⟨rfl, rfl⟩
set_option maxRecDepth 100000 in
set_option maxHeartbeats 800000 in
theorem spoil_any (v : Value) (w : World) (base : Nat) (R : List Sv) (h : OwnS w base v R) :
    Calls Tryd.prog 25 #[v] w fun e w' => e = .returned (.tuple #[]) ∧ Below base w w' := by
  have HO : Hid (OwnS _ _ _ _) := h
  have hRl := h.2.2
  have HUL : Hid (∀ i (hi : i < R.length), R[i].2.2.length ≤ 35184372088832) := fun i hi => (h.2.1 R[i] (List.getElem_mem hi)).2.2
  have HSL : Hid (∀ i (hi : i < R.length), ∃ ad c, R[i].2.1 = .slice ad R[i].2.2.length c) := fun i hi => slice_of_owns (h.2.1 R[i] (List.getElem_mem hi)).1
  obtain ⟨⟨_, hv⟩, _, _⟩ := h
  rcases hv with ⟨rfl, h0⟩ | ⟨g, cap, cur, rfl, hg, hh, hc, hm, hs, ht⟩
  · refine (spoil_none 0 0 w rfl).mono ?_
    rintro e w' ⟨rfl, rfl⟩
    exact ⟨rfl, Below.refl _ _⟩
  · have HS : Hid (Spl _ _ _ _ _ _) := Spl.start HO.out
    clear hh hm hs ht
    go_enter Tryd.func25, Tryd.ntmps25
    go_wp2
    go_loopw [2] (fun i wr => ∃ n : Nat, n ≤ R.length ∧ i = .int .i64 n ∧ Spl w wr base g R n) (fun i _ => R.length - (intOf i).toNat)
    case atStart => exact ⟨0, Nat.zero_le _, rfl, HS.out⟩
    case round =>
      obtain ⟨n, hn, rfl, hq⟩ := hrel
      by_cases hlt : n < R.length
      · have HQ : Hid (Spl _ _ _ _ _ _) := hq
        obtain ⟨ad, c, hu⟩ := HSL.out n hlt
        have hul := HUL.out n hlt
        clear hq
        go_wp2
        go_loopw [3] (fun i wr2 => ∃ j : Nat, j ≤ R[n].2.2.length ∧ i = .int .i64 j ∧ Spl w wr2 base g R n) (fun i _ => R[n].2.2.length - (intOf i).toNat)
        case atStart => exact ⟨0, Nat.zero_le _, rfl, HQ.out⟩
        case round =>
          obtain ⟨j, hj, rfl, hp⟩ := hrel
          have HP : Hid (Spl _ _ _ _ _ _) := hp
          have c1 := hp.cel n hlt (Nat.le_refl _)
          rw [hu] at c1
          by_cases hlt2 : j < R[n].2.2.length
          · obtain ⟨b, c', x, e, hbg, hb, hx, hf⟩ := hp.row n hlt j hlt2
            rw [hu] at e
            simp only [Value.slice.injEq, true_and] at e
            obtain ⟨rfl, rfl⟩ := e
            have HP2 : Hid (Spl _ _ _ _ _ _) := hp.put hb hbg hx
            clear hp
            generalize R[n].2.2.length = m at *
            go_wp2
            go_roundw
            case rel => exact ⟨j + 1, by omega, by go_num, HP2.out⟩
            case measure => simp [intOf]; omega
          · obtain ⟨x0, c0⟩ := hp.kin n hlt
            have f0 := hp.fro (n * 2) (by omega)
            have f1 := hp.fro (n * 2 + 1) (by omega)
            have HP2 : Hid (Spl _ _ _ _ _ _) := hp.next hg
            clear hp
            generalize R[n].2.2.length = m at *
            obtain rfl : j = m := by omega
            go_wp2
            go_roundw
            case rel => exact ⟨n + 1, by omega, by go_num, HP2.out⟩
            case measure => simp [intOf]; omega
      · obtain rfl : n = R.length := by omega
        go_wp2
        go_end0
        exact ⟨rfl, hq.bel⟩
end Go.Proofs.YtbdfigfjoiefiaaDoor
