/-
  spoil once more: it leaves what lies above, too.
-/
import Derived.Test.YtbdfigfjoiefiaaDoorO3
namespace Go.Proofs.YtbdfigfjoiefiaaDoor
open Go.RowKit
/-- What spoil needs to go on: the segments behind the first n are as they were; all rows may be written. -/
structure Spm (w wr : World) (base M g : Nat) (R : List Sv) (n : Nat) : Prop where
  kin : ∀ i (_ : i < R.length), ∃ x, wr.cell? ⟨g, i * 2, none⟩ = some (.int .i64 x)
  cel : ∀ i (h : i < R.length), n ≤ i → wr.cell? ⟨g, i * 2 + 1, none⟩ = some R[i].2.1
  fro : ∀ i, i < R.length * 2 → wr.frozen? ⟨g, i, none⟩ = false
  row : ∀ i (h : i < R.length) j, j < R[i].2.2.length → ∃ b c x, R[i].2.1 = .slice (some ⟨b, 0, none⟩) R[i].2.2.length c ∧ b ≠ g ∧ (base ≤ b ∧ b < M) ∧ wr.cell? ⟨b, j, none⟩ = some (.int .u32 x) ∧ wr.frozen? ⟨b, j, none⟩ = false
  bel : Below base w wr
  abv : ∀ k, M ≤ k → wr.heap[k]? = w.heap[k]?
theorem frozen_row' {w : World} {g : Nat} {cur : Array Value} {t : TypeId} (h : w.heap[g]? = some (.cells cur t (0, 0))) (j : Nat) : w.frozen? ⟨g, j, none⟩ = false := by
  simp [World.frozen?, h]
theorem Spm.start {w : World} {base M g n cap : Nat} {R : List Sv} (h : OwnS w base (.slice (some ⟨g, 0, none⟩) n cap) R) (hM : ∀ r ∈ R, ∀ b, r.2.1.ownBlock = some b → b < M) : Spm w w base M g R 0 := by
  refine ⟨fun i hi => ⟨_, (h.cells i hi).1⟩, fun i hi _ => (h.cells i hi).2, fun i _ => ?_, fun i hi j hj => ?_, Below.refl _ _, fun _ _ => rfl⟩
  · obtain ⟨⟨_, hv⟩, _, _⟩ := h
    rcases hv with ⟨h0, _⟩ | ⟨g', cap', cur, e, _, hh, _⟩
    · simp at h0
    · simp only [Value.slice.injEq, Option.some.injEq, Addr.mk.injEq, and_true] at e
      obtain ⟨rfl, _⟩ := e
      exact frozen_row' hh i
  · have hu := h.2.1 R[i] (List.getElem_mem hi)
    have hap := hu.apart h.1
    have hat := hu.at
    obtain ⟨⟨_, hv⟩, _, _⟩ := hu
    rcases hv with ⟨_, h0⟩ | ⟨b, c, cur, e, hb, hh, hc, hm, hs, ht⟩
    · omega
    · refine ⟨b, c, (R[i].2.2[j] : Nat), e, ?_, ⟨hb, hM R[i] (List.getElem_mem hi) b (by rw [e]; rfl)⟩, ?_, frozen_row' hh j⟩
      · exact hap b (by rw [e]; rfl)
      · obtain ⟨ad', b', off', cap', e', had, _, hr⟩ := hat
        rw [e] at e'
        simp only [Value.slice.injEq] at e'
        obtain ⟨rfl, _, rfl⟩ := e'
        obtain ⟨rfl, rfl⟩ : b = b' ∧ 0 = off' := by
          rcases had with h | h
          · simpa using h
          · omega
        have := (hr j hj).1
        rwa [Nat.zero_add] at this
theorem Spm.put {w wr : World} {base M g n : Nat} {R : List Sv} (h : Spm w wr base M g R n) {b j : Nat} {x : Int} (hb : base ≤ b ∧ b < M) (hbg : b ≠ g) (hc : wr.cell? ⟨b, j, none⟩ = some (.int .u32 x)) : Spm w (wr.setCell ⟨b, j, none⟩ (.int .u32 77)) base M g R n := by
  refine ⟨fun i hi => ?_, fun i hi hn => ?_, fun i hi => ?_, fun i hi k hk => ?_, h.bel.setCell (by exact hb.1) _, fun k hk => by rw [Below.heap_setCell wr ⟨b, j, none⟩ _ k (by show k ≠ b; omega)]; exact h.abv k hk⟩
  · obtain ⟨y, hy⟩ := h.kin i hi
    exact ⟨y, by rw [World.cell?_setCell_other _ _ _ _ (by intro h; injection h with h1 h2; omega)]; exact hy⟩
  · rw [World.cell?_setCell_other _ _ _ _ (by intro h; injection h with h1 h2; omega)]; exact h.cel i hi hn
  · rw [World.frozen?_setCell]; exact h.fro i hi
  · obtain ⟨b', c, y, e, hne, hb', hy, hf⟩ := h.row i hi k hk
    by_cases he : b' = b ∧ k = j
    · obtain ⟨rfl, rfl⟩ := he
      exact ⟨b', c, 77, e, hne, hb', World.cell?_setCell_same _ _ _ hc, by rw [World.frozen?_setCell]; exact hf⟩
    · exact ⟨b', c, y, e, hne, hb', by rw [World.cell?_setCell_other _ _ _ _ (by intro h; injection h with h1 h2; first | omega | exact he ⟨h1.symm, h2.symm⟩)]; exact hy, by rw [World.frozen?_setCell]; exact hf⟩
theorem Spm.next {w wr : World} {base M g n : Nat} {R : List Sv} (h : Spm w wr base M g R n) (hg : base ≤ g) (hgM : g < M) : Spm w ((wr.setCell ⟨g, n * 2, none⟩ (.int .i64 0)).setCell ⟨g, n * 2 + 1, none⟩ (.slice none 0 0)) base M g R (n + 1) := by
  refine ⟨fun i hi => ?_, fun i hi hni => ?_, fun i hi => ?_, fun i hi k hk => ?_, (h.bel.setCell (by exact hg) _).setCell (by exact hg) _, fun k hk => by rw [Below.heap_setCell _ ⟨g, n * 2 + 1, none⟩ _ k (by show k ≠ g; omega), Below.heap_setCell _ ⟨g, n * 2, none⟩ _ k (by show k ≠ g; omega)]; exact h.abv k hk⟩
  · rw [World.cell?_setCell_other _ _ _ _ (by intro h; injection h with h1 h2; omega)]
    obtain ⟨y, hy⟩ := h.kin i hi
    by_cases e : n = i
    · subst e; exact ⟨0, World.cell?_setCell_same _ _ _ hy⟩
    · exact ⟨y, by rw [World.cell?_setCell_other _ _ _ _ (by intro h; injection h with h1 h2; omega)]; exact hy⟩
  · rw [World.cell?_setCell_other _ _ _ _ (by intro h; injection h with h1 h2; omega), World.cell?_setCell_other _ _ _ _ (by intro h; injection h with h1 h2; omega)]; exact h.cel i hi (by omega)
  · rw [World.frozen?_setCell, World.frozen?_setCell]; exact h.fro i hi
  · obtain ⟨b', c, y, e, hne, hb', hy, hf⟩ := h.row i hi k hk
    exact ⟨b', c, y, e, hne, hb', by rw [World.cell?_setCell_other _ _ _ _ (by intro h; injection h with h1 h2; omega), World.cell?_setCell_other _ _ _ _ (by intro h; injection h with h1 h2; omega)]; exact hy, by rw [World.frozen?_setCell, World.frozen?_setCell]; exact hf⟩
set_option maxRecDepth 100000 in
set_option maxHeartbeats 800000 in
theorem spoil_abv (v : Value) (w : World) (base M : Nat) (R : List Sv) (h : OwnS w base v R) (hv0 : ∀ b, v.ownBlock = some b → b < M) (hM : ∀ r ∈ R, ∀ b, r.2.1.ownBlock = some b → b < M) :
    Calls Tryd.prog 25 #[v] w fun e w' => e = .returned (.tuple #[]) ∧ Below base w w' ∧ ∀ k, M ≤ k → w'.heap[k]? = w.heap[k]? := by
  have HO : Hid (OwnS _ _ _ _) := h
  have hRl := h.2.2
  have HUL : Hid (∀ i (hi : i < R.length), R[i].2.2.length ≤ 35184372088832) := fun i hi => (h.2.1 R[i] (List.getElem_mem hi)).2.2
  have HSL : Hid (∀ i (hi : i < R.length), ∃ ad c, R[i].2.1 = .slice ad R[i].2.2.length c) := fun i hi => slice_of_owns (h.2.1 R[i] (List.getElem_mem hi)).1
  obtain ⟨⟨_, hv⟩, _, _⟩ := h
  rcases hv with ⟨rfl, h0⟩ | ⟨g, cap, cur, rfl, hg, hh, hc, hm, hs, ht⟩
  · refine (spoil_none 0 0 w rfl).mono ?_
    rintro e w' ⟨rfl, rfl⟩
    exact ⟨rfl, Below.refl _ _, fun _ _ => rfl⟩
  · have hgM : g < M := hv0 g rfl
    have HS : Hid (Spm _ _ _ _ _ _ _) := Spm.start HO.out hM
    clear hh hm hs ht hv0 hM
    go_enter Tryd.func25, Tryd.ntmps25
    go_wp2
    go_loopw [2] (fun i wr => ∃ n : Nat, n ≤ R.length ∧ i = .int .i64 n ∧ Spm w wr base M g R n) (fun i _ => R.length - (intOf i).toNat)
    case atStart => exact ⟨0, Nat.zero_le _, rfl, HS.out⟩
    case round =>
      obtain ⟨n, hn, rfl, hq⟩ := hrel
      by_cases hlt : n < R.length
      · have HQ : Hid (Spm _ _ _ _ _ _ _) := hq
        obtain ⟨ad, c, hu⟩ := HSL.out n hlt
        have hul := HUL.out n hlt
        clear hq
        go_wp2
        go_loopw [3] (fun i wr2 => ∃ j : Nat, j ≤ R[n].2.2.length ∧ i = .int .i64 j ∧ Spm w wr2 base M g R n) (fun i _ => R[n].2.2.length - (intOf i).toNat)
        case atStart => exact ⟨0, Nat.zero_le _, rfl, HQ.out⟩
        case round =>
          obtain ⟨j, hj, rfl, hp⟩ := hrel
          have HP : Hid (Spm _ _ _ _ _ _ _) := hp
          have c1 := hp.cel n hlt (Nat.le_refl _)
          rw [hu] at c1
          by_cases hlt2 : j < R[n].2.2.length
          · obtain ⟨b, c', x, e, hbg, hb, hx, hf⟩ := hp.row n hlt j hlt2
            rw [hu] at e
            simp only [Value.slice.injEq, true_and] at e
            obtain ⟨rfl, rfl⟩ := e
            have HP2 : Hid (Spm _ _ _ _ _ _ _) := hp.put hb hbg hx
            clear hp
            generalize R[n].2.2.length = m at *
            go_wp2
            go_roundw
            case rel => exact ⟨j + 1, by omega, by go_num, HP2.out⟩
            case measure => simp [intOf]; omega
          · obtain ⟨x0, c0⟩ := hp.kin n hlt
            have f0 := hp.fro (n * 2) (by omega)
            have f1 := hp.fro (n * 2 + 1) (by omega)
            have HP2 : Hid (Spm _ _ _ _ _ _ _) := hp.next hg hgM
            clear hp
            generalize R[n].2.2.length = m at *
            obtain rfl : j = m := by omega
            go_wp2
            go_roundw
            case rel => exact ⟨n + 1, by omega, by go_num, HP2.out⟩
            case measure => simp [intOf]; omega
      · obtain rfl : n = R.length := by omega
        go_wp2
        go_end0
        exact ⟨rfl, hq.bel, hq.abv⟩
end Go.Proofs.YtbdfigfjoiefiaaDoor
