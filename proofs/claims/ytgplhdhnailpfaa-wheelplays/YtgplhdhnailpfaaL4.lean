/-
  The reference's Take, Same.
-/
import Derived.Test.YtgplhdhnailpfaaL1
set_option linter.unusedSimpArgs false
set_option maxRecDepth 100000
namespace Go.Proofs.Ytgplhdhnailpfaa
open Go.RowKit Go.Maps
theorem due_len {L : List Fd} (h : InOrder L) (now n : Nat) (hn : n ≤ L.length) (h1 : ∀ j (hj : j < n), (L[j]'(by omega)).at' ≤ now) (h2 : n = L.length ∨ ∃ hlt : n < L.length, now < (L[n]'hlt).at') : (dueF L now).length = n := by
  have e := due_first h now
  have hd : ∀ x ∈ dueF L now, x.at' ≤ now := fun x hx => by simpa using (List.mem_filter.1 hx).2
  have hl : ∀ x ∈ leftF L now, now < x.at' := fun x hx => (left_mem hx).2
  generalize dueF L now = D at *
  generalize leftF L now = R at *
  subst e
  by_cases h3 : D.length < n
  · exfalso
    have h4 := h1 D.length h3
    rw [List.getElem_append_right (Nat.le_refl _)] at h4
    have h5 := hl _ (List.getElem_mem (by simp at hn ⊢; omega : D.length - D.length < R.length))
    omega
  · by_cases h6 : n < D.length
    · exfalso
      rcases h2 with h2 | ⟨hlt, h2⟩
      · simp at h2; omega
      · rw [List.getElem_append_left h6] at h2
        have := hd _ (List.getElem_mem h6)
        omega
    · omega
theorem FsAt.take {w : World} {g off cap : Nat} {L : List Fd} (hs : ∀ j (h : j < L.length), FoAt w g (off + j * 4) L[j]) (n : Nat) (hn : n ≤ L.length) (hc : L.length ≤ cap) : FsAt w (.slice (some ⟨g, off, none⟩) n cap) (L.take n) := by
  have hl : (L.take n).length = n := by rw [List.length_take]; omega
  refine ⟨⟨_, _, by rw [hl], by omega⟩, fun _ => ⟨g, off, cap, by rw [hl], by omega, fun j hj => ?_⟩⟩
  rw [List.getElem_take]
  exact hs j (by omega)
theorem FsAt.drop {w : World} {g off : Nat} {L : List Fd} (hs : ∀ j (h : j < L.length), FoAt w g (off + j * 4) L[j]) (n m o c : Nat) (hn : n ≤ L.length) (ho : o = off + n * 4) (hm : m = L.length - n) (hc : m ≤ c) : FsAt w (.slice (some ⟨g, o, none⟩) m c) (L.drop n) := by
  have hl : (L.drop n).length = m := by rw [List.length_drop]; omega
  refine ⟨⟨_, _, by rw [hl], by omega⟩, fun _ => ⟨g, o, c, by rw [hl], by omega, fun j hj => ?_⟩⟩
  rw [List.getElem_drop, ho, show off + n * 4 + j * 4 = off + (n + j) * 4 by omega]
  exact hs (n + j) (by omega)
theorem slice_h (w : World) (a : Option Addr) (len cap n : Nat) (h : n ≤ cap) : (Instr.slice 25 (.slice a len cap) none (some (.int .i64 (n : Int))) none).run Try.prog w = .ok (sliced a 0 n cap 4) w := by
  rw [run_slice_h (P := Try.prog) w 25 a len cap Try.underlying25 .i64 (n : Int) (by omega) (by omega)]
  rfl
theorem slice_l (w : World) (a : Option Addr) (len cap n : Nat) (h : n ≤ len) : (Instr.slice 25 (.slice a len cap) (some (.int .i64 (n : Int))) none none).run Try.prog w = .ok (sliced a n len cap 4) w := by
  rw [run_slice_l (P := Try.prog) w 25 a len cap Try.underlying25 .i64 (n : Int) (by omega) (by omega)]
  rfl
theorem FsAt.empty (w : World) (a : Option Addr) (n c : Nat) (h : n = 0) : FsAt w (.slice a n c) [] := by subst h; exact ⟨⟨a, c, rfl, Nat.zero_le _⟩, fun h => absurd rfl h⟩
theorem FsAt.sliced_h {w : World} {a : Option Addr} {cap : Nat} {L : List Fd} (h : FsAt w (.slice a L.length cap) L) (n : Nat) (hn : n ≤ L.length) : FsAt w (sliced a 0 n cap 4) (L.take n) := by
  obtain ⟨_, _, e, hc⟩ := h.shape
  injection e with e1 _ e2
  subst e1 e2
  have es : sliced a 0 n cap 4 = .slice a n cap := by
    unfold sliced
    split
    · rfl
    · cases a with
      | none => rfl
      | some a => simp [Addr.add]
  rw [es]
  by_cases h0 : n = 0
  · subst h0; exact FsAt.empty w a 0 cap rfl
  · obtain ⟨g, off, c, e, hc2, hs⟩ := h.cell (fun e => by rw [e] at hn; simp at hn; omega)
    injection e with e1 _ e2
    subst e1
    exact FsAt.take hs n hn hc
theorem FsAt.sliced_l {w : World} {a : Option Addr} {cap : Nat} {L : List Fd} (h : FsAt w (.slice a L.length cap) L) (n : Nat) (hn : n ≤ L.length) : FsAt w (sliced a n L.length cap 4) (L.drop n) := by
  obtain ⟨_, _, e, hc⟩ := h.shape
  injection e with e1 _ e2
  subst e1 e2
  unfold sliced
  by_cases h0 : n = L.length
  · subst h0
    rw [List.drop_length]
    exact FsAt.empty w _ _ _ (by omega)
  · obtain ⟨g, off, c, e, hc2, hs⟩ := h.cell (fun e => by rw [e] at hn h0; simp at hn h0; omega)
    injection e with e1 _ e2
    subst e1
    rw [if_neg (by omega)]
    have ea : (some (⟨g, off, none⟩ : Addr)).map (·.add (n * 4)) = some ⟨g, off + n * 4, none⟩ := by
      simp only [Option.map_some, Addr.add]
      by_cases h4 : n * 4 = 0 <;> simp [h4]
    rw [ea]
    exact FsAt.drop hs n _ _ _ hn rfl rfl (by omega)
set_option maxHeartbeats 1000000 in
theorem rtake_any {w : World} {v : Value} {L : List Fd} (h : FsAt w v L) (hord : InOrder L) (now : Nat) (hl : L.length ≤ 50000) :
    Calls Try.prog 14 #[v, .int .u64 (now : Int)] w fun e w' => ∃ u1 u2, e = .returned (.tuple #[u1, u2]) ∧ FsAt w' u1 (dueF L now) ∧ FsAt w' u2 (leftF L now) ∧ Below w.heap.size w w' := by
  have HT : Hid (L.take (dueF L now).length = dueF L now) := take_due hord now
  have HD : Hid (L.drop (dueF L now).length = leftF L now) := drop_due hord now
  have HO : Hid (InOrder L) := hord
  obtain ⟨ad, cap, hv, hc⟩ := h.shape
  subst hv
  have HF : Hid (FsAt w (.slice ad L.length cap) L) := h
  have HSH : Hid (∀ n, n ≤ L.length → FsAt w (sliced ad 0 n cap 4) (L.take n)) := fun n hn => h.sliced_h n hn
  have HSL : Hid (∀ n, n ≤ L.length → FsAt w (sliced ad n L.length cap 4) (L.drop n)) := fun n hn => h.sliced_l n hn
  have HC : Hid (L.length ≤ cap) := hc
  clear h hc hord
  by_cases hn : L = []
  · subst hn
    have HH : Hid (FsAt w (.slice ad 0 cap) (dueF [] now) ∧ FsAt w (.slice ad 0 cap) (leftF [] now)) := ⟨FsAt.empty _ _ _ _ rfl, FsAt.empty _ _ _ _ rfl⟩
    clear HT HD HO HF HSH HSL HC
    go_enter Try.func14, Try.ntmps14
    go_wp2
    refine wp_loop_rounds 1 ?_
    rw [rounds_succ]
    go_wp2
    go_quiet (fail)
    go_wp2
    go_ret2
    exact ⟨_, _, rfl, HH.out.1.below (below_drewN (Below.refl _ _) _), HH.out.2.below (below_drewN (Below.refl _ _) _), below_drewN (Below.refl _ _) _⟩
  · obtain ⟨g, off, cap', he, _, hs⟩ := HF.out.cell hn
    injection he with he _ h9
    subst he
    subst h9
    have HS : Hid (∀ j (h : j < L.length), FoAt w g (off + j * 4) L[j]) := hs
    have hlI : (L.length : Int) ≤ 50000 := by omega
    clear hs hn hl HF
    go_enter Try.func14, Try.ntmps14
    go_wp2
    go_loop [6] (fun i => ∃ n : Nat, n ≤ L.length ∧ i = .int .i64 n ∧ ∀ j (hj : j < L.length), j < n → L[j].at' ≤ now) (fun i => L.length - (intOf i).toNat)
    case atStart => exact ⟨0, Nat.zero_le _, rfl, fun j _ h => absurd h (Nat.not_lt_zero _)⟩
    case round =>
      obtain ⟨n, hn, rfl, hall⟩ := hrel
      have HA : Hid (∀ j (hj : j < L.length), j < n → L[j].at' ≤ now) := hall
      clear hall
      have HZ : Hid (FsAt w (sliced (some ⟨g, off, none⟩) 0 n cap 4) (L.take n) ∧ FsAt w (sliced (some ⟨g, off, none⟩) n L.length cap 4) (L.drop n)) := ⟨HSH.out n hn, HSL.out n hn⟩
      by_cases hlt : n < L.length
      · have hlt' : (n : Int) < (L.length : Int) := by omega
        obtain ⟨c0, c1, c2, c3⟩ := HS.out n hlt
        by_cases ht : L[n].at' ≤ now
        · have ht' : ((L[n].at' : Nat) : Int) ≤ (now : Int) := by omega
          have HA2 : Hid (∀ j (hj : j < L.length), j < n + 1 → L[j].at' ≤ now) := fun j hj h => by
            by_cases e : j = n
            · subst e; exact ht
            · exact HA.out j hj (by omega)
          clear ht
          go_wp2
          go_round
          case rel => exact ⟨n + 1, by omega, by go_num, HA2.out⟩
          case measure => simp [intOf]; omega
        · have ht' : ¬ ((L[n].at' : Nat) : Int) ≤ (now : Int) := by omega
          have ht2 : decide (((L[n].at' : Nat) : Int) ≤ (now : Int)) = false := by simpa using ht'
          have HN : Hid ((dueF L now).length = n) := due_len HO.out now n hn (fun j hj => HA.out j (by omega) hj) (Or.inr ⟨hlt, by omega⟩)
          have HZ2 : Hid (FsAt w (.slice (some ⟨g, off, none⟩) n cap) (dueF L now) ∧ FsAt w (.slice (some ⟨g, off + n * 4, none⟩) (L.length - n) (cap - n)) (leftF L now)) := by
            have e1 : sliced (some ⟨g, off, none⟩) 0 n cap 4 = .slice (some ⟨g, off, none⟩) n cap := by simp [sliced, Addr.add]
            have e2 : sliced (some ⟨g, off, none⟩) n L.length cap 4 = .slice (some ⟨g, off + n * 4, none⟩) (L.length - n) (cap - n) := by
              have := HC.out
              unfold sliced; rw [if_neg (by omega)]; simp only [Option.map_some, Addr.add]
              by_cases h4 : n * 4 = 0 <;> simp [h4]
            rw [e1, e2] at HZ
            unfold Hid; rw [← HT.out, ← HD.out, HN.out]; exact HZ.out
          clear ht HT HD HZ HN HSH HSL
          go_wp2
          go_quiet (fail)
          go_wp2
          go_ret2
          exact ⟨_, _, rfl, HZ2.out.1.below (below_drewN (Below.refl _ _) _), HZ2.out.2.below (below_drewN (Below.refl _ _) _), below_drewN (Below.refl _ _) _⟩
      · obtain rfl : n = L.length := by omega
        have HN : Hid ((dueF L now).length = L.length) := due_len HO.out now _ hn (fun j hj => HA.out j (by omega) hj) (Or.inl rfl)
        have HE : Hid (dueF L now = L ∧ leftF L now = []) := by
          unfold Hid; rw [← HT.out, ← HD.out, HN.out]; simp
        have HFL : Hid (FsAt w (.slice (some ⟨g, off, none⟩) L.length cap) L) := ⟨⟨_, _, rfl, HC.out⟩, fun _ => ⟨g, off, cap, rfl, HC.out, HS.out⟩⟩
        have hcI : (L.length : Int) ≤ (cap : Int) := by have := HC.out; omega
        clear HT HD HZ HN HSH HSL HC
        by_cases hcl : cap = L.length
        · subst hcl
          go_wp2
          go_quiet (fail)
          go_wp2
          go_ret2
          exact ⟨_, _, rfl, by rw [HE.out.1]; exact HFL.out.below (below_drewN (Below.refl _ _) _), by rw [HE.out.2]; exact FsAt.empty _ _ _ _ (by omega), below_drewN (Below.refl _ _) _⟩
        · go_wp2
          go_quiet (fail)
          go_wp2
          go_ret2
          exact ⟨_, _, rfl, by rw [HE.out.1]; exact HFL.out.below (below_drewN (Below.refl _ _) _), by rw [HE.out.2]; exact FsAt.empty _ _ _ _ (by omega), below_drewN (Below.refl _ _) _⟩
set_option maxHeartbeats 1000000 in
theorem rsame_yes {w : World} {v u : Value} {L : List Fd} (h : FsAt w v L) (h2 : FsAt w u L) (hl : L.length ≤ 50000) :
    Calls Try.prog 15 #[v, u] w fun e w' => e = .returned (.bool true) ∧ Below w.heap.size w w' := by
  by_cases hn : L = []
  · subst hn
    obtain ⟨ad, cap, rfl, _⟩ := h.shape
    obtain ⟨ad2, cap2, rfl, _⟩ := h2.shape
    clear h h2 hl
    go_enter Try.func15, Try.ntmps15
    go_wp2
    refine wp_loop_rounds 1 ?_
    rw [rounds_succ]
    go_wp2
    go_ret
    exact ⟨rfl, Below.refl _ _⟩
  · obtain ⟨g, off, cap, rfl, _, hs⟩ := h.cell hn
    obtain ⟨g2, off2, cap2, rfl, _, hs2⟩ := h2.cell hn
    have HS : Hid (∀ W, Below w.heap.size w W → ∀ j (h : j < L.length), FoAt W g (off + j * 4) L[j]) := fun W hb j hj => (hs j hj).below hb
    have HS2 : Hid (∀ W, Below w.heap.size w W → ∀ j (h : j < L.length), FoAt W g2 (off2 + j * 4) L[j]) := fun W hb j hj => (hs2 j hj).below hb
    have hlI : (L.length : Int) ≤ 50000 := by omega
    clear hs h hs2 h2 hn hl
    go_enter Try.func15, Try.ntmps15
    go_wp2
    go_loopw [5] (fun i wr => ∃ j : Nat, j ≤ L.length ∧ i = .int .i64 j ∧ Below w.heap.size w wr) (fun i _ => L.length - (intOf i).toNat)
    case atStart => exact ⟨0, Nat.zero_le _, rfl, Below.refl _ _⟩
    case round =>
      obtain ⟨j, hj, rfl, hbel⟩ := hrel
      have HB : Hid (Below w.heap.size w wr) := hbel
      clear hbel
      by_cases hlt : j < L.length
      · have hlt' : (j : Int) < (L.length : Int) := by omega
        obtain ⟨c0, c1, c2, c3⟩ := HS.out wr HB.out j hlt
        obtain ⟨d0, d1, d2, d3⟩ := HS2.out wr HB.out j hlt
        generalize L[j] = x at *
        go_wp2
        go_quiet (fail)
        go_wp2
        go_roundw
        case rel => exact ⟨j + 1, by omega, by go_num, below_drewN HB.out _⟩
        case measure => simp [intOf]; omega
      · have hlt' : ¬ (j : Int) < (L.length : Int) := by omega
        go_wp2
        go_ret
        exact ⟨rfl, HB.out⟩
end Go.Proofs.Ytgplhdhnailpfaa
