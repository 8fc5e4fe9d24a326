/-
  The reference's Cancel, Drop.
-/
import Derived.Test.YtgplhdhnailpfaaL1
set_option linter.unusedSimpArgs false
set_option maxRecDepth 100000
namespace Go.Proofs.Ytgplhdhnailpfaa
open Go.RowKit Go.Maps
theorem filt_yes {L : List Fd} (f : Fd → Bool) (j : Nat) (hj : j < L.length) (h : f L[j] = true) : (L.take (j + 1)).filter f = (L.take j).filter f ++ [L[j]] := by
  rw [List.take_succ_eq_append_getElem hj, List.filter_append]; simp [h]
theorem filt_no {L : List Fd} (f : Fd → Bool) (j : Nat) (hj : j < L.length) (h : f L[j] = false) : (L.take (j + 1)).filter f = (L.take j).filter f := by
  rw [List.take_succ_eq_append_getElem hj, List.filter_append]; simp [h]
theorem filt_len {L : List Fd} (f : Fd → Bool) (j : Nat) : ((L.take j).filter f).length ≤ j := Nat.le_trans (List.length_filter_le _ _) (List.length_take_le _ _)
set_option maxHeartbeats 2000000 in
theorem rcancel_any {w : World} {v : Value} {L : List Fd} (h : FsAt w v L) (k : Ky) (hl : L.length ≤ 50000) :
    Calls Try.prog 13 #[v, .agg #[.int .i64 k.kind, .string k.peer, .int .i64 k.fam]] w fun e w' => ∃ u, e = .returned u ∧ OwnF w' w.heap.size u (without L k) ∧ Below w.heap.size w w' := by
  obtain ⟨i0, hi, hz0, hz1, hz2⟩ := info_parts info48
  have HB1 : Hid (Below w.heap.size w (w.alloc (.cells #[.int .i64 k.kind, .string k.peer, .int .i64 k.fam] 27)) ∧ (w.alloc (.cells #[.int .i64 k.kind, .string k.peer, .int .i64 k.fam] 27)).heap.size = w.heap.size + 1) := ⟨(Below.refl _ _).alloc (Nat.le_refl _) _, by simp⟩
  by_cases hn : L = []
  · subst hn
    obtain ⟨ad, cap, rfl, _⟩ := h.shape
    clear h hl
    go_enter Try.func13, Try.ntmps13
    go_wp2
    refine wp_loop_rounds 1 ?_
    rw [rounds_succ]
    go_wp2
    go_ret
    exact ⟨_, rfl, World.ownsRow_nil _ _ _ _, HB1.out.1⟩
  · obtain ⟨g, off, cap, rfl, _, hs⟩ := h.cell hn
    have HS : Hid (∀ W, Below w.heap.size w W → ∀ j (h : j < L.length), FoAt W g (off + j * 4) L[j]) := fun W hb j hj => (hs j hj).below hb
    have hlI : (L.length : Int) ≤ 50000 := by omega
    clear hs h hn hl
    go_enter Try.func13, Try.ntmps13
    go_wp2
    refine with_world (fun W => Below w.heap.size w W ∧ BoxAt W w.heap.size k ∧ W.heap.size = w.heap.size + 1) ⟨HB1.out.1, BoxAt.new w k, HB1.out.2⟩ ?_
    rintro w1 ⟨hb1, hx1, hz1'⟩
    have HW1 : Hid (Below w.heap.size w w1 ∧ BoxAt w1 w.heap.size k ∧ w1.heap.size = w.heap.size + 1) := ⟨hb1, hx1, hz1'⟩
    clear hb1 hx1 hz1' HB1
    go_loopw [5, 6] (fun u i wr => ∃ j : Nat, j ≤ L.length ∧ i = .int .i64 j ∧ Below w1.heap.size w1 wr ∧ OwnF wr w1.heap.size u ((L.take j).filter fun x => !keyB x.key k)) (fun _ i _ => L.length - (intOf i).toNat)
    case atStart => exact ⟨0, Nat.zero_le _, rfl, Below.refl _ _, World.ownsRow_nil _ _ _ _⟩
    case round =>
      obtain ⟨j, hj, rfl, hbel, hown⟩ := hrel
      have HB : Hid (Below w.heap.size w wr) := HW1.out.1.trans (hbel.mono HW1.out.1.size)
      have HBW : Hid (Below w1.heap.size w1 wr) := hbel
      obtain ⟨b0, b1, b2⟩ := HW1.out.2.1.below hbel
      obtain ⟨adv, cv, hv⟩ := slice_of_owns hown
      subst hv
      have HO : Hid (OwnF wr w1.heap.size _ ((L.take j).filter fun x => !keyB x.key k)) := hown
      have HLE : Hid (((L.take j).filter fun x => !keyB x.key k).length ≤ j) := filt_len _ j
      clear hbel hown
      by_cases hlt : j < L.length
      · have hlt' : (j : Int) < (L.length : Int) := by omega
        obtain ⟨c0, c1, c2, c3⟩ := HS.out wr HB.out j hlt
        have HY : Hid (keyB L[j].key k = false → (L.take (j + 1)).filter (fun x => !keyB x.key k) = (L.take j).filter (fun x => !keyB x.key k) ++ [L[j]]) := fun e => filt_yes (fun x => !keyB x.key k) j hlt (by simp [e])
        have HN : Hid (keyB L[j].key k = true → (L.take (j + 1)).filter (fun x => !keyB x.key k) = (L.take j).filter (fun x => !keyB x.key k)) := fun e => filt_no (fun x => !keyB x.key k) j hlt (by simp [e])
        generalize L[j] = x at *
        generalize (L.take j).filter (fun x => !keyB x.key k) = F at *
        have hF : F.length + 1 ≤ 60000 := by have := HLE.out; omega
        rcases key_cases x.key k with he | ⟨he, q1⟩ | ⟨he, q1, q2⟩ | ⟨he, q1, q2, q3⟩
        · have HA : Hid (_ = F) := HN.out (keyB_iff.2 he)
          rw [← he] at b0 b1 b2
          clear he
          go_wp2
          go_quiet (fail)
          go_wp2
          go_roundw
          case rel => exact ⟨j + 1, by omega, by go_num, below_drewN HBW.out _, by rw [HA.out]; exact owns_below HO.out (below_drewN (Below.refl _ _) _)⟩
          case measure => simp [intOf]; omega
        all_goals
          have HA : Hid (_ = F ++ [x]) := HY.out (keyB_ne he)
          clear he
          go_wp2
          go_quiet (fail)
          (try clear q1)
          (try clear q2)
          (try clear q3)
          have HB5 : Hid (Below w1.heap.size w1 (wr.drewN nq)) := below_drewN HBW.out _
          have HO5 : Hid (OwnF (wr.drewN nq) w1.heap.size (.slice adv F.length cv) F) := owns_below HO.out (below_drewN (Below.refl _ _) _)
          obtain ⟨d0, d1, d2, d3⟩ : FoAt (wr.drewN nq) g (off + j * 4) x := FoAt.below ⟨c0, c1, c2, c3⟩ (below_drewN (Below.refl _ _) _)
          clear c0 c1 c2 c3 b0 b1 b2
          generalize wr.drewN nq = w5 at *
          go_wp2_with (at_builtin; refine wpList_append_own _ rfl _ _ 25 rfl w1.heap.size 48 i0 (.agg #[.int .u64 0, .int .i64 0, .string ⟨#[]⟩, .int .i64 0]) 4 40 Try.underlying25 hi hz0 hz1 hz2 rfl (by decide) _ _ _ rfl (World.ownsRow.alloc HO5.out _) ⟨w5.heap.size, 0, none⟩ 1 1 [.int .u64 (x.at' : Int), .int .i64 x.key.kind, .string x.key.peer, .int .i64 x.key.fam] rfl rfl (news4 w5 _ _ _ _ 48) (four_f x) (by unfold maxLen; omega) (by omega) (Nat.le_trans HB5.out.size (by simp)) ?_; intro v6 w6 hown6 hgrow6 _)
          have HO6 : Hid (OwnF w6 w1.heap.size v6 (F ++ [x])) := by
            unfold Hid OwnF; rw [cellsF_snoc, List.length_append]; exact hown6
          have HB6 : Hid (Below w1.heap.size w1 w6) := (HB5.out.alloc HB5.out.size _).grown hgrow6 (HB5.out.alloc HB5.out.size _).size (fun k e => (owns_lt HO.out k e).1)
          clear hown6 hgrow6
          go_wp2
          go_roundw
          case rel => exact ⟨j + 1, by omega, by go_num, HB6.out, by rw [HA.out]; exact HO6.out⟩
          case measure => simp [intOf]; omega
      · obtain rfl : j = L.length := by omega
        have HA : Hid (OwnF wr w.heap.size (.slice adv ((L.take L.length).filter fun x => !keyB x.key k).length cv) (without L k)) := by
          have := owns_mono HO.out (base' := w.heap.size) (by have := HW1.out.2.2; omega)
          unfold Hid OwnF without
          rw [List.take_length] at this ⊢
          exact this
        generalize (L.take L.length).filter (fun x => !keyB x.key k) = F at *
        go_wp2
        go_ret
        exact ⟨_, rfl, HA.out, HB.out⟩
set_option maxHeartbeats 2000000 in
theorem rdrop_any {w : World} {v : Value} {L : List Fd} (h : FsAt w v L) (s : ByteArray) (hl : L.length ≤ 50000) :
    Calls Try.prog 17 #[v, .string s] w fun e w' => ∃ u, e = .returned u ∧ OwnF w' w.heap.size u (others L s) ∧ Below w.heap.size w w' := by
  obtain ⟨i0, hi, hz0, hz1, hz2⟩ := info_parts info48
  by_cases hn : L = []
  · subst hn
    obtain ⟨ad, cap, rfl, _⟩ := h.shape
    clear h hl
    go_enter Try.func17, Try.ntmps17
    go_wp2
    refine wp_loop_rounds 1 ?_
    rw [rounds_succ]
    go_wp2
    go_ret
    exact ⟨_, rfl, World.ownsRow_nil _ _ _ _, Below.refl _ _⟩
  · obtain ⟨g, off, cap, rfl, _, hs⟩ := h.cell hn
    have HS : Hid (∀ W, Below w.heap.size w W → ∀ j (h : j < L.length), FoAt W g (off + j * 4) L[j]) := fun W hb j hj => (hs j hj).below hb
    have hlI : (L.length : Int) ≤ 50000 := by omega
    clear hs h hn hl
    go_enter Try.func17, Try.ntmps17
    go_wp2
    go_loopw [5, 6] (fun u i wr => ∃ j : Nat, j ≤ L.length ∧ i = .int .i64 j ∧ Below w.heap.size w wr ∧ OwnF wr w.heap.size u ((L.take j).filter fun x => !(x.key.peer.toList == s.toList))) (fun _ i _ => L.length - (intOf i).toNat)
    case atStart => exact ⟨0, Nat.zero_le _, rfl, Below.refl _ _, World.ownsRow_nil _ _ _ _⟩
    case round =>
      obtain ⟨j, hj, rfl, hbel, hown⟩ := hrel
      have HBW : Hid (Below w.heap.size w wr) := hbel
      obtain ⟨adv, cv, hv⟩ := slice_of_owns hown
      subst hv
      have HO : Hid (OwnF wr w.heap.size _ ((L.take j).filter fun x => !(x.key.peer.toList == s.toList))) := hown
      have HLE : Hid (((L.take j).filter fun x => !(x.key.peer.toList == s.toList)).length ≤ j) := filt_len _ j
      clear hbel hown
      by_cases hlt : j < L.length
      · have hlt' : (j : Int) < (L.length : Int) := by omega
        obtain ⟨c0, c1, c2, c3⟩ := HS.out wr HBW.out j hlt
        have HY : Hid ((L[j].key.peer.toList == s.toList) = false → (L.take (j + 1)).filter (fun x => !(x.key.peer.toList == s.toList)) = (L.take j).filter (fun x => !(x.key.peer.toList == s.toList)) ++ [L[j]]) := fun e => filt_yes (fun x => !(x.key.peer.toList == s.toList)) j hlt (by simp only [e]; rfl)
        have HN : Hid ((L[j].key.peer.toList == s.toList) = true → (L.take (j + 1)).filter (fun x => !(x.key.peer.toList == s.toList)) = (L.take j).filter (fun x => !(x.key.peer.toList == s.toList))) := fun e => filt_no (fun x => !(x.key.peer.toList == s.toList)) j hlt (by simp only [e]; rfl)
        generalize L[j] = x at *
        generalize (L.take j).filter (fun x => !(x.key.peer.toList == s.toList)) = F at *
        have hF : F.length + 1 ≤ 60000 := by have := HLE.out; omega
        cases he : (x.key.peer.toList == s.toList)
        · have HA : Hid (_ = F ++ [x]) := HY.out he
          go_wp2_with (at_builtin; refine wpList_append_own _ rfl _ _ 25 rfl w.heap.size 48 i0 (.agg #[.int .u64 0, .int .i64 0, .string ⟨#[]⟩, .int .i64 0]) 4 40 Try.underlying25 hi hz0 hz1 hz2 rfl (by decide) _ _ _ rfl (World.ownsRow.alloc HO.out _) ⟨wr.heap.size, 0, none⟩ 1 1 [.int .u64 (x.at' : Int), .int .i64 x.key.kind, .string x.key.peer, .int .i64 x.key.fam] rfl rfl (news4 wr _ _ _ _ 48) (four_f x) (by unfold maxLen; omega) (by omega) (Nat.le_trans HBW.out.size (by simp)) ?_; intro v6 w6 hown6 hgrow6 _)
          have HO6 : Hid (OwnF w6 w.heap.size v6 (F ++ [x])) := by
            unfold Hid OwnF; rw [cellsF_snoc, List.length_append]; exact hown6
          have HB6 : Hid (Below w.heap.size w w6) := (HBW.out.alloc HBW.out.size _).grown hgrow6 (HBW.out.alloc HBW.out.size _).size (fun k e => (owns_lt HO.out k e).1)
          clear hown6 hgrow6
          go_wp2
          go_roundw
          case rel => exact ⟨j + 1, by omega, by go_num, HB6.out, by rw [HA.out]; exact HO6.out⟩
          case measure => simp [intOf]; omega
        · have HA : Hid (_ = F) := HN.out he
          go_wp2
          go_roundw
          case rel => exact ⟨j + 1, by omega, by go_num, HBW.out, by rw [HA.out]; exact HO.out⟩
          case measure => simp [intOf]; omega
      · obtain rfl : j = L.length := by omega
        have HA : Hid (OwnF wr w.heap.size (.slice adv ((L.take L.length).filter fun x => !(x.key.peer.toList == s.toList)).length cv) (others L s)) := by
          have := HO.out
          unfold Hid OwnF others
          rw [List.take_length] at this ⊢
          exact this
        generalize (L.take L.length).filter (fun x => !(x.key.peer.toList == s.toList)) = F at *
        go_wp2
        go_ret
        exact ⟨_, rfl, HA.out, HBW.out⟩
end Go.Proofs.Ytgplhdhnailpfaa
