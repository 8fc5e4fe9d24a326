/-
  DrawPlays answers true.
-/
import Derived.Test.YtjgnnbbimkhjjaaC3
set_option linter.unusedSimpArgs false
set_option maxRecDepth 100000
namespace Go.Proofs.Ytjgnnbbimkhjjaa
open Go.RowKit
set_option maxHeartbeats 16000000 in
theorem plays_walk (w : World) (v : Value) (l : List Stp) (h : ArgD w v l) : Calls Try.prog 3 #[v] w fun e w' => e = .returned (.bool true) ∧ Below w.heap.size w w' := by
  have HA : Hid (ArgD w v l) := h
  obtain ⟨ad, cap, rfl⟩ := h.shape
  clear h
  go_enter Try.func3, Try.ntmps3
  go_wp2_with fail
  refine (new_any _).mono ?_
  rintro e w0 ⟨rfl, hw0, hb0⟩
  have HP0 : Hid (PyAt w w0 w.heap.size (.slice none 0 0) []) := ⟨hw0, QAt.nil _ _ _, hb0, Nat.le_refl _⟩
  generalize w.heap.size = p0 at HP0 ⊢
  clear hw0 hb0
  go_wp2_with fail
  go_loopw [3, 4, 5] (fun d u i wr => ∃ (n p : Nat) (L : List Nat), n ≤ l.length ∧ n ≤ 300 ∧ i = .int .i64 (n : Int) ∧ d = .pointer (some ⟨p, 0, none⟩) ∧ PyAt w wr p u L) (fun _ _ i _ => 300 - (intOf i).toNat)
  case atStart => exact ⟨0, p0, [], Nat.zero_le _, Nat.zero_le _, rfl, rfl, HP0.out⟩
  case round =>
    obtain ⟨n, p, L, hn, hn300, rfl, rfl, hpy⟩ := hrel
    obtain ⟨adu, cu, rfl⟩ := hpy.q.shape
    have HP : Hid (PyAt w wr p (.slice adu L.length cu) L) := hpy
    have HLS : Hid (L.length ≤ 64 ∧ ∀ x ∈ L, x < 4294967296) := hpy.d.small
    have hL64 : (L.length : Int) ≤ 64 := by have := HLS.out.1; omega
    clear hpy
    by_cases hlt : n < l.length ∧ n < 300
    · obtain ⟨hlt, hlt300⟩ := hlt
      have hltI : (n : Int) < (l.length : Int) := by omega
      have hlt300I : (n : Int) < 300 := by omega
      obtain ⟨bk, off, cap', ev, hcs⟩ := HA.out.cell (fun e => by rw [e] at hlt; simp at hlt)
      injection ev with ev _ ev2
      subst ev
      subst ev2
      have HC0 : Hid (SpAt wr bk (off + n * 3) l[n]) := (hcs n hlt).below HP.out.bel
      clear hcs
      generalize l[n] = x at *
      obtain ⟨c0, c1, c2⟩ := HC0.out
      obtain ⟨K, N, b, hN, hb⟩ := x
      simp only at c0 c1 c2
      have HX : Hid (∀ cs, cs = #[Value.int .i64 K, .int .u32 (N : Int), .int .i64 b] → PyAt w (wr.alloc (.cells cs 28)) p (.slice adu L.length cu) L ∧ p ≠ wr.heap.size ∧ w.heap.size ≤ wr.heap.size) := fun cs _ => ⟨HP.out.below ((Below.refl _ _).alloc (Nat.le_refl _) _), by have := HP.out.d.lt; omega, HP.out.bel.size⟩
      obtain ⟨s, hs1, hs2⟩ := kinds K
      rcases hs2 with hs2 | hs2 | hs2
      · -- Push
        by_cases h64 : 64 ≤ L.length
        · have h64' : (64 : Int) ≤ (L.length : Int) := by omega
          have HPU : Hid (∀ W, DAt W p L → Calls Try.prog 9 #[.pointer (some ⟨p, 0, none⟩), .int .u32 (N : Int)] W fun e w' => e = .returned (.int .i64 7) ∧ w' = W) := fun W h => push_full h h64 _
          go_wp2_with fail
          refine Calls.mono (HPU.out _ (HX.out _ rfl).1.d) ?_
          rintro e w1 ⟨rfl, hw1⟩
          subst w1
          have HPT : Hid (PyAt w (wr.alloc (.cells #[Value.int .i64 K, .int .u32 (N : Int), .int .i64 b] 28)) p (.slice adu L.length cu) L) := (HX.out _ rfl).1
          -- behind the step: as many wait
          have HLF : Hid (_ : Prop) := left_any HPT.out.d
          have hM64 : (L.length : Int) ≤ 64 := by have := HPT.out.d.small.1; omega
          go_wp2_with fail
          refine Calls.mono HLF.out ?_
          rintro e wq ⟨rfl, hwq⟩
          subst wq
          go_wp2
          go_roundw
          case rel => exact ⟨n + 1, p, L, by omega, by omega, by go_num, rfl, HPT.out⟩
          case measure => simp [intOf]; omega
        · have h64' : ¬ (64 : Int) ≤ (L.length : Int) := by omega
          have HPU : Hid (∀ W, DAt W p L → Calls Try.prog 9 #[.pointer (some ⟨p, 0, none⟩), .int .u32 (N : Int)] W fun e w' => e = .returned (.int .i64 0) ∧ DAt w' p (L ++ [N]) ∧ W.grownBy w' (some p)) := fun W h => push_ok h (by omega) hN
          go_wp2_with fail
          refine Calls.mono (HPU.out _ (HX.out _ rfl).1.d) ?_
          rintro e w1 ⟨rfl, hd1, hg1⟩
          have HD1 : Hid (DAt w1 p (L ++ [N]) ∧ QAt w1 w.heap.size p (.slice adu L.length cu) L ∧ Below w.heap.size w w1) := ⟨hd1, (HX.out _ rfl).1.q.kept hg1, (HX.out _ rfl).1.bel.grown hg1 (HX.out _ rfl).1.bel.size (fun k e => by cases e; exact HP.out.low)⟩
          have d1 : w1.cell? ⟨wr.heap.size, 1, none⟩ = some (.int .u32 (N : Int)) := hg1.cell (by simp) (fun e => by injection e with e; exact (HX.out _ rfl).2.1 e.symm)
          generalize wr.heap.size = bx at *
          clear hd1 hg1 c0 c1 c2
          go_wp2_with (at_builtin; refine wpList_append_q _ rfl _ _ rfl (B := w.heap.size) (p := p) (n := N) (L := L) rfl ⟨w1.heap.size, 0, none⟩ rfl (by simp) (HD1.out.2.1.below ((Below.refl _ _).alloc (Nat.le_refl _) _)) HLS.out.1 (by have := HD1.out.2.2.size; simp; omega) (by have := HD1.out.1.lt; simp; omega) ?_; intro u2 w2 row hq2 hg2 hr2)
          have HPT : Hid (PyAt w w2 p u2 (L ++ [N])) := by
            have hb0 : Below w1.heap.size w1 (w1.alloc (.cells #[.int .u32 (N : Int)] 26)) := (Below.refl _ _).alloc (Nat.le_refl _) _
            have hB := HD1.out.2.2.trans (hb0.mono HD1.out.2.2.size)
            exact ⟨(HD1.out.1.below hb0).kept hg2 (fun e => (hr2 p e.symm).2 rfl), hq2, hB.grown hg2 hB.size (fun k e => (hr2 k e).1), HP.out.low⟩
          clear hq2 hg2 hr2 HD1 HPU
          generalize L ++ [N] = M at HPT
          -- behind the step: as many wait
          have HLF : Hid (_ : Prop) := left_any HPT.out.d
          obtain ⟨adt, ct, et⟩ := HPT.out.q.shape
          subst et
          have hM64 : (M.length : Int) ≤ 64 := by have := HPT.out.d.small.1; omega
          go_wp2_with fail
          refine Calls.mono HLF.out ?_
          rintro e wq ⟨rfl, hwq⟩
          subst wq
          go_wp2
          go_roundw
          case rel => exact ⟨n + 1, p, M, by omega, by omega, by go_num, rfl, HPT.out⟩
          case measure => simp [intOf]; omega
      · -- Jitter
        have HRJ : Hid (∀ W, QAt W w.heap.size p (.slice adu L.length cu) L → _) := fun W h => rjit_any (b := b) hb h HLS.out.2
        have HJ : Hid (∀ W, DAt W p L → _) := fun W h => jitter_any (b := b) hb h
        generalize jitI L b = r at *
        generalize jitL L b = M at *
        go_wp2_with fail
        refine Calls.mono (HRJ.out _ (HX.out _ rfl).1.q) ?_
        rintro e w1 ⟨u1, rfl, hq1, hb1⟩
        have HD1 : Hid (DAt w1 p L ∧ QAt w1 w.heap.size p u1 M ∧ Below w.heap.size w w1) := ⟨(HX.out _ rfl).1.d.below hb1, hq1, (HX.out _ rfl).1.bel.trans (hb1.mono (HX.out _ rfl).1.bel.size)⟩
        have d2 : w1.cell? ⟨wr.heap.size, 2, none⟩ = some (.int .i64 b) := (grown_of_below hb1 none).cell (by simp) (by simp)
        generalize wr.heap.size = bx at *
        obtain ⟨ad1, cu1, e1⟩ := hq1.shape
        subst e1
        clear hq1 hb1 c0 c1 c2 HRJ
        go_wp2_with fail
        refine Calls.mono (HJ.out _ HD1.out.1) ?_
        rintro e w2 ⟨rfl, hd2, hg2⟩
        have HPT : Hid (PyAt w w2 p (.slice ad1 M.length cu1) M) := ⟨hd2, HD1.out.2.1.kept hg2, HD1.out.2.2.grown hg2 HD1.out.2.2.size (fun k e => by cases e; exact HP.out.low), HP.out.low⟩
        clear hd2 hg2 HD1 d2
        -- behind the step: as many wait
        have HLF : Hid (_ : Prop) := left_any HPT.out.d
        have hM64 : (M.length : Int) ≤ 64 := by have := HPT.out.d.small.1; omega
        go_wp2_with fail
        refine Calls.mono HLF.out ?_
        rintro e wq ⟨rfl, hwq⟩
        subst wq
        go_wp2
        go_roundw
        case rel => exact ⟨n + 1, p, M, by omega, by omega, by go_num, rfl, HPT.out⟩
        case measure => simp [intOf]; omega
      · -- Copy
        have HPU : Hid (∀ W, DAt W p L → _) := fun W h => push_any h hN
        have HJ9 : Hid (∀ W M, DAt W p M → Calls Try.prog 11 #[.pointer (some ⟨p, 0, none⟩), .int .i64 9] W fun e w' => ∃ r, e = .returned (.int .i64 r) ∧ DAt w' p (jitL M 9) ∧ W.grownBy w' (some p)) := fun W M h => (jitter_any (b := 9) (by decide) h).mono fun e w' ⟨h1, h2, h3⟩ => ⟨_, h1, h2, h3⟩
        go_wp2_with fail
        refine Calls.mono (copy_ok (HX.out _ rfl).1.d) ?_
        rintro e w1 ⟨rfl, hq1, hb1⟩
        have d1 : w1.cell? ⟨wr.heap.size, 1, none⟩ = some (.int .u32 (N : Int)) := (grown_of_below hb1 none).cell (by simp) (by simp)
        simp only [World.size_alloc] at hq1 hb1 ⊢
        have HQ1 : Hid (DAt w1 p L ∧ DAt w1 (wr.heap.size + 1) L ∧ QAt w1 w.heap.size p (.slice adu L.length cu) L ∧ QAt w1 w.heap.size (wr.heap.size + 1) (.slice adu L.length cu) L ∧ Below w.heap.size w w1 ∧ p ≠ wr.heap.size + 1 ∧ p ≠ wr.heap.size ∧ w.heap.size ≤ wr.heap.size + 1) := by
          have hX := HX.out _ rfl
          have hq2 : QAt wr w.heap.size (wr.heap.size + 1) (.slice adu L.length cu) L := HP.out.q.other (fun g h1 _ _ => by omega)
          have hb2 : Below wr.heap.size wr w1 := ((Below.refl _ _).alloc (Nat.le_refl _) _).trans (hb1.mono (by simp))
          exact ⟨HP.out.d.below hb2, hq1, HP.out.q.below hb2, hq2.below hb2, HP.out.bel.trans (hb2.mono HP.out.bel.size), by have := HP.out.d.lt; omega, hX.2.1, by have := hX.2.2; omega⟩
        generalize wr.heap.size + 1 = q at *
        generalize wr.heap.size = bx at *
        clear hq1 hb1 c0 c1 c2
        go_wp2_with fail
        refine Calls.mono (HPU.out _ HQ1.out.1) ?_
        rintro e w2 ⟨r2, M2, rfl, hd2, hg2⟩
        have HQ2 : Hid (DAt w2 p M2 ∧ DAt w2 q L ∧ QAt w2 w.heap.size p (.slice adu L.length cu) L ∧ QAt w2 w.heap.size q (.slice adu L.length cu) L ∧ Below w.heap.size w w2) := ⟨hd2, HQ1.out.2.1.kept hg2 (fun e => by injection e with e; exact HQ1.out.2.2.2.2.2.1 e.symm), HQ1.out.2.2.1.kept hg2, HQ1.out.2.2.1.kept2 HQ1.out.2.2.2.1 hg2, HQ1.out.2.2.2.2.1.grown hg2 HQ1.out.2.2.2.2.1.size (fun k e => by cases e; exact HP.out.low)⟩
        clear hd2 hg2 d1
        go_wp2_with fail
        refine Calls.mono (HJ9.out _ _ HQ2.out.1) ?_
        rintro e w3 ⟨r3, rfl, hd3, hg3⟩
        have HQ3 : Hid (DAt w3 p (jitL M2 9) ∧ DAt w3 q L ∧ QAt w3 w.heap.size p (.slice adu L.length cu) L ∧ QAt w3 w.heap.size q (.slice adu L.length cu) L ∧ Below w.heap.size w w3) := ⟨hd3, HQ2.out.2.1.kept hg3 (fun e => by injection e with e; exact HQ1.out.2.2.2.2.2.1 e.symm), HQ2.out.2.2.1.kept hg3, HQ2.out.2.2.1.kept2 HQ2.out.2.2.2.1 hg3, HQ2.out.2.2.2.2.grown hg3 HQ2.out.2.2.2.2.size (fun k e => by cases e; exact HP.out.low)⟩
        clear hd3 hg3 HQ2
        go_wp2_with fail
        refine Calls.mono (HJ9.out _ _ HQ3.out.1) ?_
        rintro e w4 ⟨r4, rfl, hd4, hg4⟩
        have HPT : Hid (PyAt w w4 q (.slice adu L.length cu) L) := ⟨HQ3.out.2.1.kept hg4 (fun e => by injection e with e; exact HQ1.out.2.2.2.2.2.1 e.symm), HQ3.out.2.2.1.kept2 HQ3.out.2.2.2.1 hg4, HQ3.out.2.2.2.2.grown hg4 HQ3.out.2.2.2.2.size (fun k e => by cases e; exact HP.out.low), HQ1.out.2.2.2.2.2.2.2⟩
        clear hd4 hg4 HQ3 HQ1
        -- behind the step: as many wait
        have HLF : Hid (_ : Prop) := left_any HPT.out.d
        have hM64 : (L.length : Int) ≤ 64 := by have := HPT.out.d.small.1; omega
        go_wp2_with fail
        refine Calls.mono HLF.out ?_
        rintro e wq ⟨rfl, hwq⟩
        subst wq
        go_wp2
        go_roundw
        case rel => exact ⟨n + 1, q, L, by omega, by omega, by go_num, rfl, HPT.out⟩
        case measure => simp [intOf]; omega
    · have HW : Hid (∀ W : World, Calls Try.prog 14 #[] W fun e w' => e = .returned (.bool true) ∧ Below W.heap.size W w') := fun W => works_any W
      by_cases h1 : n < l.length
      · have h1' : (n : Int) < (l.length : Int) := by omega
        have h2' : ¬ (n : Int) < 300 := by omega
        go_wp2_with fail
        refine Calls.mono (HW.out _) ?_
        rintro e w1 ⟨rfl, hb1⟩
        go_wp2
        go_ret
        exact ⟨rfl, HP.out.bel.trans (hb1.mono HP.out.bel.size)⟩
      · have h1' : ¬ (n : Int) < (l.length : Int) := by omega
        go_wp2_with fail
        refine Calls.mono (HW.out _) ?_
        rintro e w1 ⟨rfl, hb1⟩
        go_wp2
        go_ret
        exact ⟨rfl, HP.out.bel.trans (hb1.mono HP.out.bel.size)⟩
end Go.Proofs.Ytjgnnbbimkhjjaa
