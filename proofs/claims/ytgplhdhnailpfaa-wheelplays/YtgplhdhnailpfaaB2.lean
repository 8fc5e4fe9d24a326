/-
  isName, mayBe, Arm.
-/
import Derived.Test.YtgplhdhnailpfaaB1
import Derived.Lib.ConvBytes
set_option linter.unusedSimpArgs false
set_option maxRecDepth 100000
namespace Go.Proofs.Ytgplhdhnailpfaa
open Go.RowKit Go.Maps
theorem head_let {s : ByteArray} (h : 0 < s.size) : s.data.toList.headD 0 = s[0] := by
  obtain ⟨⟨l⟩⟩ := s
  cases l with
  | nil => exact absurd h (by decide)
  | cons a r => rfl
theorem take_snoc (s : ByteArray) (k : Nat) (h : k < s.size) : s.data.toList.take (k + 1) = s.data.toList.take k ++ [s[k]] := by
  rw [List.take_succ_eq_append_getElem (by simpa using h)]; rfl
theorem all_snoc (s : ByteArray) (k : Nat) (h : k < s.size) : (s.data.toList.take (k + 1)).all nameC = ((s.data.toList.take k).all nameC && nameC s[k]) := by
  rw [take_snoc s k h]; simp
theorem all_stop (s : ByteArray) (k : Nat) (h : k < s.size) (hn : nameC s[k] = false) : s.data.toList.all nameC = false := by
  rw [List.all_eq_false]
  refine ⟨s[k], ?_, by simp [hn]⟩
  have : s[k] = s.data.toList[k]'(by simpa using h) := rfl
  rw [this]
  exact List.getElem_mem _
theorem conv_any (s : ByteArray) (w : World) : ∃ w2 cap, (convert 9 56 (.string s)).run Try.prog w = .ok (.slice (some ⟨w.heap.size, 0, none⟩) s.size cap) w2 ∧ (∀ j (h : j < s.size), w2.cell? ⟨w.heap.size, j, none⟩ = some (.int .u8 (s[j].toNat : Int))) ∧ Below w.heap.size w w2 := by
  refine ⟨_, _, Lib.run_convert_string_bytes w 9 56 5 s Try.underlying9 Try.underlying56 Try.underlying5, fun j h => ?_, ⟨rfl, rfl, rfl, by rw [Lib.bytesWorld_size]; omega, fun k hk => Lib.bytesWorld_at_old w 5 s k hk⟩⟩
  rw [Lib.bytesWorld_cell w 5 s j h, List.getD_eq_getElem?_getD, List.getElem?_eq_getElem (by simpa using h)]
  rfl
set_option maxHeartbeats 1000000 in
theorem isName_any (s : ByteArray) (w : World) (hs : s.size ≤ maxLen) : Calls Try.prog 40 #[.string s] w fun e w' => e = .returned (.bool (nameB s)) ∧ Below w.heap.size w w' := by
  unfold maxLen at hs
  by_cases h0 : s.size = 0
  · have H : Hid (nameB s = false) := by unfold Hid nameB; simp [h0]
    have he : s = ⟨#[]⟩ := by apply ByteArray.ext; apply Array.eq_empty_of_size_eq_zero; exact h0
    generalize nameB s = r at *
    subst he
    clear hs h0
    go_enter Try.func40, Try.ntmps40
    go_wp2
    go_ret
    exact ⟨ret_bool H.out.symm, Below.refl _ _⟩
  · have he : (s.toList == ([] : List UInt8)) = false := by
      rw [beq_eq_false_iff_ne]; intro e
      apply h0
      rw [ByteArray.toList_eq] at e
      have := congrArg List.length e
      simpa using this
    have hp : 0 < s.size := by omega
    by_cases h16 : 16 < s.size
    · have H : Hid (nameB s = false) := by unfold Hid nameB; simp; omega
      have h16' : (16 : Int) < (s.size : Int) := by omega
      generalize nameB s = r at *
      go_enter Try.func40, Try.ntmps40
      go_wp2
      go_ret
      exact ⟨ret_bool H.out.symm, Below.refl _ _⟩
    · have h16' : ¬ (16 : Int) < (s.size : Int) := by omega
      cases hl : letB s[0]
      · have H : Hid (nameB s = false) := by unfold Hid nameB; rw [head_let hp, hl]; simp
        generalize nameB s = r at *
        go_enter Try.func40, Try.ntmps40
        go_wp2_with (go_at_call 49; refine (isLetter_any _ _).mono ?_; rintro e w' ⟨rfl, rfl⟩; rw [hl])
        go_ret
        exact ⟨ret_bool H.out.symm, Below.refl _ _⟩
      · have HN : Hid (nameB s = s.data.toList.all nameC) := by unfold Hid nameB; rw [head_let hp, hl]; simp; intro _ ; omega
        generalize nameB s = r at *
        obtain ⟨w2, cap, hconv, hcell, hbel⟩ := conv_any s w
        have HC : Hid (_ : Prop) := hcell
        have HB : Hid (_ : Prop) := hbel
        have hsz : (s.size : Int) ≤ 16 := by omega
        have hcap : Hid (s.size ≤ s.size) := Nat.le_refl _
        clear hcell hbel h0 h16 h16'
        go_enter Try.func40, Try.ntmps40
        go_wp2_with (go_at_call 49; refine (isLetter_any _ _).mono ?_; rintro e w' ⟨rfl, rfl⟩; rw [hl])
        go_loop [21] (fun i => ∃ k : Nat, k ≤ s.size ∧ i = .int .i64 k ∧ (s.data.toList.take k).all nameC = true) (fun i => s.size - (intOf i).toNat)
        case atStart => exact ⟨0, Nat.zero_le _, rfl, by simp⟩
        case round =>
          obtain ⟨k, hk, rfl, hall⟩ := hrel
          have HA : Hid ((s.data.toList.take k).all nameC = true) := hall
          clear hall
          by_cases hlt : k < s.size
          · have hc := HC.out k hlt
            have hlt' : (k : Int) < (s.size : Int) := by omega
            cases hl1 : letB s[k]
            · cases hd1 : digB s[k]
              · by_cases h45 : s[k] = 45
                · have HX : Hid ((s.data.toList.take (k + 1)).all nameC = true) := by unfold Hid; rw [all_snoc s k hlt, HA.out]; simp [nameC, h45]
                  rw [h45, show (((45 : UInt8).toNat : Nat) : Int) = 45 from rfl] at hc
                  have q1 : ∀ W, Calls Try.prog 49 #[.int .u8 45] W fun e w' => e = .returned (.bool false) ∧ w' = W := fun W => isLetter_any 45 W
                  have q2 : ∀ W, Calls Try.prog 50 #[.int .u8 45] W fun e w' => e = .returned (.bool false) ∧ w' = W := fun W => isDigit_any 45 W
                  clear h45 hl1 hd1
                  go_wp2_with (first | (go_at_call 49; refine (q1 _).mono ?_; rintro e w' ⟨rfl, rfl⟩) | (go_at_call 50; refine (q2 _).mono ?_; rintro e w' ⟨rfl, rfl⟩))
                  go_round
                  case rel => exact ⟨k + 1, by omega, by go_num, HX.out⟩
                  case measure => simp [intOf]; omega
                · have HX : Hid (r = false) := by unfold Hid; rw [HN.out]; exact all_stop s k hlt (by simp [nameC, hl1, hd1, h45])
                  have hc5 : ¬ ((s[k].toNat : Nat) : Int) = 45 := fun e => h45 (by apply UInt8.toNat_inj.1; show _ = 45; omega)
                  clear h45
                  go_wp2_with (first | (go_at_call 49; refine (isLetter_any _ _).mono ?_; rintro e w' ⟨rfl, rfl⟩; rw [hl1]) | (go_at_call 50; refine (isDigit_any _ _).mono ?_; rintro e w' ⟨rfl, rfl⟩; rw [hd1]))
                  go_ret
                  exact ⟨ret_bool HX.out.symm, HB.out⟩
              · have HX : Hid ((s.data.toList.take (k + 1)).all nameC = true) := by unfold Hid; rw [all_snoc s k hlt, HA.out]; simp [nameC, hd1]
                go_wp2_with (first | (go_at_call 49; refine (isLetter_any _ _).mono ?_; rintro e w' ⟨rfl, rfl⟩; rw [hl1]) | (go_at_call 50; refine (isDigit_any _ _).mono ?_; rintro e w' ⟨rfl, rfl⟩; rw [hd1]))
                go_round
                case rel => exact ⟨k + 1, by omega, by go_num, HX.out⟩
                case measure => simp [intOf]; omega
            · have HX : Hid ((s.data.toList.take (k + 1)).all nameC = true) := by unfold Hid; rw [all_snoc s k hlt, HA.out]; simp [nameC, hl1]
              go_wp2_with (first | (go_at_call 49; refine (isLetter_any _ _).mono ?_; rintro e w' ⟨rfl, rfl⟩; rw [hl1]) | (go_at_call 50; refine (isDigit_any _ _).mono ?_; rintro e w' ⟨rfl, rfl⟩; rw [hd1]))
              go_round
              case rel => exact ⟨k + 1, by omega, by go_num, HX.out⟩
              case measure => simp [intOf]; omega
          · have HX : Hid (r = true) := by unfold Hid; rw [HN.out]; have := HA.out; rwa [List.take_of_length_le (by simp; omega)] at this
            have hlt' : ¬ (k : Int) < (s.size : Int) := by omega
            go_wp2
            go_ret
            exact ⟨ret_bool HX.out.symm, HB.out⟩
set_option maxHeartbeats 1000000 in
theorem mayBe_any (k : Ky) (w : World) : Calls Try.prog 27 #[.agg #[.int .i64 k.kind, .string k.peer, .int .i64 k.fam]] w fun e w' => e = .returned (.bool (mayK k)) ∧ Below w.heap.size w w' := by
  have hb1 : Below w.heap.size w (w.alloc (.cells #[.int .i64 k.kind, .string k.peer, .int .i64 k.fam] 27)) := (Below.refl _ _).alloc (Nat.le_refl _) _
  have HN : Hid (∀ W, _) := fun W => isName_any k.peer W k.ok.2.1
  have HB : Hid (_ : Prop) := hb1
  clear hb1
  by_cases h1 : 1 ≤ k.kind
  · by_cases h2 : k.kind ≤ 7
    · cases hn : nameB k.peer
      · have H : Hid (mayK k = false) := by unfold Hid mayK; rw [hn]; simp
        rw [hn] at HN
        generalize mayK k = r at *
        go_enter Try.func27, Try.ntmps27
        go_wp2_with (go_at_call 40; refine Calls.mono (HN.out _) ?_; rintro e w2 ⟨rfl, hb2⟩)
        go_ret
        exact ⟨ret_bool H.out.symm, HB.out.trans (hb2.mono (by simp))⟩
      · rw [hn] at HN
        by_cases h3 : 0 ≤ k.fam
        · by_cases h4 : k.fam ≤ 5
          · have H : Hid (mayK k = true) := by unfold Hid mayK; rw [hn]; simp [h1, h2, h3, h4]
            generalize mayK k = r at *
            go_enter Try.func27, Try.ntmps27
            go_wp2_with (go_at_call 40; refine Calls.mono (HN.out _) ?_; rintro e w2 ⟨rfl, hb2⟩; have hcc := hb2.cell (p := ⟨w.heap.size, 2, none⟩) (by simp); simp at hcc)
            go_ret
            exact ⟨ret_bool H.out.symm, HB.out.trans (hb2.mono (by simp))⟩
          · have H : Hid (mayK k = false) := by unfold Hid mayK; rw [hn]; simp [h4]
            have h4' : decide (k.fam ≤ 5) = false := by simpa using h4
            generalize mayK k = r at *
            go_enter Try.func27, Try.ntmps27
            go_wp2_with (go_at_call 40; refine Calls.mono (HN.out _) ?_; rintro e w2 ⟨rfl, hb2⟩; have hcc := hb2.cell (p := ⟨w.heap.size, 2, none⟩) (by simp); simp at hcc)
            go_ret
            exact ⟨ret_bool H.out.symm, HB.out.trans (hb2.mono (by simp))⟩
        · have H : Hid (mayK k = false) := by unfold Hid mayK; rw [hn]; simp [h3]
          generalize mayK k = r at *
          go_enter Try.func27, Try.ntmps27
          go_wp2_with (go_at_call 40; refine Calls.mono (HN.out _) ?_; rintro e w2 ⟨rfl, hb2⟩; have hcc := hb2.cell (p := ⟨w.heap.size, 2, none⟩) (by simp); simp at hcc)
          go_ret
          exact ⟨ret_bool H.out.symm, HB.out.trans (hb2.mono (by simp))⟩
    · have H : Hid (mayK k = false) := by unfold Hid mayK; simp [h2]
      generalize mayK k = r at *
      go_enter Try.func27, Try.ntmps27
      go_wp2
      go_ret
      exact ⟨ret_bool H.out.symm, HB.out⟩
  · have H : Hid (mayK k = false) := by unfold Hid mayK; simp [h1]
    generalize mayK k = r at *
    go_enter Try.func27, Try.ntmps27
    go_wp2
    go_ret
    exact ⟨ret_bool H.out.symm, HB.out⟩
end Go.Proofs.Ytgplhdhnailpfaa
