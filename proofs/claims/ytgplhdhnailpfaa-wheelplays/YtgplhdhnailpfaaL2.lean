/-
  The reference's Name, Size, May.
-/
import Derived.Test.YtgplhdhnailpfaaB3
set_option linter.unusedSimpArgs false
set_option maxRecDepth 100000
namespace Go.Proofs.Ytgplhdhnailpfaa
open Go.RowKit Go.Maps
theorem let_no1 {c : UInt8} (h : ¬ 97 ≤ c.toNat) : letB c = false := by unfold letB; simp [h]
theorem let_no2 {c : UInt8} (h : ¬ c.toNat ≤ 122) : letB c = false := by unfold letB; simp [h]
theorem let_yes {c : UInt8} (h : 97 ≤ c.toNat) (h2 : c.toNat ≤ 122) : letB c = true := by unfold letB; simp [h, h2]
theorem name_cases (c : UInt8) : (nameC c = true ∧ 97 ≤ c.toNat ∧ c.toNat ≤ 122) ∨ (nameC c = true ∧ ¬ 97 ≤ c.toNat ∧ 48 ≤ c.toNat ∧ c.toNat ≤ 57) ∨ (nameC c = true ∧ c.toNat = 45) ∨
    (nameC c = false ∧ ¬ 97 ≤ c.toNat ∧ ¬ 48 ≤ c.toNat ∧ ¬ c.toNat = 45) ∨ (nameC c = false ∧ ¬ 97 ≤ c.toNat ∧ 48 ≤ c.toNat ∧ ¬ c.toNat ≤ 57 ∧ ¬ c.toNat = 45) ∨ (nameC c = false ∧ 97 ≤ c.toNat ∧ ¬ c.toNat ≤ 122 ∧ 48 ≤ c.toNat ∧ ¬ c.toNat ≤ 57 ∧ ¬ c.toNat = 45) := by
  have h45 : (c == 45) = decide (c.toNat = 45) := by
    by_cases e : c = 45
    · subst e; rfl
    · have : c.toNat ≠ 45 := fun h => e (UInt8.toNat_inj.1 h)
      simp [e, this]
  unfold nameC letB digB
  rw [h45]
  by_cases h1 : 97 ≤ c.toNat
  · by_cases h2 : c.toNat ≤ 122
    · exact Or.inl ⟨by simp [h1, h2], h1, h2⟩
    · refine Or.inr (Or.inr (Or.inr (Or.inr (Or.inr ⟨?_, h1, h2, by omega, by omega, by omega⟩))))
      have a1 : ¬ c.toNat ≤ 57 := by omega
      have a2 : ¬ c.toNat = 45 := by omega
      simp [h2, a1, a2]
  · by_cases h3 : 48 ≤ c.toNat
    · by_cases h4 : c.toNat ≤ 57
      · exact Or.inr (Or.inl ⟨by simp [h3, h4], h1, h3, h4⟩)
      · refine Or.inr (Or.inr (Or.inr (Or.inr (Or.inl ⟨?_, h1, h3, h4, by omega⟩))))
        have a2 : ¬ c.toNat = 45 := by omega
        simp [h1, h4, a2]
    · by_cases h5 : c.toNat = 45
      · exact Or.inr (Or.inr (Or.inl ⟨by simp [h5], h5⟩))
      · exact Or.inr (Or.inr (Or.inr (Or.inl ⟨by simp [h1, h3, h5], h1, h3, h5⟩)))
set_option maxHeartbeats 2000000 in
theorem rname_any (s : ByteArray) (w : World) (hs : s.size ≤ maxLen) : Calls Try.prog 41 #[.string s] w fun e w' => e = .returned (.bool (nameB s)) ∧ w' = w := by
  unfold maxLen at hs
  by_cases h0 : s.size < 1
  · have H : Hid (nameB s = false) := by unfold Hid nameB; simp; omega
    have h0' : (s.size : Int) < 1 := by omega
    generalize nameB s = r at *
    clear hs h0
    go_enter Try.func41, Try.ntmps41
    go_wp2
    go_ret
    exact ⟨ret_bool H.out.symm, rfl⟩
  · have hp : 0 < s.size := by omega
    have h0' : ¬ (s.size : Int) < 1 := by omega
    by_cases h16 : 16 < s.size
    · have H : Hid (nameB s = false) := by unfold Hid nameB; simp; omega
      have h16' : (16 : Int) < (s.size : Int) := by omega
      generalize nameB s = r at *
      go_enter Try.func41, Try.ntmps41
      go_wp2
      go_ret
      exact ⟨ret_bool H.out.symm, rfl⟩
    · have h16' : ¬ (16 : Int) < (s.size : Int) := by omega
      by_cases ha : 97 ≤ s[0].toNat
      · by_cases hz : s[0].toNat ≤ 122
        · have hl := let_yes ha hz
          have HN : Hid (nameB s = s.data.toList.all nameC) := by unfold Hid nameB; rw [head_let hp, hl]; simp; intro _ ; omega
          have ha' : ¬ ((s[0].toNat : Nat) : Int) < 97 := by omega
          have hz' : ¬ (122 : Int) < ((s[0].toNat : Nat) : Int) := by omega
          have hsz : (s.size : Int) ≤ 16 := by omega
          generalize nameB s = r at *
          clear ha hz hl h0
          go_enter Try.func41, Try.ntmps41
          go_wp2
          clear ha' hz'
          go_loop [3] (fun i => ∃ k : Nat, k ≤ s.size ∧ i = .int .i64 k ∧ (s.data.toList.take k).all nameC = true) (fun i => s.size - (intOf i).toNat)
          case atStart => exact ⟨0, Nat.zero_le _, rfl, by simp⟩
          case round =>
            obtain ⟨k, hk, rfl, hall⟩ := hrel
            have HA : Hid ((s.data.toList.take k).all nameC = true) := hall
            clear hall
            by_cases hlt : k < s.size
            · have hlt' : (k : Int) < (s.size : Int) := by omega
              have HY : Hid (nameC s[k] = true → (s.data.toList.take (k + 1)).all nameC = true) := fun h => by rw [all_snoc s k hlt, HA.out, h]; rfl
              have HX : Hid (nameC s[k] = false → r = false) := fun h => by rw [HN.out]; exact all_stop s k hlt h
              rcases name_cases s[k] with ⟨hn, q1, q2⟩ | ⟨hn, q1, q2, q3⟩ | ⟨hn, q1⟩ | ⟨hn, q1, q2, q3⟩ | ⟨hn, q1, q2, q3, q4⟩ | ⟨hn, q1, q2, q3, q4, q5⟩
              · have t1 : (97 : Int) ≤ (s[k].toNat : Int) := by omega
                have t2 : (s[k].toNat : Int) ≤ 122 := by omega
                have HZ : Hid (_ : Prop) := HY.out hn
                clear hn q1 q2
                go_wp2
                go_round
                case rel => exact ⟨k + 1, by omega, by go_num, HZ.out⟩
                case measure => simp [intOf]; omega
              · have t1 : ¬ (97 : Int) ≤ (s[k].toNat : Int) := by omega
                have t2 : (48 : Int) ≤ (s[k].toNat : Int) := by omega
                have t3 : (s[k].toNat : Int) ≤ 57 := by omega
                have HZ : Hid (_ : Prop) := HY.out hn
                clear hn q1 q2 q3
                go_wp2
                go_round
                case rel => exact ⟨k + 1, by omega, by go_num, HZ.out⟩
                case measure => simp [intOf]; omega
              · have t1 : (s[k].toNat : Int) = 45 := by omega
                have HZ : Hid (_ : Prop) := HY.out hn
                clear hn q1
                go_wp2
                go_round
                case rel => exact ⟨k + 1, by omega, by go_num, HZ.out⟩
                case measure => simp [intOf]; omega
              · have t1 : ¬ (97 : Int) ≤ (s[k].toNat : Int) := by omega
                have t2 : ¬ (48 : Int) ≤ (s[k].toNat : Int) := by omega
                have t3 : ¬ (s[k].toNat : Int) = 45 := by omega
                have HZ : Hid (_ : Prop) := HX.out hn
                have u1 : decide ((97 : Int) ≤ (s[k].toNat : Int)) = false := by simpa using t1
                have u2 : decide ((48 : Int) ≤ (s[k].toNat : Int)) = false := by simpa using t2
                have u3' : ((s[k].toNat : Int) == 45) = false := by simpa using t3
                clear hn q1 q2 q3
                go_wp2
                go_ret
                exact ⟨ret_bool HZ.out.symm, rfl⟩
              · have t1 : ¬ (97 : Int) ≤ (s[k].toNat : Int) := by omega
                have t2 : (48 : Int) ≤ (s[k].toNat : Int) := by omega
                have t3 : ¬ (s[k].toNat : Int) ≤ 57 := by omega
                have t4 : ¬ (s[k].toNat : Int) = 45 := by omega
                have HZ : Hid (_ : Prop) := HX.out hn
                have u1 : decide ((97 : Int) ≤ (s[k].toNat : Int)) = false := by simpa using t1
                have u2 : decide ((s[k].toNat : Int) ≤ 57) = false := by simpa using t3
                have u3' : ((s[k].toNat : Int) == 45) = false := by simpa using t4
                clear hn q1 q2 q3 q4
                go_wp2
                go_ret
                exact ⟨ret_bool HZ.out.symm, rfl⟩
              · have t1 : (97 : Int) ≤ (s[k].toNat : Int) := by omega
                have t2 : ¬ (s[k].toNat : Int) ≤ 122 := by omega
                have t3 : (48 : Int) ≤ (s[k].toNat : Int) := by omega
                have t4 : ¬ (s[k].toNat : Int) ≤ 57 := by omega
                have t5 : ¬ (s[k].toNat : Int) = 45 := by omega
                have HZ : Hid (_ : Prop) := HX.out hn
                have u1 : decide ((s[k].toNat : Int) ≤ 122) = false := by simpa using t2
                have u2 : decide ((s[k].toNat : Int) ≤ 57) = false := by simpa using t4
                have u3' : ((s[k].toNat : Int) == 45) = false := by simpa using t5
                clear hn q1 q2 q3 q4 q5
                go_wp2
                go_ret
                exact ⟨ret_bool HZ.out.symm, rfl⟩
            · have HX : Hid (r = true) := by unfold Hid; rw [HN.out]; have := HA.out; rwa [List.take_of_length_le (by simp; omega)] at this
              have hlt' : ¬ (k : Int) < (s.size : Int) := by omega
              go_wp2
              go_ret
              exact ⟨ret_bool HX.out.symm, rfl⟩
        · have H : Hid (nameB s = false) := by unfold Hid nameB; rw [head_let hp, let_no2 hz]; simp
          have ha' : ¬ ((s[0].toNat : Nat) : Int) < 97 := by omega
          have hz' : (122 : Int) < ((s[0].toNat : Nat) : Int) := by omega
          generalize nameB s = r at *
          go_enter Try.func41, Try.ntmps41
          go_wp2
          go_ret
          exact ⟨ret_bool H.out.symm, rfl⟩
      · have H : Hid (nameB s = false) := by unfold Hid nameB; rw [head_let hp, let_no1 ha]; simp
        have ha' : ((s[0].toNat : Nat) : Int) < 97 := by omega
        generalize nameB s = r at *
        go_enter Try.func41, Try.ntmps41
        go_wp2
        go_ret
        exact ⟨ret_bool H.out.symm, rfl⟩
/-- How many bytes a family's addresses have, plain. -/
def rsz (f : Int) : Int := if f = 1 ∨ f = 3 ∨ f = 4 then 4 else if f = 2 ∨ f = 5 then 16 else 0
theorem rsize_any (f : Int) (w : World) : Calls Try.prog 42 #[.int .i64 f] w fun e w' => e = .returned (.int .i64 (rsz f)) ∧ w' = w := by
  unfold rsz
  by_cases h1 : f = 1
  · subst h1; go_enter Try.func42, Try.ntmps42; go_wp2; go_ret; exact ⟨rfl, rfl⟩
  by_cases h3 : f = 3
  · subst h3; go_enter Try.func42, Try.ntmps42; go_wp2; go_ret; exact ⟨rfl, rfl⟩
  by_cases h4 : f = 4
  · subst h4; go_enter Try.func42, Try.ntmps42; go_wp2; go_ret; exact ⟨rfl, rfl⟩
  by_cases h2 : f = 2
  · subst h2; go_enter Try.func42, Try.ntmps42; go_wp2; go_ret; exact ⟨rfl, rfl⟩
  by_cases h5 : f = 5
  · subst h5; go_enter Try.func42, Try.ntmps42; go_wp2; go_ret; exact ⟨rfl, rfl⟩
  have e : (if f = 1 ∨ f = 3 ∨ f = 4 then (4 : Int) else if f = 2 ∨ f = 5 then 16 else 0) = 0 := by simp [h1, h2, h3, h4, h5]
  rw [e]
  clear e
  go_enter Try.func42, Try.ntmps42
  go_wp2
  go_ret
  exact ⟨rfl, rfl⟩
theorem rsz_pos {f : Int} : (0 < rsz f) ↔ (1 ≤ f ∧ f ≤ 5) := by
  unfold rsz
  split
  · constructor
    · intro _; omega
    · intro _; omega
  · split
    · constructor
      · intro _; omega
      · intro _; omega
    · constructor
      · intro h; omega
      · intro _; omega
set_option maxHeartbeats 1000000 in
theorem rmay_any (k : Ky) (w : World) : Calls Try.prog 28 #[.agg #[.int .i64 k.kind, .string k.peer, .int .i64 k.fam]] w fun e w' => e = .returned (.bool (mayK k)) ∧ Below w.heap.size w w' := by
  have HN : Hid (∀ W, Calls Try.prog 41 #[.string k.peer] W fun e w' => e = .returned (.bool (nameB k.peer)) ∧ w' = W) := fun W => rname_any k.peer W k.ok.2.1
  have HZ : Hid (∀ W, Calls Try.prog 42 #[.int .i64 k.fam] W fun e w' => e = .returned (.int .i64 (rsz k.fam)) ∧ w' = W) := fun W => rsize_any k.fam W
  have HB : Hid (Below w.heap.size w (w.alloc (.cells #[.int .i64 k.kind, .string k.peer, .int .i64 k.fam] 27))) := (Below.refl _ _).alloc (Nat.le_refl _) _
  by_cases h1 : 1 ≤ k.kind
  · by_cases h2 : k.kind ≤ 7
    · cases hn : nameB k.peer
      · have H : Hid (mayK k = false) := by unfold Hid mayK; rw [hn]; simp
        rw [hn] at HN
        generalize mayK k = r at *
        go_enter Try.func28, Try.ntmps28
        go_wp2_with (go_at_call 41; refine Calls.mono (HN.out _) ?_; rintro e w2 ⟨rfl, rfl⟩)
        go_ret
        exact ⟨ret_bool H.out.symm, HB.out⟩
      · rw [hn] at HN
        by_cases hf : k.fam = 0
        · have H : Hid (mayK k = true) := by unfold Hid mayK; rw [hn, hf]; simp [h1, h2]
          generalize mayK k = r at *
          go_enter Try.func28, Try.ntmps28
          rw [hf] at HB
          go_wp2_with (go_at_call 41; refine Calls.mono (HN.out _) ?_; rintro e w2 ⟨rfl, rfl⟩)
          go_ret
          exact ⟨ret_bool H.out.symm, HB.out⟩
        · have hf' : (k.fam == 0) = false := by simpa using hf
          by_cases hz : 0 < rsz k.fam
          · have H : Hid (mayK k = true) := by
              have := rsz_pos.1 hz
              unfold Hid mayK; rw [hn]; simp [h1, h2]; omega
            generalize mayK k = r at *
            generalize rsz k.fam = z at *
            go_enter Try.func28, Try.ntmps28
            go_wp2_with (first | (go_at_call 41; refine Calls.mono (HN.out _) ?_; rintro e w2 ⟨rfl, rfl⟩) | (go_at_call 42; refine Calls.mono (HZ.out _) ?_; rintro e w2 ⟨rfl, rfl⟩))
            go_ret
            exact ⟨ret_bool H.out.symm, HB.out⟩
          · have H : Hid (mayK k = false) := by
              have h9 : ¬ (1 ≤ k.fam ∧ k.fam ≤ 5) := fun h => hz (rsz_pos.2 h)
              unfold Hid mayK; rw [hn]; simp; intro _ _; omega
            have hz' : decide (0 < rsz k.fam) = false := by simpa using hz
            generalize mayK k = r at *
            generalize rsz k.fam = z at *
            go_enter Try.func28, Try.ntmps28
            go_wp2_with (first | (go_at_call 41; refine Calls.mono (HN.out _) ?_; rintro e w2 ⟨rfl, rfl⟩) | (go_at_call 42; refine Calls.mono (HZ.out _) ?_; rintro e w2 ⟨rfl, rfl⟩))
            go_ret
            exact ⟨ret_bool H.out.symm, HB.out⟩
    · have H : Hid (mayK k = false) := by unfold Hid mayK; simp [h2]
      generalize mayK k = r at *
      go_enter Try.func28, Try.ntmps28
      go_wp2
      go_ret
      exact ⟨ret_bool H.out.symm, HB.out⟩
  · have H : Hid (mayK k = false) := by unfold Hid mayK; simp [h1]
    generalize mayK k = r at *
    go_enter Try.func28, Try.ntmps28
    go_wp2
    go_ret
    exact ⟨ret_bool H.out.symm, HB.out⟩
end Go.Proofs.Ytgplhdhnailpfaa
