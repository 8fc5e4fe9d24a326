/-
  Names.
-/
import Derived.Test.YthaebbmekonacaaGreatDoorY1
import Derived.Lib.ConvBytes
set_option linter.unusedSimpArgs false
set_option maxRecDepth 100000
namespace Go.Proofs.YthaebbmekonacaaGreatDoor
open Go.RowKit Go.Maps
def letB (c : UInt8) : Bool := decide (97 ≤ c.toNat ∧ c.toNat ≤ 122)
def digB (c : UInt8) : Bool := decide (48 ≤ c.toNat ∧ c.toNat ≤ 57)
theorem isLetter_any (c : UInt8) (w : World) : Calls Tryz.prog 146 #[.int .u8 (c.toNat : Int)] w fun e w' => e = .returned (.bool (letB c)) ∧ w' = w := by
  by_cases h1 : 97 ≤ c.toNat
  · by_cases h2 : c.toNat ≤ 122
    · have H : Hid (letB c = true) := by unfold Hid letB; simp [h1, h2]
      have h1' : (97 : Int) ≤ (c.toNat : Int) := by omega
      have h2' : (c.toNat : Int) ≤ 122 := by omega
      clear h1 h2
      go_enter Tryz.func146, Tryz.ntmps146
      go_wp2
      go_ret
      exact ⟨ret_bool H.out.symm, rfl⟩
    · have H : Hid (letB c = false) := by unfold Hid letB; simp [h1, h2]
      have h1' : (97 : Int) ≤ (c.toNat : Int) := by omega
      have h2' : ¬ (c.toNat : Int) ≤ 122 := by omega
      clear h1 h2
      go_enter Tryz.func146, Tryz.ntmps146
      go_wp2
      go_ret
      exact ⟨ret_bool H.out.symm, rfl⟩
  · have H : Hid (letB c = false) := by unfold Hid letB; simp [h1]
    have h1' : ¬ (97 : Int) ≤ (c.toNat : Int) := by omega
    clear h1
    go_enter Tryz.func146, Tryz.ntmps146
    go_wp2
    go_ret
    exact ⟨ret_bool H.out.symm, rfl⟩
theorem isDigit_any (c : UInt8) (w : World) : Calls Tryz.prog 147 #[.int .u8 (c.toNat : Int)] w fun e w' => e = .returned (.bool (digB c)) ∧ w' = w := by
  by_cases h1 : 48 ≤ c.toNat
  · by_cases h2 : c.toNat ≤ 57
    · have H : Hid (digB c = true) := by unfold Hid digB; simp [h1, h2]
      have h1' : (48 : Int) ≤ (c.toNat : Int) := by omega
      have h2' : (c.toNat : Int) ≤ 57 := by omega
      clear h1 h2
      go_enter Tryz.func147, Tryz.ntmps147
      go_wp2
      go_ret
      exact ⟨ret_bool H.out.symm, rfl⟩
    · have H : Hid (digB c = false) := by unfold Hid digB; simp [h1, h2]
      have h1' : (48 : Int) ≤ (c.toNat : Int) := by omega
      have h2' : ¬ (c.toNat : Int) ≤ 57 := by omega
      clear h1 h2
      go_enter Tryz.func147, Tryz.ntmps147
      go_wp2
      go_ret
      exact ⟨ret_bool H.out.symm, rfl⟩
  · have H : Hid (digB c = false) := by unfold Hid digB; simp [h1]
    have h1' : ¬ (48 : Int) ≤ (c.toNat : Int) := by omega
    clear h1
    go_enter Tryz.func147, Tryz.ntmps147
    go_wp2
    go_ret
    exact ⟨ret_bool H.out.symm, rfl⟩
/-- A sign of a name. -/
def nameC (c : UInt8) : Bool := letB c || digB c || c == 45
/-- A name. -/
def nameB (s : ByteArray) : Bool := decide (0 < s.size ∧ s.size ≤ 16) && letB (s.data.toList.headD 0) && s.data.toList.all nameC
/-- May a key be? -/
theorem head_let {s : ByteArray} (h : 0 < s.size) : s.data.toList.headD 0 = s[0] := by
  obtain ⟨⟨l⟩⟩ := s
  cases l with
  | nil => exact absurd h (by decide)
  | cons a r => rfl
theorem take_snoc (s : ByteArray) (k : Nat) (h : k < s.size) : s.data.toList.take (k + 1) = s.data.toList.take k ++ [s[k]] := by
  rw [List.take_succ_eq_append_getElem (by simpa using h)]; rfl
theorem all_snoc (s : ByteArray) (k : Nat) (h : k < s.size) : (s.data.toList.take (k + 1)).all nameC = ((s.data.toList.take k).all nameC && nameC s[k]) := by
  rw [take_snoc s k h]; simp
theorem all_stop (s : ByteArray) (k : Nat) (h : k < s.size) (hn : nameC s[k] = false) : s.data.toList.all nameC = false := by
  rw [List.all_eq_false]
  refine ⟨s[k], ?_, by simp [hn]⟩
  have : s[k] = s.data.toList[k]'(by simpa using h) := rfl
  rw [this]
  exact List.getElem_mem _
theorem conv_any (s : ByteArray) (w : World) : ∃ w2 cap, (convert 9 180 (.string s)).run Tryz.prog w = .ok (.slice (some ⟨w.heap.size, 0, none⟩) s.size cap) w2 ∧ (∀ j (h : j < s.size), w2.cell? ⟨w.heap.size, j, none⟩ = some (.int .u8 (s[j].toNat : Int))) ∧ Below w.heap.size w w2 := by
  refine ⟨_, _, Lib.run_convert_string_bytes w 9 180 5 s Tryz.underlying9 Tryz.underlying180 Tryz.underlying5, fun j h => ?_, ⟨rfl, rfl, rfl, by rw [Lib.bytesWorld_size]; omega, fun k hk => Lib.bytesWorld_at_old w 5 s k hk⟩⟩
  rw [Lib.bytesWorld_cell w 5 s j h, List.getD_eq_getElem?_getD, List.getElem?_eq_getElem (by simpa using h)]
  rfl
set_option maxHeartbeats 1000000 in
theorem isName_any (s : ByteArray) (w : World) (hs : s.size ≤ maxLen) : Calls Tryz.prog 106 #[.string s] w fun e w' => e = .returned (.bool (nameB s)) ∧ Below w.heap.size w w' := by
  unfold maxLen at hs
  by_cases h0 : s.size = 0
  · have H : Hid (nameB s = false) := by unfold Hid nameB; simp [h0]
    have he : s = ⟨#[]⟩ := by apply ByteArray.ext; apply Array.eq_empty_of_size_eq_zero; exact h0
    generalize nameB s = r at *
    subst he
    clear hs h0
    go_enter Tryz.func106, Tryz.ntmps106
    go_wp2
    go_ret
    exact ⟨ret_bool H.out.symm, Below.refl _ _⟩
  · have he : (s.toList == ([] : List UInt8)) = false := by
      rw [beq_eq_false_iff_ne]; intro e
      apply h0
      rw [ByteArray.toList_eq] at e
      have := congrArg List.length e
      simpa using this
    have hp : 0 < s.size := by omega
    by_cases h16 : 16 < s.size
    · have H : Hid (nameB s = false) := by unfold Hid nameB; simp; omega
      have h16' : (16 : Int) < (s.size : Int) := by omega
      generalize nameB s = r at *
      go_enter Tryz.func106, Tryz.ntmps106
      go_wp2
      go_ret
      exact ⟨ret_bool H.out.symm, Below.refl _ _⟩
    · have h16' : ¬ (16 : Int) < (s.size : Int) := by omega
      cases hl : letB s[0]
      · have H : Hid (nameB s = false) := by unfold Hid nameB; rw [head_let hp, hl]; simp
        generalize nameB s = r at *
        go_enter Tryz.func106, Tryz.ntmps106
        go_wp2_with (go_at_call 146; refine (isLetter_any _ _).mono ?_; rintro e w' ⟨rfl, rfl⟩; rw [hl])
        go_ret
        exact ⟨ret_bool H.out.symm, Below.refl _ _⟩
      · have HN : Hid (nameB s = s.data.toList.all nameC) := by unfold Hid nameB; rw [head_let hp, hl]; simp; intro _ ; omega
        generalize nameB s = r at *
        obtain ⟨w2, cap, hconv, hcell, hbel⟩ := conv_any s w
        have HC : Hid (_ : Prop) := hcell
        have HB : Hid (_ : Prop) := hbel
        have hsz : (s.size : Int) ≤ 16 := by omega
        have hcap : Hid (s.size ≤ s.size) := Nat.le_refl _
        clear hcell hbel h0 h16 h16'
        go_enter Tryz.func106, Tryz.ntmps106
        go_wp2_with (go_at_call 146; refine (isLetter_any _ _).mono ?_; rintro e w' ⟨rfl, rfl⟩; rw [hl])
        go_loop [21] (fun i => ∃ k : Nat, k ≤ s.size ∧ i = .int .i64 k ∧ (s.data.toList.take k).all nameC = true) (fun i => s.size - (intOf i).toNat)
        case atStart => exact ⟨0, Nat.zero_le _, rfl, by simp⟩
        case round =>
          obtain ⟨k, hk, rfl, hall⟩ := hrel
          have HA : Hid ((s.data.toList.take k).all nameC = true) := hall
          clear hall
          by_cases hlt : k < s.size
          · have hc := HC.out k hlt
            have hlt' : (k : Int) < (s.size : Int) := by omega
            cases hl1 : letB s[k]
            · cases hd1 : digB s[k]
              · by_cases h45 : s[k] = 45
                · have HX : Hid ((s.data.toList.take (k + 1)).all nameC = true) := by unfold Hid; rw [all_snoc s k hlt, HA.out]; simp [nameC, h45]
                  rw [h45, show (((45 : UInt8).toNat : Nat) : Int) = 45 from rfl] at hc
                  have q1 : ∀ W, Calls Tryz.prog 146 #[.int .u8 45] W fun e w' => e = .returned (.bool false) ∧ w' = W := fun W => isLetter_any 45 W
                  have q2 : ∀ W, Calls Tryz.prog 147 #[.int .u8 45] W fun e w' => e = .returned (.bool false) ∧ w' = W := fun W => isDigit_any 45 W
                  clear h45 hl1 hd1
                  go_wp2_with (first | (go_at_call 146; refine (q1 _).mono ?_; rintro e w' ⟨rfl, rfl⟩) | (go_at_call 147; refine (q2 _).mono ?_; rintro e w' ⟨rfl, rfl⟩))
                  go_round
                  case rel => exact ⟨k + 1, by omega, by go_num, HX.out⟩
                  case measure => simp [intOf]; omega
                · have HX : Hid (r = false) := by unfold Hid; rw [HN.out]; exact all_stop s k hlt (by simp [nameC, hl1, hd1, h45])
                  have hc5 : ¬ ((s[k].toNat : Nat) : Int) = 45 := fun e => h45 (by apply UInt8.toNat_inj.1; show _ = 45; omega)
                  clear h45
                  go_wp2_with (first | (go_at_call 146; refine (isLetter_any _ _).mono ?_; rintro e w' ⟨rfl, rfl⟩; rw [hl1]) | (go_at_call 147; refine (isDigit_any _ _).mono ?_; rintro e w' ⟨rfl, rfl⟩; rw [hd1]))
                  go_ret
                  exact ⟨ret_bool HX.out.symm, HB.out⟩
              · have HX : Hid ((s.data.toList.take (k + 1)).all nameC = true) := by unfold Hid; rw [all_snoc s k hlt, HA.out]; simp [nameC, hd1]
                go_wp2_with (first | (go_at_call 146; refine (isLetter_any _ _).mono ?_; rintro e w' ⟨rfl, rfl⟩; rw [hl1]) | (go_at_call 147; refine (isDigit_any _ _).mono ?_; rintro e w' ⟨rfl, rfl⟩; rw [hd1]))
                go_round
                case rel => exact ⟨k + 1, by omega, by go_num, HX.out⟩
                case measure => simp [intOf]; omega
            · have HX : Hid ((s.data.toList.take (k + 1)).all nameC = true) := by unfold Hid; rw [all_snoc s k hlt, HA.out]; simp [nameC, hl1]
              go_wp2_with (first | (go_at_call 146; refine (isLetter_any _ _).mono ?_; rintro e w' ⟨rfl, rfl⟩; rw [hl1]) | (go_at_call 147; refine (isDigit_any _ _).mono ?_; rintro e w' ⟨rfl, rfl⟩; rw [hd1]))
              go_round
              case rel => exact ⟨k + 1, by omega, by go_num, HX.out⟩
              case measure => simp [intOf]; omega
          · have HX : Hid (r = true) := by unfold Hid; rw [HN.out]; have := HA.out; rwa [List.take_of_length_le (by simp; omega)] at this
            have hlt' : ¬ (k : Int) < (s.size : Int) := by omega
            go_wp2
            go_ret
            exact ⟨ret_bool HX.out.symm, HB.out⟩
theorem let_no1 {c : UInt8} (h : ¬ 97 ≤ c.toNat) : letB c = false := by unfold letB; simp [h]
theorem let_no2 {c : UInt8} (h : ¬ c.toNat ≤ 122) : letB c = false := by unfold letB; simp [h]
theorem let_yes {c : UInt8} (h : 97 ≤ c.toNat) (h2 : c.toNat ≤ 122) : letB c = true := by unfold letB; simp [h, h2]
theorem name_cases (c : UInt8) : (nameC c = true ∧ 97 ≤ c.toNat ∧ c.toNat ≤ 122) ∨ (nameC c = true ∧ ¬ 97 ≤ c.toNat ∧ 48 ≤ c.toNat ∧ c.toNat ≤ 57) ∨ (nameC c = true ∧ c.toNat = 45) ∨
    (nameC c = false ∧ ¬ 97 ≤ c.toNat ∧ ¬ 48 ≤ c.toNat ∧ ¬ c.toNat = 45) ∨ (nameC c = false ∧ ¬ 97 ≤ c.toNat ∧ 48 ≤ c.toNat ∧ ¬ c.toNat ≤ 57 ∧ ¬ c.toNat = 45) ∨ (nameC c = false ∧ 97 ≤ c.toNat ∧ ¬ c.toNat ≤ 122 ∧ 48 ≤ c.toNat ∧ ¬ c.toNat ≤ 57 ∧ ¬ c.toNat = 45) := by
  have h45 : (c == 45) = decide (c.toNat = 45) := by
    by_cases e : c = 45
    · subst e; rfl
    · have : c.toNat ≠ 45 := fun h => e (UInt8.toNat_inj.1 h)
      simp [e, this]
  unfold nameC letB digB
  rw [h45]
  by_cases h1 : 97 ≤ c.toNat
  · by_cases h2 : c.toNat ≤ 122
    · exact Or.inl ⟨by simp [h1, h2], h1, h2⟩
    · refine Or.inr (Or.inr (Or.inr (Or.inr (Or.inr ⟨?_, h1, h2, by omega, by omega, by omega⟩))))
      have a1 : ¬ c.toNat ≤ 57 := by omega
      have a2 : ¬ c.toNat = 45 := by omega
      simp [h2, a1, a2]
  · by_cases h3 : 48 ≤ c.toNat
    · by_cases h4 : c.toNat ≤ 57
      · exact Or.inr (Or.inl ⟨by simp [h3, h4], h1, h3, h4⟩)
      · refine Or.inr (Or.inr (Or.inr (Or.inr (Or.inl ⟨?_, h1, h3, h4, by omega⟩))))
        have a2 : ¬ c.toNat = 45 := by omega
        simp [h1, h4, a2]
    · by_cases h5 : c.toNat = 45
      · exact Or.inr (Or.inr (Or.inl ⟨by simp [h5], h5⟩))
      · exact Or.inr (Or.inr (Or.inr (Or.inl ⟨by simp [h1, h3, h5], h1, h3, h5⟩)))
set_option maxHeartbeats 2000000 in
theorem rname_any (s : ByteArray) (w : World) (hs : s.size ≤ maxLen) : Calls Tryz.prog 110 #[.string s] w fun e w' => e = .returned (.bool (nameB s)) ∧ w' = w := by
  unfold maxLen at hs
  by_cases h0 : s.size < 1
  · have H : Hid (nameB s = false) := by unfold Hid nameB; simp; omega
    have h0' : (s.size : Int) < 1 := by omega
    generalize nameB s = r at *
    clear hs h0
    go_enter Tryz.func110, Tryz.ntmps110
    go_wp2
    go_ret
    exact ⟨ret_bool H.out.symm, rfl⟩
  · have hp : 0 < s.size := by omega
    have h0' : ¬ (s.size : Int) < 1 := by omega
    by_cases h16 : 16 < s.size
    · have H : Hid (nameB s = false) := by unfold Hid nameB; simp; omega
      have h16' : (16 : Int) < (s.size : Int) := by omega
      generalize nameB s = r at *
      go_enter Tryz.func110, Tryz.ntmps110
      go_wp2
      go_ret
      exact ⟨ret_bool H.out.symm, rfl⟩
    · have h16' : ¬ (16 : Int) < (s.size : Int) := by omega
      by_cases ha : 97 ≤ s[0].toNat
      · by_cases hz : s[0].toNat ≤ 122
        · have hl := let_yes ha hz
          have HN : Hid (nameB s = s.data.toList.all nameC) := by unfold Hid nameB; rw [head_let hp, hl]; simp; intro _ ; omega
          have ha' : ¬ ((s[0].toNat : Nat) : Int) < 97 := by omega
          have hz' : ¬ (122 : Int) < ((s[0].toNat : Nat) : Int) := by omega
          have hsz : (s.size : Int) ≤ 16 := by omega
          generalize nameB s = r at *
          clear ha hz hl h0
          go_enter Tryz.func110, Tryz.ntmps110
          go_wp2
          clear ha' hz'
          go_loop [3] (fun i => ∃ k : Nat, k ≤ s.size ∧ i = .int .i64 k ∧ (s.data.toList.take k).all nameC = true) (fun i => s.size - (intOf i).toNat)
          case atStart => exact ⟨0, Nat.zero_le _, rfl, by simp⟩
          case round =>
            obtain ⟨k, hk, rfl, hall⟩ := hrel
            have HA : Hid ((s.data.toList.take k).all nameC = true) := hall
            clear hall
            by_cases hlt : k < s.size
            · have hlt' : (k : Int) < (s.size : Int) := by omega
              have HY : Hid (nameC s[k] = true → (s.data.toList.take (k + 1)).all nameC = true) := fun h => by rw [all_snoc s k hlt, HA.out, h]; rfl
              have HX : Hid (nameC s[k] = false → r = false) := fun h => by rw [HN.out]; exact all_stop s k hlt h
              rcases name_cases s[k] with ⟨hn, q1, q2⟩ | ⟨hn, q1, q2, q3⟩ | ⟨hn, q1⟩ | ⟨hn, q1, q2, q3⟩ | ⟨hn, q1, q2, q3, q4⟩ | ⟨hn, q1, q2, q3, q4, q5⟩
              · have t1 : (97 : Int) ≤ (s[k].toNat : Int) := by omega
                have t2 : (s[k].toNat : Int) ≤ 122 := by omega
                have HZ : Hid (_ : Prop) := HY.out hn
                clear hn q1 q2
                go_wp2
                go_round
                case rel => exact ⟨k + 1, by omega, by go_num, HZ.out⟩
                case measure => simp [intOf]; omega
              · have t1 : ¬ (97 : Int) ≤ (s[k].toNat : Int) := by omega
                have t2 : (48 : Int) ≤ (s[k].toNat : Int) := by omega
                have t3 : (s[k].toNat : Int) ≤ 57 := by omega
                have HZ : Hid (_ : Prop) := HY.out hn
                clear hn q1 q2 q3
                go_wp2
                go_round
                case rel => exact ⟨k + 1, by omega, by go_num, HZ.out⟩
                case measure => simp [intOf]; omega
              · have t1 : (s[k].toNat : Int) = 45 := by omega
                have HZ : Hid (_ : Prop) := HY.out hn
                clear hn q1
                go_wp2
                go_round
                case rel => exact ⟨k + 1, by omega, by go_num, HZ.out⟩
                case measure => simp [intOf]; omega
              · have t1 : ¬ (97 : Int) ≤ (s[k].toNat : Int) := by omega
                have t2 : ¬ (48 : Int) ≤ (s[k].toNat : Int) := by omega
                have t3 : ¬ (s[k].toNat : Int) = 45 := by omega
                have HZ : Hid (_ : Prop) := HX.out hn
                have u1 : decide ((97 : Int) ≤ (s[k].toNat : Int)) = false := by simpa using t1
                have u2 : decide ((48 : Int) ≤ (s[k].toNat : Int)) = false := by simpa using t2
                have u3' : ((s[k].toNat : Int) == 45) = false := by simpa using t3
                clear hn q1 q2 q3
                go_wp2
                go_ret
                exact ⟨ret_bool HZ.out.symm, rfl⟩
              · have t1 : ¬ (97 : Int) ≤ (s[k].toNat : Int) := by omega
                have t2 : (48 : Int) ≤ (s[k].toNat : Int) := by omega
                have t3 : ¬ (s[k].toNat : Int) ≤ 57 := by omega
                have t4 : ¬ (s[k].toNat : Int) = 45 := by omega
                have HZ : Hid (_ : Prop) := HX.out hn
                have u1 : decide ((97 : Int) ≤ (s[k].toNat : Int)) = false := by simpa using t1
                have u2 : decide ((s[k].toNat : Int) ≤ 57) = false := by simpa using t3
                have u3' : ((s[k].toNat : Int) == 45) = false := by simpa using t4
                clear hn q1 q2 q3 q4
                go_wp2
                go_ret
                exact ⟨ret_bool HZ.out.symm, rfl⟩
              · have t1 : (97 : Int) ≤ (s[k].toNat : Int) := by omega
                have t2 : ¬ (s[k].toNat : Int) ≤ 122 := by omega
                have t3 : (48 : Int) ≤ (s[k].toNat : Int) := by omega
                have t4 : ¬ (s[k].toNat : Int) ≤ 57 := by omega
                have t5 : ¬ (s[k].toNat : Int) = 45 := by omega
                have HZ : Hid (_ : Prop) := HX.out hn
                have u1 : decide ((s[k].toNat : Int) ≤ 122) = false := by simpa using t2
                have u2 : decide ((s[k].toNat : Int) ≤ 57) = false := by simpa using t4
                have u3' : ((s[k].toNat : Int) == 45) = false := by simpa using t5
                clear hn q1 q2 q3 q4 q5
                go_wp2
                go_ret
                exact ⟨ret_bool HZ.out.symm, rfl⟩
            · have HX : Hid (r = true) := by unfold Hid; rw [HN.out]; have := HA.out; rwa [List.take_of_length_le (by simp; omega)] at this
              have hlt' : ¬ (k : Int) < (s.size : Int) := by omega
              go_wp2
              go_ret
              exact ⟨ret_bool HX.out.symm, rfl⟩
        · have H : Hid (nameB s = false) := by unfold Hid nameB; rw [head_let hp, let_no2 hz]; simp
          have ha' : ¬ ((s[0].toNat : Nat) : Int) < 97 := by omega
          have hz' : (122 : Int) < ((s[0].toNat : Nat) : Int) := by omega
          generalize nameB s = r at *
          go_enter Tryz.func110, Tryz.ntmps110
          go_wp2
          go_ret
          exact ⟨ret_bool H.out.symm, rfl⟩
      · have H : Hid (nameB s = false) := by unfold Hid nameB; rw [head_let hp, let_no1 ha]; simp
        have ha' : ((s[0].toNat : Nat) : Int) < 97 := by omega
        generalize nameB s = r at *
        go_enter Tryz.func110, Tryz.ntmps110
        go_wp2
        go_ret
        exact ⟨ret_bool H.out.symm, rfl⟩
end Go.Proofs.YthaebbmekonacaaGreatDoor
