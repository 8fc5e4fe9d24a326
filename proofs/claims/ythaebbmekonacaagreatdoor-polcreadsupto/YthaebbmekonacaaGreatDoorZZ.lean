/-
  Names.
-/
import Derived.Test.YthaebbmekonacaaGreatDoorMX
import Derived.Lib.ConvBytes
import Derived.Test.YthaebbmekonacaaGreatDoorRF
import Derived.Test.YthaebbmekonacaaGreatDoorPB
set_option linter.unusedSimpArgs false
set_option maxRecDepth 100000
namespace Go.Proofs.YthaebbmekonacaaGreatDoor
open Go.RowKit Go.Maps
def letB (c : UInt8) : Bool := decide (97 ≤ c.toNat ∧ c.toNat ≤ 122)
def digB (c : UInt8) : Bool := decide (48 ≤ c.toNat ∧ c.toNat ≤ 57)
theorem isLetter_any (c : UInt8) (w : World) : Calls Tryz.prog 146 #[.int .u8 (c.toNat : Int)] w fun e w' => e = .returned (.bool (letB c)) ∧ w' = w := by
  by_cases h1 : 97 ≤ c.toNat
  · by_cases h2 : c.toNat ≤ 122
    · have H : Hid (letB c = true) := by unfold Hid letB; simp [h1, h2]
      have h1' : (97 : Int) ≤ (c.toNat : Int) := by omega
      have h2' : (c.toNat : Int) ≤ 122 := by omega
      clear h1 h2
      go_enter Tryz.func146, Tryz.ntmps146
      go_wp2
      go_ret
      exact ⟨ret_bool H.out.symm, rfl⟩
    · have H : Hid (letB c = false) := by unfold Hid letB; simp [h1, h2]
      have h1' : (97 : Int) ≤ (c.toNat : Int) := by omega
      have h2' : ¬ (c.toNat : Int) ≤ 122 := by omega
      clear h1 h2
      go_enter Tryz.func146, Tryz.ntmps146
      go_wp2
      go_ret
      exact ⟨ret_bool H.out.symm, rfl⟩
  · have H : Hid (letB c = false) := by unfold Hid letB; simp [h1]
    have h1' : ¬ (97 : Int) ≤ (c.toNat : Int) := by omega
    clear h1
    go_enter Tryz.func146, Tryz.ntmps146
    go_wp2
    go_ret
    exact ⟨ret_bool H.out.symm, rfl⟩
theorem isDigit_any (c : UInt8) (w : World) : Calls Tryz.prog 147 #[.int .u8 (c.toNat : Int)] w fun e w' => e = .returned (.bool (digB c)) ∧ w' = w := by
  by_cases h1 : 48 ≤ c.toNat
  · by_cases h2 : c.toNat ≤ 57
    · have H : Hid (digB c = true) := by unfold Hid digB; simp [h1, h2]
      have h1' : (48 : Int) ≤ (c.toNat : Int) := by omega
      have h2' : (c.toNat : Int) ≤ 57 := by omega
      clear h1 h2
      go_enter Tryz.func147, Tryz.ntmps147
      go_wp2
      go_ret
      exact ⟨ret_bool H.out.symm, rfl⟩
    · have H : Hid (digB c = false) := by unfold Hid digB; simp [h1, h2]
      have h1' : (48 : Int) ≤ (c.toNat : Int) := by omega
      have h2' : ¬ (c.toNat : Int) ≤ 57 := by omega
      clear h1 h2
      go_enter Tryz.func147, Tryz.ntmps147
      go_wp2
      go_ret
      exact ⟨ret_bool H.out.symm, rfl⟩
  · have H : Hid (digB c = false) := by unfold Hid digB; simp [h1]
    have h1' : ¬ (48 : Int) ≤ (c.toNat : Int) := by omega
    clear h1
    go_enter Tryz.func147, Tryz.ntmps147
    go_wp2
    go_ret
    exact ⟨ret_bool H.out.symm, rfl⟩
/-- A sign of a name. -/
def nameC (c : UInt8) : Bool := letB c || digB c || c == 45
/-- A name. -/
def nameB (s : ByteArray) : Bool := decide (0 < s.size ∧ s.size ≤ 16) && letB (s.data.toList.headD 0) && s.data.toList.all nameC
/-- May a key be? -/
theorem head_let {s : ByteArray} (h : 0 < s.size) : s.data.toList.headD 0 = s[0] := by
  obtain ⟨⟨l⟩⟩ := s
  cases l with
  | nil => exact absurd h (by decide)
  | cons a r => rfl
theorem take_snoc (s : ByteArray) (k : Nat) (h : k < s.size) : s.data.toList.take (k + 1) = s.data.toList.take k ++ [s[k]] := by
  rw [List.take_succ_eq_append_getElem (by simpa using h)]; rfl
theorem all_snoc (s : ByteArray) (k : Nat) (h : k < s.size) : (s.data.toList.take (k + 1)).all nameC = ((s.data.toList.take k).all nameC && nameC s[k]) := by
  rw [take_snoc s k h]; simp
theorem all_stop (s : ByteArray) (k : Nat) (h : k < s.size) (hn : nameC s[k] = false) : s.data.toList.all nameC = false := by
  rw [List.all_eq_false]
  refine ⟨s[k], ?_, by simp [hn]⟩
  have : s[k] = s.data.toList[k]'(by simpa using h) := rfl
  rw [this]
  exact List.getElem_mem _
theorem conv_any (s : ByteArray) (w : World) : ∃ w2 cap, (convert 9 180 (.string s)).run Tryz.prog w = .ok (.slice (some ⟨w.heap.size, 0, none⟩) s.size cap) w2 ∧ (∀ j (h : j < s.size), w2.cell? ⟨w.heap.size, j, none⟩ = some (.int .u8 (s[j].toNat : Int))) ∧ Below w.heap.size w w2 := by
  refine ⟨_, _, Lib.run_convert_string_bytes w 9 180 5 s Tryz.underlying9 Tryz.underlying180 Tryz.underlying5, fun j h => ?_, ⟨rfl, rfl, rfl, by rw [Lib.bytesWorld_size]; omega, fun k hk => Lib.bytesWorld_at_old w 5 s k hk⟩⟩
  rw [Lib.bytesWorld_cell w 5 s j h, List.getD_eq_getElem?_getD, List.getElem?_eq_getElem (by simpa using h)]
  rfl
set_option maxHeartbeats 1000000 in
theorem isName_any (s : ByteArray) (w : World) (hs : s.size ≤ maxLen) : Calls Tryz.prog 106 #[.string s] w fun e w' => e = .returned (.bool (nameB s)) ∧ Below w.heap.size w w' := by
  unfold maxLen at hs
  by_cases h0 : s.size = 0
  · have H : Hid (nameB s = false) := by unfold Hid nameB; simp [h0]
    have he : s = ⟨#[]⟩ := by apply ByteArray.ext; apply Array.eq_empty_of_size_eq_zero; exact h0
    generalize nameB s = r at *
    subst he
    clear hs h0
    go_enter Tryz.func106, Tryz.ntmps106
    go_wp2
    go_ret
    exact ⟨ret_bool H.out.symm, Below.refl _ _⟩
  · have he : (s.toList == ([] : List UInt8)) = false := by
      rw [beq_eq_false_iff_ne]; intro e
      apply h0
      rw [ByteArray.toList_eq] at e
      have := congrArg List.length e
      simpa using this
    have hp : 0 < s.size := by omega
    by_cases h16 : 16 < s.size
    · have H : Hid (nameB s = false) := by unfold Hid nameB; simp; omega
      have h16' : (16 : Int) < (s.size : Int) := by omega
      generalize nameB s = r at *
      go_enter Tryz.func106, Tryz.ntmps106
      go_wp2
      go_ret
      exact ⟨ret_bool H.out.symm, Below.refl _ _⟩
    · have h16' : ¬ (16 : Int) < (s.size : Int) := by omega
      cases hl : letB s[0]
      · have H : Hid (nameB s = false) := by unfold Hid nameB; rw [head_let hp, hl]; simp
        generalize nameB s = r at *
        go_enter Tryz.func106, Tryz.ntmps106
        go_wp2_with (go_at_call 146; refine (isLetter_any _ _).mono ?_; rintro e w' ⟨rfl, rfl⟩; rw [hl])
        go_ret
        exact ⟨ret_bool H.out.symm, Below.refl _ _⟩
      · have HN : Hid (nameB s = s.data.toList.all nameC) := by unfold Hid nameB; rw [head_let hp, hl]; simp; intro _ ; omega
        generalize nameB s = r at *
        obtain ⟨w2, cap, hconv, hcell, hbel⟩ := conv_any s w
        have HC : Hid (_ : Prop) := hcell
        have HB : Hid (_ : Prop) := hbel
        have hsz : (s.size : Int) ≤ 16 := by omega
        have hcap : Hid (s.size ≤ s.size) := Nat.le_refl _
        clear hcell hbel h0 h16 h16'
        go_enter Tryz.func106, Tryz.ntmps106
        go_wp2_with (go_at_call 146; refine (isLetter_any _ _).mono ?_; rintro e w' ⟨rfl, rfl⟩; rw [hl])
        go_loop [21] (fun i => ∃ k : Nat, k ≤ s.size ∧ i = .int .i64 k ∧ (s.data.toList.take k).all nameC = true) (fun i => s.size - (intOf i).toNat)
        case atStart => exact ⟨0, Nat.zero_le _, rfl, by simp⟩
        case round =>
          obtain ⟨k, hk, rfl, hall⟩ := hrel
          have HA : Hid ((s.data.toList.take k).all nameC = true) := hall
          clear hall
          by_cases hlt : k < s.size
          · have hc := HC.out k hlt
            have hlt' : (k : Int) < (s.size : Int) := by omega
            cases hl1 : letB s[k]
            · cases hd1 : digB s[k]
              · by_cases h45 : s[k] = 45
                · have HX : Hid ((s.data.toList.take (k + 1)).all nameC = true) := by unfold Hid; rw [all_snoc s k hlt, HA.out]; simp [nameC, h45]
                  rw [h45, show (((45 : UInt8).toNat : Nat) : Int) = 45 from rfl] at hc
                  have q1 : ∀ W, Calls Tryz.prog 146 #[.int .u8 45] W fun e w' => e = .returned (.bool false) ∧ w' = W := fun W => isLetter_any 45 W
                  have q2 : ∀ W, Calls Tryz.prog 147 #[.int .u8 45] W fun e w' => e = .returned (.bool false) ∧ w' = W := fun W => isDigit_any 45 W
                  clear h45 hl1 hd1
                  go_wp2_with (first | (go_at_call 146; refine (q1 _).mono ?_; rintro e w' ⟨rfl, rfl⟩) | (go_at_call 147; refine (q2 _).mono ?_; rintro e w' ⟨rfl, rfl⟩))
                  go_round
                  case rel => exact ⟨k + 1, by omega, by go_num, HX.out⟩
                  case measure => simp [intOf]; omega
                · have HX : Hid (r = false) := by unfold Hid; rw [HN.out]; exact all_stop s k hlt (by simp [nameC, hl1, hd1, h45])
                  have hc5 : ¬ ((s[k].toNat : Nat) : Int) = 45 := fun e => h45 (by apply UInt8.toNat_inj.1; show _ = 45; omega)
                  clear h45
                  go_wp2_with (first | (go_at_call 146; refine (isLetter_any _ _).mono ?_; rintro e w' ⟨rfl, rfl⟩; rw [hl1]) | (go_at_call 147; refine (isDigit_any _ _).mono ?_; rintro e w' ⟨rfl, rfl⟩; rw [hd1]))
                  go_ret
                  exact ⟨ret_bool HX.out.symm, HB.out⟩
              · have HX : Hid ((s.data.toList.take (k + 1)).all nameC = true) := by unfold Hid; rw [all_snoc s k hlt, HA.out]; simp [nameC, hd1]
                go_wp2_with (first | (go_at_call 146; refine (isLetter_any _ _).mono ?_; rintro e w' ⟨rfl, rfl⟩; rw [hl1]) | (go_at_call 147; refine (isDigit_any _ _).mono ?_; rintro e w' ⟨rfl, rfl⟩; rw [hd1]))
                go_round
                case rel => exact ⟨k + 1, by omega, by go_num, HX.out⟩
                case measure => simp [intOf]; omega
            · have HX : Hid ((s.data.toList.take (k + 1)).all nameC = true) := by unfold Hid; rw [all_snoc s k hlt, HA.out]; simp [nameC, hl1]
              go_wp2_with (first | (go_at_call 146; refine (isLetter_any _ _).mono ?_; rintro e w' ⟨rfl, rfl⟩; rw [hl1]) | (go_at_call 147; refine (isDigit_any _ _).mono ?_; rintro e w' ⟨rfl, rfl⟩; rw [hd1]))
              go_round
              case rel => exact ⟨k + 1, by omega, by go_num, HX.out⟩
              case measure => simp [intOf]; omega
          · have HX : Hid (r = true) := by unfold Hid; rw [HN.out]; have := HA.out; rwa [List.take_of_length_le (by simp; omega)] at this
            have hlt' : ¬ (k : Int) < (s.size : Int) := by omega
            go_wp2
            go_ret
            exact ⟨ret_bool HX.out.symm, HB.out⟩
theorem let_no1 {c : UInt8} (h : ¬ 97 ≤ c.toNat) : letB c = false := by unfold letB; simp [h]
theorem let_no2 {c : UInt8} (h : ¬ c.toNat ≤ 122) : letB c = false := by unfold letB; simp [h]
theorem let_yes {c : UInt8} (h : 97 ≤ c.toNat) (h2 : c.toNat ≤ 122) : letB c = true := by unfold letB; simp [h, h2]
theorem name_cases (c : UInt8) : (nameC c = true ∧ 97 ≤ c.toNat ∧ c.toNat ≤ 122) ∨ (nameC c = true ∧ ¬ 97 ≤ c.toNat ∧ 48 ≤ c.toNat ∧ c.toNat ≤ 57) ∨ (nameC c = true ∧ c.toNat = 45) ∨
    (nameC c = false ∧ ¬ 97 ≤ c.toNat ∧ ¬ 48 ≤ c.toNat ∧ ¬ c.toNat = 45) ∨ (nameC c = false ∧ ¬ 97 ≤ c.toNat ∧ 48 ≤ c.toNat ∧ ¬ c.toNat ≤ 57 ∧ ¬ c.toNat = 45) ∨ (nameC c = false ∧ 97 ≤ c.toNat ∧ ¬ c.toNat ≤ 122 ∧ 48 ≤ c.toNat ∧ ¬ c.toNat ≤ 57 ∧ ¬ c.toNat = 45) := by
  have h45 : (c == 45) = decide (c.toNat = 45) := by
    by_cases e : c = 45
    · subst e; rfl
    · have : c.toNat ≠ 45 := fun h => e (UInt8.toNat_inj.1 h)
      simp [e, this]
  unfold nameC letB digB
  rw [h45]
  by_cases h1 : 97 ≤ c.toNat
  · by_cases h2 : c.toNat ≤ 122
    · exact Or.inl ⟨by simp [h1, h2], h1, h2⟩
    · refine Or.inr (Or.inr (Or.inr (Or.inr (Or.inr ⟨?_, h1, h2, by omega, by omega, by omega⟩))))
      have a1 : ¬ c.toNat ≤ 57 := by omega
      have a2 : ¬ c.toNat = 45 := by omega
      simp [h2, a1, a2]
  · by_cases h3 : 48 ≤ c.toNat
    · by_cases h4 : c.toNat ≤ 57
      · exact Or.inr (Or.inl ⟨by simp [h3, h4], h1, h3, h4⟩)
      · refine Or.inr (Or.inr (Or.inr (Or.inr (Or.inl ⟨?_, h1, h3, h4, by omega⟩))))
        have a2 : ¬ c.toNat = 45 := by omega
        simp [h1, h4, a2]
    · by_cases h5 : c.toNat = 45
      · exact Or.inr (Or.inr (Or.inl ⟨by simp [h5], h5⟩))
      · exact Or.inr (Or.inr (Or.inr (Or.inl ⟨by simp [h1, h3, h5], h1, h3, h5⟩)))
end Go.Proofs.YthaebbmekonacaaGreatDoor

set_option linter.unusedVariables false
set_option linter.unusedSimpArgs false
set_option maxRecDepth 100000
namespace Go.Proofs.YthaebbmekonacaaGreatDoor
open Go.RowKit
/-- An item: its prefix, from which to which length. -/
structure Itm where
  f : Int
  r : Int
  s : ByteArray
  l : Int
  lo : Int
  hi : Int
def itV (x : Itm) : Value := .agg #[.int .i64 x.f, .int .u64 x.r, .string x.s, .int .i64 x.l, .int .i64 x.lo, .int .i64 x.hi]
def okI (x : Itm) : Bool := decide (Pr.chk x.f x.r x.s x.l = 0) && decide (x.l ≤ x.lo) && decide (x.lo ≤ x.hi) && decide (x.hi ≤ 8 * Pr.szOf x.f)
/-- The two boxes of mayItem. -/
theorem two_box (f r : Int) (s : ByteArray) (l lo hi : Int) (w : World) {W : World} (hW : W = ((w.alloc (.cells #[.int .i64 f, .int .u64 r, .string s, .int .i64 l, .int .i64 lo, .int .i64 hi] 52)).alloc (.cells #[.int .i64 f, .int .u64 r, .string s, .int .i64 l] 50))) :
    Below w.heap.size w W ∧ (W.cell? ⟨w.heap.size, 4, none⟩ = some (.int .i64 lo) ∧ W.cell? ⟨w.heap.size, 5, none⟩ = some (.int .i64 hi)) ∧ W.cell? ⟨w.heap.size + 1, 0, none⟩ = some (.int .i64 f) ∧ W.cell? ⟨w.heap.size + 1, 1, none⟩ = some (.int .u64 r) ∧ W.cell? ⟨w.heap.size + 1, 2, none⟩ = some (.string s) ∧ W.cell? ⟨w.heap.size + 1, 3, none⟩ = some (.int .i64 l) := by
  obtain ⟨W1, e1⟩ : ∃ X, X = w.alloc (.cells #[.int .i64 f, .int .u64 r, .string s, .int .i64 l, .int .i64 lo, .int .i64 hi] 52) := ⟨_, rfl⟩
  rw [← e1] at hW
  have z1 : W1.heap.size = w.heap.size + 1 := by rw [e1]; simp
  have b1 : Below w.heap.size w W1 := by rw [e1]; exact below_box _ _
  have b2 : Below W1.heap.size W1 W := by rw [hW]; exact below_box _ _
  refine ⟨b1.trans (b2.mono (by omega)), ⟨below_cell b2 ?_, below_cell b2 ?_⟩, ?_, ?_, ?_, ?_⟩
  · rw [e1, World.cell?_alloc_new]; rfl
  · rw [e1, World.cell?_alloc_new]; rfl
  all_goals (rw [hW, ← z1, World.cell?_alloc_new]; rfl)
set_option maxHeartbeats 4000000 in
theorem mayItem_any (x : Itm) (w : World) (ht : Pr.Tabs w) (hl : -9223372036854775808 ≤ x.l ∧ x.l ≤ 9223372036854775807) :
    Calls Tryz.prog 149 #[itV x] w fun e w' => e = .returned (.bool (okI x)) ∧ Below w.heap.size w w' := by
  obtain ⟨f, r, s, l, lo, hi⟩ := x
  have HREF : Hid (okI ⟨f, r, s, l, lo, hi⟩ = (decide (Pr.chk f r s l = 0) && decide (l ≤ lo) && decide (lo ≤ hi) && decide (hi ≤ 8 * Pr.szOf f))) := rfl
  obtain ⟨hb, hc, hq⟩ := two_box f r s l lo hi w rfl
  have hdw := (Below.refl ((w.alloc (.cells #[.int .i64 f, .int .u64 r, .string s, .int .i64 l, .int .i64 lo, .int .i64 hi] 52)).alloc (.cells #[.int .i64 f, .int .u64 r, .string s, .int .i64 l] 50)).heap.size ((w.alloc (.cells #[.int .i64 f, .int .u64 r, .string s, .int .i64 l, .int .i64 lo, .int .i64 hi] 52)).alloc (.cells #[.int .i64 f, .int .u64 r, .string s, .int .i64 l] 50))).drew
  have hc0 := below_cell hb (b := 1) (i := 0) (v := .int .i64 0)
  clear hc0
  generalize hR : okI ⟨f, r, s, l, lo, hi⟩ = d at *
  have hzb := Pr.szOf_bd f
  unfold itV
  dsimp only
  have HB : Hid (Below w.heap.size w ((w.alloc (.cells #[.int .i64 f, .int .u64 r, .string s, .int .i64 l, .int .i64 lo, .int .i64 hi] 52)).alloc (.cells #[.int .i64 f, .int .u64 r, .string s, .int .i64 l] 50))) := hb
  have HT : Hid (Pr.Tabs ((w.alloc (.cells #[.int .i64 f, .int .u64 r, .string s, .int .i64 l, .int .i64 lo, .int .i64 hi] 52)).alloc (.cells #[.int .i64 f, .int .u64 r, .string s, .int .i64 l] 50))) := ht.below hb
  have HC0 : Hid (_ ∧ _) := hc
  have HQ0 : Hid (_ ∧ _) := hq
  clear hb hc hq ht
  generalize hcc : Pr.chk f r s l = c at *
  generalize hzz : Pr.szOf f = z at *
  by_cases hz0 : c = 0
  · by_cases h1 : l ≤ lo
    · by_cases h2 : lo ≤ hi
      · obtain rfl := hz0
        have hd : decide (hi ≤ 8 * z) = d := by rw [HREF.out, decide_eq_true h1, decide_eq_true h2, decide_eq_true (rfl : (0 : Int) = 0)]; simp
        generalize hW0 : (w.alloc (.cells #[.int .i64 f, .int .u64 r, .string s, .int .i64 l, .int .i64 lo, .int .i64 hi] 52)).alloc (.cells #[.int .i64 f, .int .u64 r, .string s, .int .i64 l] 50) = W0 at *
        let Ev : World → World → Prop := fun x y => Below x.heap.size x y
        have hr0 : Ev W0.drew W0.drew := Below.refl _ _
        have HQ : Hid (∀ X, Ev W0.drew X → X.cell? ⟨w.heap.size + 1, 0, none⟩ = some (.int .i64 f) ∧ X.cell? ⟨w.heap.size + 1, 1, none⟩ = some (.int .u64 r) ∧ X.cell? ⟨w.heap.size + 1, 2, none⟩ = some (.string s) ∧ X.cell? ⟨w.heap.size + 1, 3, none⟩ = some (.int .i64 l)) := fun X hX => ⟨below_cell hX (below_cell hdw HQ0.out.1), below_cell hX (below_cell hdw HQ0.out.2.1), below_cell hX (below_cell hdw HQ0.out.2.2.1), below_cell hX (below_cell hdw HQ0.out.2.2.2)⟩
        have HC : Hid (∀ X, Ev W0.drew X → X.cell? ⟨w.heap.size, 4, none⟩ = some (.int .i64 lo) ∧ X.cell? ⟨w.heap.size, 5, none⟩ = some (.int .i64 hi)) := fun X hX => ⟨below_cell hX (below_cell hdw HC0.out.1), below_cell hX (below_cell hdw HC0.out.2)⟩
        have HTX : Hid (∀ X, Ev W0.drew X → Pr.Tabs X) := fun X hX => (HT.out.below hdw).below hX
        have HK : Hid (∀ X, Ev W0.drew X → Calls Tryz.prog 173 #[.agg #[.int .i64 f, .int .u64 r, .string s, .int .i64 l]] X fun e w' => e = .returned (.int .i64 0) ∧ Below X.heap.size X w') := fun X hX => by
          have := Pr.check_any f r s l X (HTX.out X hX).sizes (HTX.out X hX).rds
          rw [hcc] at this
          exact this
        have HS : Hid (∀ X, Ev W0.drew X → Calls Tryz.prog 117 #[.int .i64 f] X fun e w' => e = .returned (.int .i64 z) ∧ w' = X) := fun X hX => by
          have := Pr.size_any f X (HTX.out X hX).sizes
          rw [hzz] at this
          exact this
        go_enter Tryz.func149, Tryz.ntmps149
        go_wp2_with fail
        refine with_act (fun ax => ax.tmps.size = 32 ∧ ax.defers = [] ∧ ax.eval (.tmp 1) = .pointer (some ⟨w.heap.size, 0, none⟩) ∧ ax.eval (.tmp 3) = .pointer (some ⟨w.heap.size + 1, 0, none⟩)) ⟨rfl, rfl, rfl, rfl⟩ ?_
        rintro a0 ⟨F0s, FD, F1, F3⟩
        refine region_list (by kernel_rfl) Ev [(fun v _ => v = .agg #[.int .i64 f, .int .u64 r, .string s, .int .i64 l]),
              (fun v _ => v = .int .i64 0),
              (fun v _ => v = .bool true),
              (fun v _ => v = .bool true),
              (fun v _ => v = .pointer (some ⟨w.heap.size + 1, 3, none⟩)),
              (fun v _ => v = .int .i64 l),
              (fun v _ => v = .pointer (some ⟨w.heap.size, 4, none⟩)),
              (fun v _ => v = .int .i64 lo),
              (fun v _ => v = .bool true),
              (fun v _ => v = .bool true),
              (fun v _ => v = .bool true),
              (fun v _ => v = .pointer (some ⟨w.heap.size, 4, none⟩)),
              (fun v _ => v = .int .i64 lo),
              (fun v _ => v = .pointer (some ⟨w.heap.size, 5, none⟩)),
              (fun v _ => v = .int .i64 hi),
              (fun v _ => v = .bool true),
              (fun v _ => v = .bool true),
              (fun v _ => v = .bool true),
              (fun v _ => v = .pointer (some ⟨w.heap.size, 5, none⟩)),
              (fun v _ => v = .int .i64 hi),
              (fun v _ => v = .pointer (some ⟨w.heap.size + 1, 0, none⟩)),
              (fun v _ => v = .int .i64 f),
              (fun v _ => v = .int .i64 z),
              (fun v _ => v = .int .i64 (8 * z)),
              (fun v _ => v = .bool d),
              (fun v _ => v = .bool d),
              (fun v _ => v = .bool d)] [some 6, some 7, some 8, some 9, some 10, some 11, some 12, some 13, some 14, some 15, some 16, some 17, some 18, some 19, some 20, some 21, some 22, some 23, some 24, some 25, some 26, some 27, some 28, some 29, some 30, some 31, some 2] (by kernel_rfl) (fun x y z h k => h.trans (k.mono h.size)) hr0 ?keep (by kernel_rfl) (by rw [F0s]; kernel_rfl) ?steps ?done
        case keep => repeat (first | exact kept_nil | refine kept_cons (kept_eq _) ?_ | refine kept_cons (fun _ _ _ _ _ h => h) ?_)
        case done =>
          intro a1 X hsz hdf hfix hev hE
          have q2 : a1.eval (.tmp 2) = .bool d := hE 26 (by decide)
          go_wp2
          refine bodyPost_ret (v := a1.eval (.tmp 2)) (results_tmp rfl _ _ _) (hdf.trans FD) ?_
          rw [q2]
          exact ⟨rfl, HB.out.trans ((hdw.mono HB.out.size).trans (hev.mono (Nat.le_trans HB.out.size hdw.size)))⟩
        case steps =>
          refine ⟨?_, ?_, ?_, ?_, ?_, ?_, ?_, ?_, ?_, ?_, ?_, ?_, ?_, ?_, ?_, ?_, ?_, ?_, ?_, ?_, ?_, ?_, ?_, ?_, ?_, ?_, ?_, trivial⟩
          · intro a1 X hfix hev hdep
            have q3 : a1.eval (.tmp 3) = _ := (hfix 3 (by decide)).trans F3
            obtain ⟨c0, c1, c2, c3⟩ := HQ.out X hev
            refine Or.inl ⟨rfl, ?_⟩
            refine ow_value (v := .agg #[.int .i64 f, .int .u64 r, .string s, .int .i64 l]) (w' := X) ?_ ⟨_, rfl, Below.refl _ _, rfl⟩
            clear hfix hev hdep; generalize a1.eval = ev at *; unfold execOp; simp only; go_simp
          · intro a1 X hfix hev hdep
            have q6 : a1.eval (.tmp 6) = .agg #[.int .i64 f, .int .u64 r, .string s, .int .i64 l] := hdep 0 (by decide)
            refine Or.inl ⟨rfl, ?_⟩
            refine ow_enter (f := 173) (args := #[.agg #[.int .i64 f, .int .u64 r, .string s, .int .i64 l]]) (w' := X) ?_ ?_
            · have hf0 : a1.eval (.func 173) = .func (.func 173) #[] #[] := rfl; clear hfix hev hdep; generalize a1.eval = ev at *; unfold execOp; simp only; go_simp
            · refine Calls.mono (HK.out X hev) ?_
              rintro e Y ⟨rfl, hb⟩
              exact ⟨_, rfl, _, rfl, hb, rfl⟩
          · intro a1 X hfix hev hdep
            have q7 : a1.eval (.tmp 7) = .int .i64 0 := hdep 1 (by decide)
            refine Or.inl ⟨rfl, ?_⟩
            refine ow_value (v := .bool true) (w' := X) ?_ ⟨_, rfl, Below.refl _ _, rfl⟩
            have hk0 : a1.eval (.const (.int .i64 0)) = .int .i64 0 := rfl; clear hfix hev hdep; generalize a1.eval = ev at *; unfold execOp; simp only; go_simp
          · intro a1 X hfix hev hdep
            have q8 : a1.eval (.tmp 8) = .bool true := hdep 2 (by decide)
            refine Or.inl ⟨rfl, ?_⟩
            refine ow_value (v := .bool true) (w' := X) ?_ ⟨_, rfl, Below.refl _ _, rfl⟩
            clear hfix hev hdep; generalize a1.eval = ev at *; unfold execOp; simp only; go_simp
          · intro a1 X hfix hev hdep
            have g0 : a1.eval (.tmp 9) = .bool true := hdep 3 (by decide)
            have q3 : a1.eval (.tmp 3) = _ := (hfix 3 (by decide)).trans F3
            refine Or.inr (Or.inl ⟨_, _, rfl, g0, ?_⟩)
            refine ow_value (v := .pointer (some ⟨w.heap.size + 1, 3, none⟩)) (w' := X) ?_ ⟨_, rfl, Below.refl _ _, rfl⟩
            clear g0; clear hfix hev hdep; generalize a1.eval = ev at *; unfold execOp; simp only; go_simp
          · intro a1 X hfix hev hdep
            have g0 : a1.eval (.tmp 9) = .bool true := hdep 3 (by decide)
            have q10 : a1.eval (.tmp 10) = .pointer (some ⟨w.heap.size + 1, 3, none⟩) := hdep 4 (by decide)
            obtain ⟨c0, c1, c2, c3⟩ := HQ.out X hev
            refine Or.inr (Or.inl ⟨_, _, rfl, g0, ?_⟩)
            refine ow_value (v := .int .i64 l) (w' := X) ?_ ⟨_, rfl, Below.refl _ _, rfl⟩
            clear g0; clear hfix hev hdep; generalize a1.eval = ev at *; unfold execOp; simp only; go_simp
          · intro a1 X hfix hev hdep
            have g0 : a1.eval (.tmp 9) = .bool true := hdep 3 (by decide)
            have q1 : a1.eval (.tmp 1) = _ := (hfix 1 (by decide)).trans F1
            refine Or.inr (Or.inl ⟨_, _, rfl, g0, ?_⟩)
            refine ow_value (v := .pointer (some ⟨w.heap.size, 4, none⟩)) (w' := X) ?_ ⟨_, rfl, Below.refl _ _, rfl⟩
            clear g0; clear hfix hev hdep; generalize a1.eval = ev at *; unfold execOp; simp only; go_simp
          · intro a1 X hfix hev hdep
            have g0 : a1.eval (.tmp 9) = .bool true := hdep 3 (by decide)
            have q12 : a1.eval (.tmp 12) = .pointer (some ⟨w.heap.size, 4, none⟩) := hdep 6 (by decide)
            obtain ⟨c4, c5⟩ := HC.out X hev
            refine Or.inr (Or.inl ⟨_, _, rfl, g0, ?_⟩)
            refine ow_value (v := .int .i64 lo) (w' := X) ?_ ⟨_, rfl, Below.refl _ _, rfl⟩
            clear g0; clear hfix hev hdep; generalize a1.eval = ev at *; unfold execOp; simp only; go_simp
          · intro a1 X hfix hev hdep
            have g0 : a1.eval (.tmp 9) = .bool true := hdep 3 (by decide)
            have q11 : a1.eval (.tmp 11) = .int .i64 l := hdep 5 (by decide)
            have q13 : a1.eval (.tmp 13) = .int .i64 lo := hdep 7 (by decide)
            refine Or.inr (Or.inl ⟨_, _, rfl, g0, ?_⟩)
            refine ow_value (v := .bool true) (w' := X) ?_ ⟨_, rfl, Below.refl _ _, rfl⟩
            clear g0; clear hfix hev hdep; generalize a1.eval = ev at *; unfold execOp; simp only; go_simp
          · intro a1 X hfix hev hdep
            have q9 : a1.eval (.tmp 9) = .bool true := hdep 3 (by decide)
            have q14 : a1.eval (.tmp 14) = .bool true := hdep 8 (by decide)
            refine Or.inl ⟨rfl, ?_⟩
            refine ow_value (v := .bool true) (w' := X) ?_ ⟨_, rfl, Below.refl _ _, rfl⟩
            have hk0 : a1.eval (.const (.bool false)) = .bool false := rfl; clear hfix hev hdep; generalize a1.eval = ev at *; unfold execOp; simp only; go_simp
          · intro a1 X hfix hev hdep
            have q15 : a1.eval (.tmp 15) = .bool true := hdep 9 (by decide)
            refine Or.inl ⟨rfl, ?_⟩
            refine ow_value (v := .bool true) (w' := X) ?_ ⟨_, rfl, Below.refl _ _, rfl⟩
            clear hfix hev hdep; generalize a1.eval = ev at *; unfold execOp; simp only; go_simp
          · intro a1 X hfix hev hdep
            have g0 : a1.eval (.tmp 16) = .bool true := hdep 10 (by decide)
            have q1 : a1.eval (.tmp 1) = _ := (hfix 1 (by decide)).trans F1
            refine Or.inr (Or.inl ⟨_, _, rfl, g0, ?_⟩)
            refine ow_value (v := .pointer (some ⟨w.heap.size, 4, none⟩)) (w' := X) ?_ ⟨_, rfl, Below.refl _ _, rfl⟩
            clear g0; clear hfix hev hdep; generalize a1.eval = ev at *; unfold execOp; simp only; go_simp
          · intro a1 X hfix hev hdep
            have g0 : a1.eval (.tmp 16) = .bool true := hdep 10 (by decide)
            have q17 : a1.eval (.tmp 17) = .pointer (some ⟨w.heap.size, 4, none⟩) := hdep 11 (by decide)
            obtain ⟨c4, c5⟩ := HC.out X hev
            refine Or.inr (Or.inl ⟨_, _, rfl, g0, ?_⟩)
            refine ow_value (v := .int .i64 lo) (w' := X) ?_ ⟨_, rfl, Below.refl _ _, rfl⟩
            clear g0; clear hfix hev hdep; generalize a1.eval = ev at *; unfold execOp; simp only; go_simp
          · intro a1 X hfix hev hdep
            have g0 : a1.eval (.tmp 16) = .bool true := hdep 10 (by decide)
            have q1 : a1.eval (.tmp 1) = _ := (hfix 1 (by decide)).trans F1
            refine Or.inr (Or.inl ⟨_, _, rfl, g0, ?_⟩)
            refine ow_value (v := .pointer (some ⟨w.heap.size, 5, none⟩)) (w' := X) ?_ ⟨_, rfl, Below.refl _ _, rfl⟩
            clear g0; clear hfix hev hdep; generalize a1.eval = ev at *; unfold execOp; simp only; go_simp
          · intro a1 X hfix hev hdep
            have g0 : a1.eval (.tmp 16) = .bool true := hdep 10 (by decide)
            have q19 : a1.eval (.tmp 19) = .pointer (some ⟨w.heap.size, 5, none⟩) := hdep 13 (by decide)
            obtain ⟨c4, c5⟩ := HC.out X hev
            refine Or.inr (Or.inl ⟨_, _, rfl, g0, ?_⟩)
            refine ow_value (v := .int .i64 hi) (w' := X) ?_ ⟨_, rfl, Below.refl _ _, rfl⟩
            clear g0; clear hfix hev hdep; generalize a1.eval = ev at *; unfold execOp; simp only; go_simp
          · intro a1 X hfix hev hdep
            have g0 : a1.eval (.tmp 16) = .bool true := hdep 10 (by decide)
            have q18 : a1.eval (.tmp 18) = .int .i64 lo := hdep 12 (by decide)
            have q20 : a1.eval (.tmp 20) = .int .i64 hi := hdep 14 (by decide)
            refine Or.inr (Or.inl ⟨_, _, rfl, g0, ?_⟩)
            refine ow_value (v := .bool true) (w' := X) ?_ ⟨_, rfl, Below.refl _ _, rfl⟩
            clear g0; clear hfix hev hdep; generalize a1.eval = ev at *; unfold execOp; simp only; go_simp
          · intro a1 X hfix hev hdep
            have q16 : a1.eval (.tmp 16) = .bool true := hdep 10 (by decide)
            have q21 : a1.eval (.tmp 21) = .bool true := hdep 15 (by decide)
            refine Or.inl ⟨rfl, ?_⟩
            refine ow_value (v := .bool true) (w' := X) ?_ ⟨_, rfl, Below.refl _ _, rfl⟩
            have hk0 : a1.eval (.const (.bool false)) = .bool false := rfl; clear hfix hev hdep; generalize a1.eval = ev at *; unfold execOp; simp only; go_simp
          · intro a1 X hfix hev hdep
            have q22 : a1.eval (.tmp 22) = .bool true := hdep 16 (by decide)
            refine Or.inl ⟨rfl, ?_⟩
            refine ow_value (v := .bool true) (w' := X) ?_ ⟨_, rfl, Below.refl _ _, rfl⟩
            clear hfix hev hdep; generalize a1.eval = ev at *; unfold execOp; simp only; go_simp
          · intro a1 X hfix hev hdep
            have g0 : a1.eval (.tmp 23) = .bool true := hdep 17 (by decide)
            have q1 : a1.eval (.tmp 1) = _ := (hfix 1 (by decide)).trans F1
            refine Or.inr (Or.inl ⟨_, _, rfl, g0, ?_⟩)
            refine ow_value (v := .pointer (some ⟨w.heap.size, 5, none⟩)) (w' := X) ?_ ⟨_, rfl, Below.refl _ _, rfl⟩
            clear g0; clear hfix hev hdep; generalize a1.eval = ev at *; unfold execOp; simp only; go_simp
          · intro a1 X hfix hev hdep
            have g0 : a1.eval (.tmp 23) = .bool true := hdep 17 (by decide)
            have q24 : a1.eval (.tmp 24) = .pointer (some ⟨w.heap.size, 5, none⟩) := hdep 18 (by decide)
            obtain ⟨c4, c5⟩ := HC.out X hev
            refine Or.inr (Or.inl ⟨_, _, rfl, g0, ?_⟩)
            refine ow_value (v := .int .i64 hi) (w' := X) ?_ ⟨_, rfl, Below.refl _ _, rfl⟩
            clear g0; clear hfix hev hdep; generalize a1.eval = ev at *; unfold execOp; simp only; go_simp
          · intro a1 X hfix hev hdep
            have g0 : a1.eval (.tmp 23) = .bool true := hdep 17 (by decide)
            have q3 : a1.eval (.tmp 3) = _ := (hfix 3 (by decide)).trans F3
            refine Or.inr (Or.inl ⟨_, _, rfl, g0, ?_⟩)
            refine ow_value (v := .pointer (some ⟨w.heap.size + 1, 0, none⟩)) (w' := X) ?_ ⟨_, rfl, Below.refl _ _, rfl⟩
            clear g0; clear hfix hev hdep; generalize a1.eval = ev at *; unfold execOp; simp only; go_simp
          · intro a1 X hfix hev hdep
            have g0 : a1.eval (.tmp 23) = .bool true := hdep 17 (by decide)
            have q26 : a1.eval (.tmp 26) = .pointer (some ⟨w.heap.size + 1, 0, none⟩) := hdep 20 (by decide)
            obtain ⟨c0, c1, c2, c3⟩ := HQ.out X hev
            refine Or.inr (Or.inl ⟨_, _, rfl, g0, ?_⟩)
            refine ow_value (v := .int .i64 f) (w' := X) ?_ ⟨_, rfl, Below.refl _ _, rfl⟩
            clear g0; clear hfix hev hdep; generalize a1.eval = ev at *; unfold execOp; simp only; go_simp
          · intro a1 X hfix hev hdep
            have g0 : a1.eval (.tmp 23) = .bool true := hdep 17 (by decide)
            have q27 : a1.eval (.tmp 27) = .int .i64 f := hdep 21 (by decide)
            refine Or.inr (Or.inl ⟨_, _, rfl, g0, ?_⟩)
            refine ow_enter (f := 117) (args := #[.int .i64 f]) (w' := X) ?_ ?_
            · have hf0 : a1.eval (.func 117) = .func (.func 117) #[] #[] := rfl; clear g0; clear hfix hev hdep; generalize a1.eval = ev at *; unfold execOp; simp only; go_simp
            · refine Calls.mono (HS.out X hev) ?_
              rintro e Y ⟨rfl, rfl⟩
              exact ⟨_, rfl, _, rfl, Below.refl _ _, rfl⟩
          · intro a1 X hfix hev hdep
            have g0 : a1.eval (.tmp 23) = .bool true := hdep 17 (by decide)
            have q28 : a1.eval (.tmp 28) = .int .i64 z := hdep 22 (by decide)
            refine Or.inr (Or.inl ⟨_, _, rfl, g0, ?_⟩)
            refine ow_value (v := .int .i64 (8 * z)) (w' := X) ?_ ⟨_, rfl, Below.refl _ _, rfl⟩
            have hk0 : a1.eval (.const (.int .i64 8)) = .int .i64 8 := rfl; clear g0; clear hfix hev hdep; generalize a1.eval = ev at *; unfold execOp; simp only; go_simp; rw [IntKind.wrap_i64]; omega
          · intro a1 X hfix hev hdep
            have g0 : a1.eval (.tmp 23) = .bool true := hdep 17 (by decide)
            have q25 : a1.eval (.tmp 25) = .int .i64 hi := hdep 19 (by decide)
            have q29 : a1.eval (.tmp 29) = .int .i64 (8 * z) := hdep 23 (by decide)
            refine Or.inr (Or.inl ⟨_, _, rfl, g0, ?_⟩)
            refine ow_value (v := .bool d) (w' := X) ?_ ⟨_, rfl, Below.refl _ _, rfl⟩
            clear g0; clear hfix hev hdep; generalize a1.eval = ev at *; unfold execOp; simp only; go_simp
          · intro a1 X hfix hev hdep
            have q23 : a1.eval (.tmp 23) = .bool true := hdep 17 (by decide)
            have q30 : a1.eval (.tmp 30) = .bool d := hdep 24 (by decide)
            refine Or.inl ⟨rfl, ?_⟩
            refine ow_value (v := .bool d) (w' := X) ?_ ⟨_, rfl, Below.refl _ _, rfl⟩
            have hk0 : a1.eval (.const (.bool false)) = .bool false := rfl; clear hfix hev hdep; generalize a1.eval = ev at *; unfold execOp; simp only; go_simp
          · intro a1 X hfix hev hdep
            have q31 : a1.eval (.tmp 31) = .bool d := hdep 25 (by decide)
            refine Or.inl ⟨rfl, ?_⟩
            refine ow_value (v := .bool d) (w' := X) ?_ ⟨_, rfl, Below.refl _ _, rfl⟩
            clear hfix hev hdep; generalize a1.eval = ev at *; unfold execOp; simp only; go_simp
      · obtain rfl := hz0
        have HR : Hid (d = false) := by unfold Hid; rw [HREF.out, decide_eq_false h2]; simp
        generalize hW0 : (w.alloc (.cells #[.int .i64 f, .int .u64 r, .string s, .int .i64 l, .int .i64 lo, .int .i64 hi] 52)).alloc (.cells #[.int .i64 f, .int .u64 r, .string s, .int .i64 l] 50) = W0 at *
        let Ev : World → World → Prop := fun x y => Below x.heap.size x y
        have hr0 : Ev W0.drew W0.drew := Below.refl _ _
        have HQ : Hid (∀ X, Ev W0.drew X → X.cell? ⟨w.heap.size + 1, 0, none⟩ = some (.int .i64 f) ∧ X.cell? ⟨w.heap.size + 1, 1, none⟩ = some (.int .u64 r) ∧ X.cell? ⟨w.heap.size + 1, 2, none⟩ = some (.string s) ∧ X.cell? ⟨w.heap.size + 1, 3, none⟩ = some (.int .i64 l)) := fun X hX => ⟨below_cell hX (below_cell hdw HQ0.out.1), below_cell hX (below_cell hdw HQ0.out.2.1), below_cell hX (below_cell hdw HQ0.out.2.2.1), below_cell hX (below_cell hdw HQ0.out.2.2.2)⟩
        have HC : Hid (∀ X, Ev W0.drew X → X.cell? ⟨w.heap.size, 4, none⟩ = some (.int .i64 lo) ∧ X.cell? ⟨w.heap.size, 5, none⟩ = some (.int .i64 hi)) := fun X hX => ⟨below_cell hX (below_cell hdw HC0.out.1), below_cell hX (below_cell hdw HC0.out.2)⟩
        have HTX : Hid (∀ X, Ev W0.drew X → Pr.Tabs X) := fun X hX => (HT.out.below hdw).below hX
        have HK : Hid (∀ X, Ev W0.drew X → Calls Tryz.prog 173 #[.agg #[.int .i64 f, .int .u64 r, .string s, .int .i64 l]] X fun e w' => e = .returned (.int .i64 0) ∧ Below X.heap.size X w') := fun X hX => by
          have := Pr.check_any f r s l X (HTX.out X hX).sizes (HTX.out X hX).rds
          rw [hcc] at this
          exact this
        have HS : Hid (∀ X, Ev W0.drew X → Calls Tryz.prog 117 #[.int .i64 f] X fun e w' => e = .returned (.int .i64 z) ∧ w' = X) := fun X hX => by
          have := Pr.size_any f X (HTX.out X hX).sizes
          rw [hzz] at this
          exact this
        go_enter Tryz.func149, Tryz.ntmps149
        go_wp2_with fail
        refine with_act (fun ax => ax.tmps.size = 32 ∧ ax.defers = [] ∧ ax.eval (.tmp 1) = .pointer (some ⟨w.heap.size, 0, none⟩) ∧ ax.eval (.tmp 3) = .pointer (some ⟨w.heap.size + 1, 0, none⟩)) ⟨rfl, rfl, rfl, rfl⟩ ?_
        rintro a0 ⟨F0s, FD, F1, F3⟩
        refine region_list (by kernel_rfl) Ev [(fun v _ => v = .agg #[.int .i64 f, .int .u64 r, .string s, .int .i64 l]),
              (fun v _ => v = .int .i64 0),
              (fun v _ => v = .bool true),
              (fun v _ => v = .bool true),
              (fun v _ => v = .pointer (some ⟨w.heap.size + 1, 3, none⟩)),
              (fun v _ => v = .int .i64 l),
              (fun v _ => v = .pointer (some ⟨w.heap.size, 4, none⟩)),
              (fun v _ => v = .int .i64 lo),
              (fun v _ => v = .bool true),
              (fun v _ => v = .bool true),
              (fun v _ => v = .bool true),
              (fun v _ => v = .pointer (some ⟨w.heap.size, 4, none⟩)),
              (fun v _ => v = .int .i64 lo),
              (fun v _ => v = .pointer (some ⟨w.heap.size, 5, none⟩)),
              (fun v _ => v = .int .i64 hi),
              (fun v _ => v = .bool false),
              (fun v _ => v = .bool false),
              (fun v _ => v = .bool false),
              (fun _ _ => True),
              (fun _ _ => True),
              (fun _ _ => True),
              (fun _ _ => True),
              (fun _ _ => True),
              (fun _ _ => True),
              (fun _ _ => True),
              (fun v _ => v = .bool false),
              (fun v _ => v = .bool false)] [some 6, some 7, some 8, some 9, some 10, some 11, some 12, some 13, some 14, some 15, some 16, some 17, some 18, some 19, some 20, some 21, some 22, some 23, some 24, some 25, some 26, some 27, some 28, some 29, some 30, some 31, some 2] (by kernel_rfl) (fun x y z h k => h.trans (k.mono h.size)) hr0 ?keep (by kernel_rfl) (by rw [F0s]; kernel_rfl) ?steps ?done
        case keep => repeat (first | exact kept_nil | refine kept_cons (kept_eq _) ?_ | refine kept_cons (fun _ _ _ _ _ h => h) ?_)
        case done =>
          intro a1 X hsz hdf hfix hev hE
          have q2 : a1.eval (.tmp 2) = .bool false := hE 26 (by decide)
          go_wp2
          refine bodyPost_ret (v := a1.eval (.tmp 2)) (results_tmp rfl _ _ _) (hdf.trans FD) ?_
          rw [q2]
          exact ⟨ret_bool HR.out.symm, HB.out.trans ((hdw.mono HB.out.size).trans (hev.mono (Nat.le_trans HB.out.size hdw.size)))⟩
        case steps =>
          refine ⟨?_, ?_, ?_, ?_, ?_, ?_, ?_, ?_, ?_, ?_, ?_, ?_, ?_, ?_, ?_, ?_, ?_, ?_, ?_, ?_, ?_, ?_, ?_, ?_, ?_, ?_, ?_, trivial⟩
          · intro a1 X hfix hev hdep
            have q3 : a1.eval (.tmp 3) = _ := (hfix 3 (by decide)).trans F3
            obtain ⟨c0, c1, c2, c3⟩ := HQ.out X hev
            refine Or.inl ⟨rfl, ?_⟩
            refine ow_value (v := .agg #[.int .i64 f, .int .u64 r, .string s, .int .i64 l]) (w' := X) ?_ ⟨_, rfl, Below.refl _ _, rfl⟩
            clear hfix hev hdep; generalize a1.eval = ev at *; unfold execOp; simp only; go_simp
          · intro a1 X hfix hev hdep
            have q6 : a1.eval (.tmp 6) = .agg #[.int .i64 f, .int .u64 r, .string s, .int .i64 l] := hdep 0 (by decide)
            refine Or.inl ⟨rfl, ?_⟩
            refine ow_enter (f := 173) (args := #[.agg #[.int .i64 f, .int .u64 r, .string s, .int .i64 l]]) (w' := X) ?_ ?_
            · have hf0 : a1.eval (.func 173) = .func (.func 173) #[] #[] := rfl; clear hfix hev hdep; generalize a1.eval = ev at *; unfold execOp; simp only; go_simp
            · refine Calls.mono (HK.out X hev) ?_
              rintro e Y ⟨rfl, hb⟩
              exact ⟨_, rfl, _, rfl, hb, rfl⟩
          · intro a1 X hfix hev hdep
            have q7 : a1.eval (.tmp 7) = .int .i64 0 := hdep 1 (by decide)
            refine Or.inl ⟨rfl, ?_⟩
            refine ow_value (v := .bool true) (w' := X) ?_ ⟨_, rfl, Below.refl _ _, rfl⟩
            have hk0 : a1.eval (.const (.int .i64 0)) = .int .i64 0 := rfl; clear hfix hev hdep; generalize a1.eval = ev at *; unfold execOp; simp only; go_simp
          · intro a1 X hfix hev hdep
            have q8 : a1.eval (.tmp 8) = .bool true := hdep 2 (by decide)
            refine Or.inl ⟨rfl, ?_⟩
            refine ow_value (v := .bool true) (w' := X) ?_ ⟨_, rfl, Below.refl _ _, rfl⟩
            clear hfix hev hdep; generalize a1.eval = ev at *; unfold execOp; simp only; go_simp
          · intro a1 X hfix hev hdep
            have g0 : a1.eval (.tmp 9) = .bool true := hdep 3 (by decide)
            have q3 : a1.eval (.tmp 3) = _ := (hfix 3 (by decide)).trans F3
            refine Or.inr (Or.inl ⟨_, _, rfl, g0, ?_⟩)
            refine ow_value (v := .pointer (some ⟨w.heap.size + 1, 3, none⟩)) (w' := X) ?_ ⟨_, rfl, Below.refl _ _, rfl⟩
            clear g0; clear hfix hev hdep; generalize a1.eval = ev at *; unfold execOp; simp only; go_simp
          · intro a1 X hfix hev hdep
            have g0 : a1.eval (.tmp 9) = .bool true := hdep 3 (by decide)
            have q10 : a1.eval (.tmp 10) = .pointer (some ⟨w.heap.size + 1, 3, none⟩) := hdep 4 (by decide)
            obtain ⟨c0, c1, c2, c3⟩ := HQ.out X hev
            refine Or.inr (Or.inl ⟨_, _, rfl, g0, ?_⟩)
            refine ow_value (v := .int .i64 l) (w' := X) ?_ ⟨_, rfl, Below.refl _ _, rfl⟩
            clear g0; clear hfix hev hdep; generalize a1.eval = ev at *; unfold execOp; simp only; go_simp
          · intro a1 X hfix hev hdep
            have g0 : a1.eval (.tmp 9) = .bool true := hdep 3 (by decide)
            have q1 : a1.eval (.tmp 1) = _ := (hfix 1 (by decide)).trans F1
            refine Or.inr (Or.inl ⟨_, _, rfl, g0, ?_⟩)
            refine ow_value (v := .pointer (some ⟨w.heap.size, 4, none⟩)) (w' := X) ?_ ⟨_, rfl, Below.refl _ _, rfl⟩
            clear g0; clear hfix hev hdep; generalize a1.eval = ev at *; unfold execOp; simp only; go_simp
          · intro a1 X hfix hev hdep
            have g0 : a1.eval (.tmp 9) = .bool true := hdep 3 (by decide)
            have q12 : a1.eval (.tmp 12) = .pointer (some ⟨w.heap.size, 4, none⟩) := hdep 6 (by decide)
            obtain ⟨c4, c5⟩ := HC.out X hev
            refine Or.inr (Or.inl ⟨_, _, rfl, g0, ?_⟩)
            refine ow_value (v := .int .i64 lo) (w' := X) ?_ ⟨_, rfl, Below.refl _ _, rfl⟩
            clear g0; clear hfix hev hdep; generalize a1.eval = ev at *; unfold execOp; simp only; go_simp
          · intro a1 X hfix hev hdep
            have g0 : a1.eval (.tmp 9) = .bool true := hdep 3 (by decide)
            have q11 : a1.eval (.tmp 11) = .int .i64 l := hdep 5 (by decide)
            have q13 : a1.eval (.tmp 13) = .int .i64 lo := hdep 7 (by decide)
            refine Or.inr (Or.inl ⟨_, _, rfl, g0, ?_⟩)
            refine ow_value (v := .bool true) (w' := X) ?_ ⟨_, rfl, Below.refl _ _, rfl⟩
            clear g0; clear hfix hev hdep; generalize a1.eval = ev at *; unfold execOp; simp only; go_simp
          · intro a1 X hfix hev hdep
            have q9 : a1.eval (.tmp 9) = .bool true := hdep 3 (by decide)
            have q14 : a1.eval (.tmp 14) = .bool true := hdep 8 (by decide)
            refine Or.inl ⟨rfl, ?_⟩
            refine ow_value (v := .bool true) (w' := X) ?_ ⟨_, rfl, Below.refl _ _, rfl⟩
            have hk0 : a1.eval (.const (.bool false)) = .bool false := rfl; clear hfix hev hdep; generalize a1.eval = ev at *; unfold execOp; simp only; go_simp
          · intro a1 X hfix hev hdep
            have q15 : a1.eval (.tmp 15) = .bool true := hdep 9 (by decide)
            refine Or.inl ⟨rfl, ?_⟩
            refine ow_value (v := .bool true) (w' := X) ?_ ⟨_, rfl, Below.refl _ _, rfl⟩
            clear hfix hev hdep; generalize a1.eval = ev at *; unfold execOp; simp only; go_simp
          · intro a1 X hfix hev hdep
            have g0 : a1.eval (.tmp 16) = .bool true := hdep 10 (by decide)
            have q1 : a1.eval (.tmp 1) = _ := (hfix 1 (by decide)).trans F1
            refine Or.inr (Or.inl ⟨_, _, rfl, g0, ?_⟩)
            refine ow_value (v := .pointer (some ⟨w.heap.size, 4, none⟩)) (w' := X) ?_ ⟨_, rfl, Below.refl _ _, rfl⟩
            clear g0; clear hfix hev hdep; generalize a1.eval = ev at *; unfold execOp; simp only; go_simp
          · intro a1 X hfix hev hdep
            have g0 : a1.eval (.tmp 16) = .bool true := hdep 10 (by decide)
            have q17 : a1.eval (.tmp 17) = .pointer (some ⟨w.heap.size, 4, none⟩) := hdep 11 (by decide)
            obtain ⟨c4, c5⟩ := HC.out X hev
            refine Or.inr (Or.inl ⟨_, _, rfl, g0, ?_⟩)
            refine ow_value (v := .int .i64 lo) (w' := X) ?_ ⟨_, rfl, Below.refl _ _, rfl⟩
            clear g0; clear hfix hev hdep; generalize a1.eval = ev at *; unfold execOp; simp only; go_simp
          · intro a1 X hfix hev hdep
            have g0 : a1.eval (.tmp 16) = .bool true := hdep 10 (by decide)
            have q1 : a1.eval (.tmp 1) = _ := (hfix 1 (by decide)).trans F1
            refine Or.inr (Or.inl ⟨_, _, rfl, g0, ?_⟩)
            refine ow_value (v := .pointer (some ⟨w.heap.size, 5, none⟩)) (w' := X) ?_ ⟨_, rfl, Below.refl _ _, rfl⟩
            clear g0; clear hfix hev hdep; generalize a1.eval = ev at *; unfold execOp; simp only; go_simp
          · intro a1 X hfix hev hdep
            have g0 : a1.eval (.tmp 16) = .bool true := hdep 10 (by decide)
            have q19 : a1.eval (.tmp 19) = .pointer (some ⟨w.heap.size, 5, none⟩) := hdep 13 (by decide)
            obtain ⟨c4, c5⟩ := HC.out X hev
            refine Or.inr (Or.inl ⟨_, _, rfl, g0, ?_⟩)
            refine ow_value (v := .int .i64 hi) (w' := X) ?_ ⟨_, rfl, Below.refl _ _, rfl⟩
            clear g0; clear hfix hev hdep; generalize a1.eval = ev at *; unfold execOp; simp only; go_simp
          · intro a1 X hfix hev hdep
            have g0 : a1.eval (.tmp 16) = .bool true := hdep 10 (by decide)
            have q18 : a1.eval (.tmp 18) = .int .i64 lo := hdep 12 (by decide)
            have q20 : a1.eval (.tmp 20) = .int .i64 hi := hdep 14 (by decide)
            refine Or.inr (Or.inl ⟨_, _, rfl, g0, ?_⟩)
            refine ow_value (v := .bool false) (w' := X) ?_ ⟨_, rfl, Below.refl _ _, rfl⟩
            clear g0; clear hfix hev hdep; generalize a1.eval = ev at *; unfold execOp; simp only; go_simp
          · intro a1 X hfix hev hdep
            have q16 : a1.eval (.tmp 16) = .bool true := hdep 10 (by decide)
            have q21 : a1.eval (.tmp 21) = .bool false := hdep 15 (by decide)
            refine Or.inl ⟨rfl, ?_⟩
            refine ow_value (v := .bool false) (w' := X) ?_ ⟨_, rfl, Below.refl _ _, rfl⟩
            have hk0 : a1.eval (.const (.bool false)) = .bool false := rfl; clear hfix hev hdep; generalize a1.eval = ev at *; unfold execOp; simp only; go_simp
          · intro a1 X hfix hev hdep
            have q22 : a1.eval (.tmp 22) = .bool false := hdep 16 (by decide)
            refine Or.inl ⟨rfl, ?_⟩
            refine ow_value (v := .bool false) (w' := X) ?_ ⟨_, rfl, Below.refl _ _, rfl⟩
            clear hfix hev hdep; generalize a1.eval = ev at *; unfold execOp; simp only; go_simp
          · intro a1 X hfix hev hdep
            have g0 : a1.eval (.tmp 23) = .bool false := hdep 17 (by decide)
            exact Or.inr (Or.inr ⟨_, _, rfl, g0, ⟨_, rfl, Below.refl _ _, trivial⟩⟩)
          · intro a1 X hfix hev hdep
            have g0 : a1.eval (.tmp 23) = .bool false := hdep 17 (by decide)
            exact Or.inr (Or.inr ⟨_, _, rfl, g0, ⟨_, rfl, Below.refl _ _, trivial⟩⟩)
          · intro a1 X hfix hev hdep
            have g0 : a1.eval (.tmp 23) = .bool false := hdep 17 (by decide)
            exact Or.inr (Or.inr ⟨_, _, rfl, g0, ⟨_, rfl, Below.refl _ _, trivial⟩⟩)
          · intro a1 X hfix hev hdep
            have g0 : a1.eval (.tmp 23) = .bool false := hdep 17 (by decide)
            exact Or.inr (Or.inr ⟨_, _, rfl, g0, ⟨_, rfl, Below.refl _ _, trivial⟩⟩)
          · intro a1 X hfix hev hdep
            have g0 : a1.eval (.tmp 23) = .bool false := hdep 17 (by decide)
            exact Or.inr (Or.inr ⟨_, _, rfl, g0, ⟨_, rfl, Below.refl _ _, trivial⟩⟩)
          · intro a1 X hfix hev hdep
            have g0 : a1.eval (.tmp 23) = .bool false := hdep 17 (by decide)
            exact Or.inr (Or.inr ⟨_, _, rfl, g0, ⟨_, rfl, Below.refl _ _, trivial⟩⟩)
          · intro a1 X hfix hev hdep
            have g0 : a1.eval (.tmp 23) = .bool false := hdep 17 (by decide)
            exact Or.inr (Or.inr ⟨_, _, rfl, g0, ⟨_, rfl, Below.refl _ _, trivial⟩⟩)
          · intro a1 X hfix hev hdep
            have q23 : a1.eval (.tmp 23) = .bool false := hdep 17 (by decide)
            refine Or.inl ⟨rfl, ?_⟩
            refine ow_value (v := .bool false) (w' := X) ?_ ⟨_, rfl, Below.refl _ _, rfl⟩
            have hk0 : a1.eval (.const (.bool false)) = .bool false := rfl; clear hfix hev hdep; generalize a1.eval = ev at *; unfold execOp; simp only; go_simp
          · intro a1 X hfix hev hdep
            have q31 : a1.eval (.tmp 31) = .bool false := hdep 25 (by decide)
            refine Or.inl ⟨rfl, ?_⟩
            refine ow_value (v := .bool false) (w' := X) ?_ ⟨_, rfl, Below.refl _ _, rfl⟩
            clear hfix hev hdep; generalize a1.eval = ev at *; unfold execOp; simp only; go_simp
    · obtain rfl := hz0
      have HR : Hid (d = false) := by unfold Hid; rw [HREF.out, decide_eq_false h1]; simp
      generalize hW0 : (w.alloc (.cells #[.int .i64 f, .int .u64 r, .string s, .int .i64 l, .int .i64 lo, .int .i64 hi] 52)).alloc (.cells #[.int .i64 f, .int .u64 r, .string s, .int .i64 l] 50) = W0 at *
      let Ev : World → World → Prop := fun x y => Below x.heap.size x y
      have hr0 : Ev W0.drew W0.drew := Below.refl _ _
      have HQ : Hid (∀ X, Ev W0.drew X → X.cell? ⟨w.heap.size + 1, 0, none⟩ = some (.int .i64 f) ∧ X.cell? ⟨w.heap.size + 1, 1, none⟩ = some (.int .u64 r) ∧ X.cell? ⟨w.heap.size + 1, 2, none⟩ = some (.string s) ∧ X.cell? ⟨w.heap.size + 1, 3, none⟩ = some (.int .i64 l)) := fun X hX => ⟨below_cell hX (below_cell hdw HQ0.out.1), below_cell hX (below_cell hdw HQ0.out.2.1), below_cell hX (below_cell hdw HQ0.out.2.2.1), below_cell hX (below_cell hdw HQ0.out.2.2.2)⟩
      have HC : Hid (∀ X, Ev W0.drew X → X.cell? ⟨w.heap.size, 4, none⟩ = some (.int .i64 lo) ∧ X.cell? ⟨w.heap.size, 5, none⟩ = some (.int .i64 hi)) := fun X hX => ⟨below_cell hX (below_cell hdw HC0.out.1), below_cell hX (below_cell hdw HC0.out.2)⟩
      have HTX : Hid (∀ X, Ev W0.drew X → Pr.Tabs X) := fun X hX => (HT.out.below hdw).below hX
      have HK : Hid (∀ X, Ev W0.drew X → Calls Tryz.prog 173 #[.agg #[.int .i64 f, .int .u64 r, .string s, .int .i64 l]] X fun e w' => e = .returned (.int .i64 0) ∧ Below X.heap.size X w') := fun X hX => by
        have := Pr.check_any f r s l X (HTX.out X hX).sizes (HTX.out X hX).rds
        rw [hcc] at this
        exact this
      have HS : Hid (∀ X, Ev W0.drew X → Calls Tryz.prog 117 #[.int .i64 f] X fun e w' => e = .returned (.int .i64 z) ∧ w' = X) := fun X hX => by
        have := Pr.size_any f X (HTX.out X hX).sizes
        rw [hzz] at this
        exact this
      go_enter Tryz.func149, Tryz.ntmps149
      go_wp2_with fail
      refine with_act (fun ax => ax.tmps.size = 32 ∧ ax.defers = [] ∧ ax.eval (.tmp 1) = .pointer (some ⟨w.heap.size, 0, none⟩) ∧ ax.eval (.tmp 3) = .pointer (some ⟨w.heap.size + 1, 0, none⟩)) ⟨rfl, rfl, rfl, rfl⟩ ?_
      rintro a0 ⟨F0s, FD, F1, F3⟩
      refine region_list (by kernel_rfl) Ev [(fun v _ => v = .agg #[.int .i64 f, .int .u64 r, .string s, .int .i64 l]),
            (fun v _ => v = .int .i64 0),
            (fun v _ => v = .bool true),
            (fun v _ => v = .bool true),
            (fun v _ => v = .pointer (some ⟨w.heap.size + 1, 3, none⟩)),
            (fun v _ => v = .int .i64 l),
            (fun v _ => v = .pointer (some ⟨w.heap.size, 4, none⟩)),
            (fun v _ => v = .int .i64 lo),
            (fun v _ => v = .bool false),
            (fun v _ => v = .bool false),
            (fun v _ => v = .bool false),
            (fun _ _ => True),
            (fun _ _ => True),
            (fun _ _ => True),
            (fun _ _ => True),
            (fun _ _ => True),
            (fun v _ => v = .bool false),
            (fun v _ => v = .bool false),
            (fun _ _ => True),
            (fun _ _ => True),
            (fun _ _ => True),
            (fun _ _ => True),
            (fun _ _ => True),
            (fun _ _ => True),
            (fun _ _ => True),
            (fun v _ => v = .bool false),
            (fun v _ => v = .bool false)] [some 6, some 7, some 8, some 9, some 10, some 11, some 12, some 13, some 14, some 15, some 16, some 17, some 18, some 19, some 20, some 21, some 22, some 23, some 24, some 25, some 26, some 27, some 28, some 29, some 30, some 31, some 2] (by kernel_rfl) (fun x y z h k => h.trans (k.mono h.size)) hr0 ?keep (by kernel_rfl) (by rw [F0s]; kernel_rfl) ?steps ?done
      case keep => repeat (first | exact kept_nil | refine kept_cons (kept_eq _) ?_ | refine kept_cons (fun _ _ _ _ _ h => h) ?_)
      case done =>
        intro a1 X hsz hdf hfix hev hE
        have q2 : a1.eval (.tmp 2) = .bool false := hE 26 (by decide)
        go_wp2
        refine bodyPost_ret (v := a1.eval (.tmp 2)) (results_tmp rfl _ _ _) (hdf.trans FD) ?_
        rw [q2]
        exact ⟨ret_bool HR.out.symm, HB.out.trans ((hdw.mono HB.out.size).trans (hev.mono (Nat.le_trans HB.out.size hdw.size)))⟩
      case steps =>
        refine ⟨?_, ?_, ?_, ?_, ?_, ?_, ?_, ?_, ?_, ?_, ?_, ?_, ?_, ?_, ?_, ?_, ?_, ?_, ?_, ?_, ?_, ?_, ?_, ?_, ?_, ?_, ?_, trivial⟩
        · intro a1 X hfix hev hdep
          have q3 : a1.eval (.tmp 3) = _ := (hfix 3 (by decide)).trans F3
          obtain ⟨c0, c1, c2, c3⟩ := HQ.out X hev
          refine Or.inl ⟨rfl, ?_⟩
          refine ow_value (v := .agg #[.int .i64 f, .int .u64 r, .string s, .int .i64 l]) (w' := X) ?_ ⟨_, rfl, Below.refl _ _, rfl⟩
          clear hfix hev hdep; generalize a1.eval = ev at *; unfold execOp; simp only; go_simp
        · intro a1 X hfix hev hdep
          have q6 : a1.eval (.tmp 6) = .agg #[.int .i64 f, .int .u64 r, .string s, .int .i64 l] := hdep 0 (by decide)
          refine Or.inl ⟨rfl, ?_⟩
          refine ow_enter (f := 173) (args := #[.agg #[.int .i64 f, .int .u64 r, .string s, .int .i64 l]]) (w' := X) ?_ ?_
          · have hf0 : a1.eval (.func 173) = .func (.func 173) #[] #[] := rfl; clear hfix hev hdep; generalize a1.eval = ev at *; unfold execOp; simp only; go_simp
          · refine Calls.mono (HK.out X hev) ?_
            rintro e Y ⟨rfl, hb⟩
            exact ⟨_, rfl, _, rfl, hb, rfl⟩
        · intro a1 X hfix hev hdep
          have q7 : a1.eval (.tmp 7) = .int .i64 0 := hdep 1 (by decide)
          refine Or.inl ⟨rfl, ?_⟩
          refine ow_value (v := .bool true) (w' := X) ?_ ⟨_, rfl, Below.refl _ _, rfl⟩
          have hk0 : a1.eval (.const (.int .i64 0)) = .int .i64 0 := rfl; clear hfix hev hdep; generalize a1.eval = ev at *; unfold execOp; simp only; go_simp
        · intro a1 X hfix hev hdep
          have q8 : a1.eval (.tmp 8) = .bool true := hdep 2 (by decide)
          refine Or.inl ⟨rfl, ?_⟩
          refine ow_value (v := .bool true) (w' := X) ?_ ⟨_, rfl, Below.refl _ _, rfl⟩
          clear hfix hev hdep; generalize a1.eval = ev at *; unfold execOp; simp only; go_simp
        · intro a1 X hfix hev hdep
          have g0 : a1.eval (.tmp 9) = .bool true := hdep 3 (by decide)
          have q3 : a1.eval (.tmp 3) = _ := (hfix 3 (by decide)).trans F3
          refine Or.inr (Or.inl ⟨_, _, rfl, g0, ?_⟩)
          refine ow_value (v := .pointer (some ⟨w.heap.size + 1, 3, none⟩)) (w' := X) ?_ ⟨_, rfl, Below.refl _ _, rfl⟩
          clear g0; clear hfix hev hdep; generalize a1.eval = ev at *; unfold execOp; simp only; go_simp
        · intro a1 X hfix hev hdep
          have g0 : a1.eval (.tmp 9) = .bool true := hdep 3 (by decide)
          have q10 : a1.eval (.tmp 10) = .pointer (some ⟨w.heap.size + 1, 3, none⟩) := hdep 4 (by decide)
          obtain ⟨c0, c1, c2, c3⟩ := HQ.out X hev
          refine Or.inr (Or.inl ⟨_, _, rfl, g0, ?_⟩)
          refine ow_value (v := .int .i64 l) (w' := X) ?_ ⟨_, rfl, Below.refl _ _, rfl⟩
          clear g0; clear hfix hev hdep; generalize a1.eval = ev at *; unfold execOp; simp only; go_simp
        · intro a1 X hfix hev hdep
          have g0 : a1.eval (.tmp 9) = .bool true := hdep 3 (by decide)
          have q1 : a1.eval (.tmp 1) = _ := (hfix 1 (by decide)).trans F1
          refine Or.inr (Or.inl ⟨_, _, rfl, g0, ?_⟩)
          refine ow_value (v := .pointer (some ⟨w.heap.size, 4, none⟩)) (w' := X) ?_ ⟨_, rfl, Below.refl _ _, rfl⟩
          clear g0; clear hfix hev hdep; generalize a1.eval = ev at *; unfold execOp; simp only; go_simp
        · intro a1 X hfix hev hdep
          have g0 : a1.eval (.tmp 9) = .bool true := hdep 3 (by decide)
          have q12 : a1.eval (.tmp 12) = .pointer (some ⟨w.heap.size, 4, none⟩) := hdep 6 (by decide)
          obtain ⟨c4, c5⟩ := HC.out X hev
          refine Or.inr (Or.inl ⟨_, _, rfl, g0, ?_⟩)
          refine ow_value (v := .int .i64 lo) (w' := X) ?_ ⟨_, rfl, Below.refl _ _, rfl⟩
          clear g0; clear hfix hev hdep; generalize a1.eval = ev at *; unfold execOp; simp only; go_simp
        · intro a1 X hfix hev hdep
          have g0 : a1.eval (.tmp 9) = .bool true := hdep 3 (by decide)
          have q11 : a1.eval (.tmp 11) = .int .i64 l := hdep 5 (by decide)
          have q13 : a1.eval (.tmp 13) = .int .i64 lo := hdep 7 (by decide)
          refine Or.inr (Or.inl ⟨_, _, rfl, g0, ?_⟩)
          refine ow_value (v := .bool false) (w' := X) ?_ ⟨_, rfl, Below.refl _ _, rfl⟩
          clear g0; clear hfix hev hdep; generalize a1.eval = ev at *; unfold execOp; simp only; go_simp
        · intro a1 X hfix hev hdep
          have q9 : a1.eval (.tmp 9) = .bool true := hdep 3 (by decide)
          have q14 : a1.eval (.tmp 14) = .bool false := hdep 8 (by decide)
          refine Or.inl ⟨rfl, ?_⟩
          refine ow_value (v := .bool false) (w' := X) ?_ ⟨_, rfl, Below.refl _ _, rfl⟩
          have hk0 : a1.eval (.const (.bool false)) = .bool false := rfl; clear hfix hev hdep; generalize a1.eval = ev at *; unfold execOp; simp only; go_simp
        · intro a1 X hfix hev hdep
          have q15 : a1.eval (.tmp 15) = .bool false := hdep 9 (by decide)
          refine Or.inl ⟨rfl, ?_⟩
          refine ow_value (v := .bool false) (w' := X) ?_ ⟨_, rfl, Below.refl _ _, rfl⟩
          clear hfix hev hdep; generalize a1.eval = ev at *; unfold execOp; simp only; go_simp
        · intro a1 X hfix hev hdep
          have g0 : a1.eval (.tmp 16) = .bool false := hdep 10 (by decide)
          exact Or.inr (Or.inr ⟨_, _, rfl, g0, ⟨_, rfl, Below.refl _ _, trivial⟩⟩)
        · intro a1 X hfix hev hdep
          have g0 : a1.eval (.tmp 16) = .bool false := hdep 10 (by decide)
          exact Or.inr (Or.inr ⟨_, _, rfl, g0, ⟨_, rfl, Below.refl _ _, trivial⟩⟩)
        · intro a1 X hfix hev hdep
          have g0 : a1.eval (.tmp 16) = .bool false := hdep 10 (by decide)
          exact Or.inr (Or.inr ⟨_, _, rfl, g0, ⟨_, rfl, Below.refl _ _, trivial⟩⟩)
        · intro a1 X hfix hev hdep
          have g0 : a1.eval (.tmp 16) = .bool false := hdep 10 (by decide)
          exact Or.inr (Or.inr ⟨_, _, rfl, g0, ⟨_, rfl, Below.refl _ _, trivial⟩⟩)
        · intro a1 X hfix hev hdep
          have g0 : a1.eval (.tmp 16) = .bool false := hdep 10 (by decide)
          exact Or.inr (Or.inr ⟨_, _, rfl, g0, ⟨_, rfl, Below.refl _ _, trivial⟩⟩)
        · intro a1 X hfix hev hdep
          have q16 : a1.eval (.tmp 16) = .bool false := hdep 10 (by decide)
          refine Or.inl ⟨rfl, ?_⟩
          refine ow_value (v := .bool false) (w' := X) ?_ ⟨_, rfl, Below.refl _ _, rfl⟩
          have hk0 : a1.eval (.const (.bool false)) = .bool false := rfl; clear hfix hev hdep; generalize a1.eval = ev at *; unfold execOp; simp only; go_simp
        · intro a1 X hfix hev hdep
          have q22 : a1.eval (.tmp 22) = .bool false := hdep 16 (by decide)
          refine Or.inl ⟨rfl, ?_⟩
          refine ow_value (v := .bool false) (w' := X) ?_ ⟨_, rfl, Below.refl _ _, rfl⟩
          clear hfix hev hdep; generalize a1.eval = ev at *; unfold execOp; simp only; go_simp
        · intro a1 X hfix hev hdep
          have g0 : a1.eval (.tmp 23) = .bool false := hdep 17 (by decide)
          exact Or.inr (Or.inr ⟨_, _, rfl, g0, ⟨_, rfl, Below.refl _ _, trivial⟩⟩)
        · intro a1 X hfix hev hdep
          have g0 : a1.eval (.tmp 23) = .bool false := hdep 17 (by decide)
          exact Or.inr (Or.inr ⟨_, _, rfl, g0, ⟨_, rfl, Below.refl _ _, trivial⟩⟩)
        · intro a1 X hfix hev hdep
          have g0 : a1.eval (.tmp 23) = .bool false := hdep 17 (by decide)
          exact Or.inr (Or.inr ⟨_, _, rfl, g0, ⟨_, rfl, Below.refl _ _, trivial⟩⟩)
        · intro a1 X hfix hev hdep
          have g0 : a1.eval (.tmp 23) = .bool false := hdep 17 (by decide)
          exact Or.inr (Or.inr ⟨_, _, rfl, g0, ⟨_, rfl, Below.refl _ _, trivial⟩⟩)
        · intro a1 X hfix hev hdep
          have g0 : a1.eval (.tmp 23) = .bool false := hdep 17 (by decide)
          exact Or.inr (Or.inr ⟨_, _, rfl, g0, ⟨_, rfl, Below.refl _ _, trivial⟩⟩)
        · intro a1 X hfix hev hdep
          have g0 : a1.eval (.tmp 23) = .bool false := hdep 17 (by decide)
          exact Or.inr (Or.inr ⟨_, _, rfl, g0, ⟨_, rfl, Below.refl _ _, trivial⟩⟩)
        · intro a1 X hfix hev hdep
          have g0 : a1.eval (.tmp 23) = .bool false := hdep 17 (by decide)
          exact Or.inr (Or.inr ⟨_, _, rfl, g0, ⟨_, rfl, Below.refl _ _, trivial⟩⟩)
        · intro a1 X hfix hev hdep
          have q23 : a1.eval (.tmp 23) = .bool false := hdep 17 (by decide)
          refine Or.inl ⟨rfl, ?_⟩
          refine ow_value (v := .bool false) (w' := X) ?_ ⟨_, rfl, Below.refl _ _, rfl⟩
          have hk0 : a1.eval (.const (.bool false)) = .bool false := rfl; clear hfix hev hdep; generalize a1.eval = ev at *; unfold execOp; simp only; go_simp
        · intro a1 X hfix hev hdep
          have q31 : a1.eval (.tmp 31) = .bool false := hdep 25 (by decide)
          refine Or.inl ⟨rfl, ?_⟩
          refine ow_value (v := .bool false) (w' := X) ?_ ⟨_, rfl, Below.refl _ _, rfl⟩
          clear hfix hev hdep; generalize a1.eval = ev at *; unfold execOp; simp only; go_simp
  · have HR : Hid (d = false) := by unfold Hid; rw [HREF.out, decide_eq_false hz0]; simp
    have hq0 : (c == 0) = false := by simpa using hz0
    generalize hW0 : (w.alloc (.cells #[.int .i64 f, .int .u64 r, .string s, .int .i64 l, .int .i64 lo, .int .i64 hi] 52)).alloc (.cells #[.int .i64 f, .int .u64 r, .string s, .int .i64 l] 50) = W0 at *
    let Ev : World → World → Prop := fun x y => Below x.heap.size x y
    have hr0 : Ev W0.drew W0.drew := Below.refl _ _
    have HQ : Hid (∀ X, Ev W0.drew X → X.cell? ⟨w.heap.size + 1, 0, none⟩ = some (.int .i64 f) ∧ X.cell? ⟨w.heap.size + 1, 1, none⟩ = some (.int .u64 r) ∧ X.cell? ⟨w.heap.size + 1, 2, none⟩ = some (.string s) ∧ X.cell? ⟨w.heap.size + 1, 3, none⟩ = some (.int .i64 l)) := fun X hX => ⟨below_cell hX (below_cell hdw HQ0.out.1), below_cell hX (below_cell hdw HQ0.out.2.1), below_cell hX (below_cell hdw HQ0.out.2.2.1), below_cell hX (below_cell hdw HQ0.out.2.2.2)⟩
    have HC : Hid (∀ X, Ev W0.drew X → X.cell? ⟨w.heap.size, 4, none⟩ = some (.int .i64 lo) ∧ X.cell? ⟨w.heap.size, 5, none⟩ = some (.int .i64 hi)) := fun X hX => ⟨below_cell hX (below_cell hdw HC0.out.1), below_cell hX (below_cell hdw HC0.out.2)⟩
    have HTX : Hid (∀ X, Ev W0.drew X → Pr.Tabs X) := fun X hX => (HT.out.below hdw).below hX
    have HK : Hid (∀ X, Ev W0.drew X → Calls Tryz.prog 173 #[.agg #[.int .i64 f, .int .u64 r, .string s, .int .i64 l]] X fun e w' => e = .returned (.int .i64 c) ∧ Below X.heap.size X w') := fun X hX => by
      have := Pr.check_any f r s l X (HTX.out X hX).sizes (HTX.out X hX).rds
      rw [hcc] at this
      exact this
    have HS : Hid (∀ X, Ev W0.drew X → Calls Tryz.prog 117 #[.int .i64 f] X fun e w' => e = .returned (.int .i64 z) ∧ w' = X) := fun X hX => by
      have := Pr.size_any f X (HTX.out X hX).sizes
      rw [hzz] at this
      exact this
    go_enter Tryz.func149, Tryz.ntmps149
    go_wp2_with fail
    refine with_act (fun ax => ax.tmps.size = 32 ∧ ax.defers = [] ∧ ax.eval (.tmp 1) = .pointer (some ⟨w.heap.size, 0, none⟩) ∧ ax.eval (.tmp 3) = .pointer (some ⟨w.heap.size + 1, 0, none⟩)) ⟨rfl, rfl, rfl, rfl⟩ ?_
    rintro a0 ⟨F0s, FD, F1, F3⟩
    refine region_list (by kernel_rfl) Ev [(fun v _ => v = .agg #[.int .i64 f, .int .u64 r, .string s, .int .i64 l]),
          (fun v _ => v = .int .i64 c),
          (fun v _ => v = .bool false),
          (fun v _ => v = .bool false),
          (fun _ _ => True),
          (fun _ _ => True),
          (fun _ _ => True),
          (fun _ _ => True),
          (fun _ _ => True),
          (fun v _ => v = .bool false),
          (fun v _ => v = .bool false),
          (fun _ _ => True),
          (fun _ _ => True),
          (fun _ _ => True),
          (fun _ _ => True),
          (fun _ _ => True),
          (fun v _ => v = .bool false),
          (fun v _ => v = .bool false),
          (fun _ _ => True),
          (fun _ _ => True),
          (fun _ _ => True),
          (fun _ _ => True),
          (fun _ _ => True),
          (fun _ _ => True),
          (fun _ _ => True),
          (fun v _ => v = .bool false),
          (fun v _ => v = .bool false)] [some 6, some 7, some 8, some 9, some 10, some 11, some 12, some 13, some 14, some 15, some 16, some 17, some 18, some 19, some 20, some 21, some 22, some 23, some 24, some 25, some 26, some 27, some 28, some 29, some 30, some 31, some 2] (by kernel_rfl) (fun x y z h k => h.trans (k.mono h.size)) hr0 ?keep (by kernel_rfl) (by rw [F0s]; kernel_rfl) ?steps ?done
    case keep => repeat (first | exact kept_nil | refine kept_cons (kept_eq _) ?_ | refine kept_cons (fun _ _ _ _ _ h => h) ?_)
    case done =>
      intro a1 X hsz hdf hfix hev hE
      have q2 : a1.eval (.tmp 2) = .bool false := hE 26 (by decide)
      go_wp2
      refine bodyPost_ret (v := a1.eval (.tmp 2)) (results_tmp rfl _ _ _) (hdf.trans FD) ?_
      rw [q2]
      exact ⟨ret_bool HR.out.symm, HB.out.trans ((hdw.mono HB.out.size).trans (hev.mono (Nat.le_trans HB.out.size hdw.size)))⟩
    case steps =>
      refine ⟨?_, ?_, ?_, ?_, ?_, ?_, ?_, ?_, ?_, ?_, ?_, ?_, ?_, ?_, ?_, ?_, ?_, ?_, ?_, ?_, ?_, ?_, ?_, ?_, ?_, ?_, ?_, trivial⟩
      · intro a1 X hfix hev hdep
        have q3 : a1.eval (.tmp 3) = _ := (hfix 3 (by decide)).trans F3
        obtain ⟨c0, c1, c2, c3⟩ := HQ.out X hev
        refine Or.inl ⟨rfl, ?_⟩
        refine ow_value (v := .agg #[.int .i64 f, .int .u64 r, .string s, .int .i64 l]) (w' := X) ?_ ⟨_, rfl, Below.refl _ _, rfl⟩
        clear hfix hev hdep; generalize a1.eval = ev at *; unfold execOp; simp only; go_simp
      · intro a1 X hfix hev hdep
        have q6 : a1.eval (.tmp 6) = .agg #[.int .i64 f, .int .u64 r, .string s, .int .i64 l] := hdep 0 (by decide)
        refine Or.inl ⟨rfl, ?_⟩
        refine ow_enter (f := 173) (args := #[.agg #[.int .i64 f, .int .u64 r, .string s, .int .i64 l]]) (w' := X) ?_ ?_
        · have hf0 : a1.eval (.func 173) = .func (.func 173) #[] #[] := rfl; clear hfix hev hdep; generalize a1.eval = ev at *; unfold execOp; simp only; go_simp
        · refine Calls.mono (HK.out X hev) ?_
          rintro e Y ⟨rfl, hb⟩
          exact ⟨_, rfl, _, rfl, hb, rfl⟩
      · intro a1 X hfix hev hdep
        have q7 : a1.eval (.tmp 7) = .int .i64 c := hdep 1 (by decide)
        refine Or.inl ⟨rfl, ?_⟩
        refine ow_value (v := .bool false) (w' := X) ?_ ⟨_, rfl, Below.refl _ _, rfl⟩
        have hk0 : a1.eval (.const (.int .i64 0)) = .int .i64 0 := rfl; clear hfix hev hdep; generalize a1.eval = ev at *; unfold execOp; simp only; go_simp
      · intro a1 X hfix hev hdep
        have q8 : a1.eval (.tmp 8) = .bool false := hdep 2 (by decide)
        refine Or.inl ⟨rfl, ?_⟩
        refine ow_value (v := .bool false) (w' := X) ?_ ⟨_, rfl, Below.refl _ _, rfl⟩
        clear hfix hev hdep; generalize a1.eval = ev at *; unfold execOp; simp only; go_simp
      · intro a1 X hfix hev hdep
        have g0 : a1.eval (.tmp 9) = .bool false := hdep 3 (by decide)
        exact Or.inr (Or.inr ⟨_, _, rfl, g0, ⟨_, rfl, Below.refl _ _, trivial⟩⟩)
      · intro a1 X hfix hev hdep
        have g0 : a1.eval (.tmp 9) = .bool false := hdep 3 (by decide)
        exact Or.inr (Or.inr ⟨_, _, rfl, g0, ⟨_, rfl, Below.refl _ _, trivial⟩⟩)
      · intro a1 X hfix hev hdep
        have g0 : a1.eval (.tmp 9) = .bool false := hdep 3 (by decide)
        exact Or.inr (Or.inr ⟨_, _, rfl, g0, ⟨_, rfl, Below.refl _ _, trivial⟩⟩)
      · intro a1 X hfix hev hdep
        have g0 : a1.eval (.tmp 9) = .bool false := hdep 3 (by decide)
        exact Or.inr (Or.inr ⟨_, _, rfl, g0, ⟨_, rfl, Below.refl _ _, trivial⟩⟩)
      · intro a1 X hfix hev hdep
        have g0 : a1.eval (.tmp 9) = .bool false := hdep 3 (by decide)
        exact Or.inr (Or.inr ⟨_, _, rfl, g0, ⟨_, rfl, Below.refl _ _, trivial⟩⟩)
      · intro a1 X hfix hev hdep
        have q9 : a1.eval (.tmp 9) = .bool false := hdep 3 (by decide)
        refine Or.inl ⟨rfl, ?_⟩
        refine ow_value (v := .bool false) (w' := X) ?_ ⟨_, rfl, Below.refl _ _, rfl⟩
        have hk0 : a1.eval (.const (.bool false)) = .bool false := rfl; clear hfix hev hdep; generalize a1.eval = ev at *; unfold execOp; simp only; go_simp
      · intro a1 X hfix hev hdep
        have q15 : a1.eval (.tmp 15) = .bool false := hdep 9 (by decide)
        refine Or.inl ⟨rfl, ?_⟩
        refine ow_value (v := .bool false) (w' := X) ?_ ⟨_, rfl, Below.refl _ _, rfl⟩
        clear hfix hev hdep; generalize a1.eval = ev at *; unfold execOp; simp only; go_simp
      · intro a1 X hfix hev hdep
        have g0 : a1.eval (.tmp 16) = .bool false := hdep 10 (by decide)
        exact Or.inr (Or.inr ⟨_, _, rfl, g0, ⟨_, rfl, Below.refl _ _, trivial⟩⟩)
      · intro a1 X hfix hev hdep
        have g0 : a1.eval (.tmp 16) = .bool false := hdep 10 (by decide)
        exact Or.inr (Or.inr ⟨_, _, rfl, g0, ⟨_, rfl, Below.refl _ _, trivial⟩⟩)
      · intro a1 X hfix hev hdep
        have g0 : a1.eval (.tmp 16) = .bool false := hdep 10 (by decide)
        exact Or.inr (Or.inr ⟨_, _, rfl, g0, ⟨_, rfl, Below.refl _ _, trivial⟩⟩)
      · intro a1 X hfix hev hdep
        have g0 : a1.eval (.tmp 16) = .bool false := hdep 10 (by decide)
        exact Or.inr (Or.inr ⟨_, _, rfl, g0, ⟨_, rfl, Below.refl _ _, trivial⟩⟩)
      · intro a1 X hfix hev hdep
        have g0 : a1.eval (.tmp 16) = .bool false := hdep 10 (by decide)
        exact Or.inr (Or.inr ⟨_, _, rfl, g0, ⟨_, rfl, Below.refl _ _, trivial⟩⟩)
      · intro a1 X hfix hev hdep
        have q16 : a1.eval (.tmp 16) = .bool false := hdep 10 (by decide)
        refine Or.inl ⟨rfl, ?_⟩
        refine ow_value (v := .bool false) (w' := X) ?_ ⟨_, rfl, Below.refl _ _, rfl⟩
        have hk0 : a1.eval (.const (.bool false)) = .bool false := rfl; clear hfix hev hdep; generalize a1.eval = ev at *; unfold execOp; simp only; go_simp
      · intro a1 X hfix hev hdep
        have q22 : a1.eval (.tmp 22) = .bool false := hdep 16 (by decide)
        refine Or.inl ⟨rfl, ?_⟩
        refine ow_value (v := .bool false) (w' := X) ?_ ⟨_, rfl, Below.refl _ _, rfl⟩
        clear hfix hev hdep; generalize a1.eval = ev at *; unfold execOp; simp only; go_simp
      · intro a1 X hfix hev hdep
        have g0 : a1.eval (.tmp 23) = .bool false := hdep 17 (by decide)
        exact Or.inr (Or.inr ⟨_, _, rfl, g0, ⟨_, rfl, Below.refl _ _, trivial⟩⟩)
      · intro a1 X hfix hev hdep
        have g0 : a1.eval (.tmp 23) = .bool false := hdep 17 (by decide)
        exact Or.inr (Or.inr ⟨_, _, rfl, g0, ⟨_, rfl, Below.refl _ _, trivial⟩⟩)
      · intro a1 X hfix hev hdep
        have g0 : a1.eval (.tmp 23) = .bool false := hdep 17 (by decide)
        exact Or.inr (Or.inr ⟨_, _, rfl, g0, ⟨_, rfl, Below.refl _ _, trivial⟩⟩)
      · intro a1 X hfix hev hdep
        have g0 : a1.eval (.tmp 23) = .bool false := hdep 17 (by decide)
        exact Or.inr (Or.inr ⟨_, _, rfl, g0, ⟨_, rfl, Below.refl _ _, trivial⟩⟩)
      · intro a1 X hfix hev hdep
        have g0 : a1.eval (.tmp 23) = .bool false := hdep 17 (by decide)
        exact Or.inr (Or.inr ⟨_, _, rfl, g0, ⟨_, rfl, Below.refl _ _, trivial⟩⟩)
      · intro a1 X hfix hev hdep
        have g0 : a1.eval (.tmp 23) = .bool false := hdep 17 (by decide)
        exact Or.inr (Or.inr ⟨_, _, rfl, g0, ⟨_, rfl, Below.refl _ _, trivial⟩⟩)
      · intro a1 X hfix hev hdep
        have g0 : a1.eval (.tmp 23) = .bool false := hdep 17 (by decide)
        exact Or.inr (Or.inr ⟨_, _, rfl, g0, ⟨_, rfl, Below.refl _ _, trivial⟩⟩)
      · intro a1 X hfix hev hdep
        have q23 : a1.eval (.tmp 23) = .bool false := hdep 17 (by decide)
        refine Or.inl ⟨rfl, ?_⟩
        refine ow_value (v := .bool false) (w' := X) ?_ ⟨_, rfl, Below.refl _ _, rfl⟩
        have hk0 : a1.eval (.const (.bool false)) = .bool false := rfl; clear hfix hev hdep; generalize a1.eval = ev at *; unfold execOp; simp only; go_simp
      · intro a1 X hfix hev hdep
        have q31 : a1.eval (.tmp 31) = .bool false := hdep 25 (by decide)
        refine Or.inl ⟨rfl, ?_⟩
        refine ow_value (v := .bool false) (w' := X) ?_ ⟨_, rfl, Below.refl _ _, rfl⟩
        clear hfix hev hdep; generalize a1.eval = ev at *; unfold execOp; simp only; go_simp
end Go.Proofs.YthaebbmekonacaaGreatDoor

set_option linter.unusedVariables false
set_option linter.unusedSimpArgs false
set_option maxRecDepth 100000
namespace Go.Proofs.YthaebbmekonacaaGreatDoor
open Go.RowKit
/-- A slice of items. -/
def ItsAt (w : World) (v : Value) (L : List Itm) : Prop :=
  ∃ (ad : Option Addr) (b off cap : Nat), v = .slice ad L.length cap ∧ (ad = some ⟨b, off, none⟩ ∨ L.length = 0) ∧ L.length ≤ cap ∧ ∀ j (h : j < L.length), w.cell? ⟨b, off + j * 6, none⟩ = some (.int .i64 L[j].f) ∧ w.cell? ⟨b, off + j * 6 + 1, none⟩ = some (.int .u64 L[j].r) ∧ w.cell? ⟨b, off + j * 6 + 2, none⟩ = some (.string L[j].s) ∧ w.cell? ⟨b, off + j * 6 + 3, none⟩ = some (.int .i64 L[j].l) ∧ w.cell? ⟨b, off + j * 6 + 4, none⟩ = some (.int .i64 L[j].lo) ∧ w.cell? ⟨b, off + j * 6 + 5, none⟩ = some (.int .i64 L[j].hi)
/-- A slice of patterns. -/
def PsAt (w : World) (v : Value) (L : List (List Atm)) : Prop :=
  ∃ (ad : Option Addr) (b off cap : Nat), v = .slice ad L.length cap ∧ (ad = some ⟨b, off, none⟩ ∨ L.length = 0) ∧ L.length ≤ cap ∧ ∀ j (h : j < L.length), ∃ y, w.cell? ⟨b, off + j, none⟩ = some y ∧ AtAt w y L[j]
theorem ItsAt.len {w : World} {v : Value} {L : List Itm} (h : ItsAt w v L) : ∃ ad cap, v = .slice ad L.length cap := by
  obtain ⟨ad, b, off, cap, h1, _⟩ := h
  exact ⟨ad, cap, h1⟩
theorem PsAt.len {w : World} {v : Value} {L : List (List Atm)} (h : PsAt w v L) : ∃ ad cap, v = .slice ad L.length cap := by
  obtain ⟨ad, b, off, cap, h1, _⟩ := h
  exact ⟨ad, cap, h1⟩
theorem ItsAt.below {w w' : World} {v : Value} {L : List Itm} (h : ItsAt w v L) (hb : Below w.heap.size w w') : ItsAt w' v L := by
  obtain ⟨ad, b, off, cap, h1, h2, h3, h4⟩ := h
  exact ⟨ad, b, off, cap, h1, h2, h3, fun j hj => ⟨below_cell hb (h4 j hj).1, below_cell hb (h4 j hj).2.1, below_cell hb (h4 j hj).2.2.1, below_cell hb (h4 j hj).2.2.2.1, below_cell hb (h4 j hj).2.2.2.2.1, below_cell hb (h4 j hj).2.2.2.2.2⟩⟩
theorem PsAt.below {w w' : World} {v : Value} {L : List (List Atm)} (h : PsAt w v L) (hb : Below w.heap.size w w') : PsAt w' v L := by
  obtain ⟨ad, b, off, cap, h1, h2, h3, h4⟩ := h
  refine ⟨ad, b, off, cap, h1, h2, h3, fun j hj => ?_⟩
  obtain ⟨y, k1, k2⟩ := h4 j hj
  exact ⟨y, below_cell hb k1, k2.below hb⟩
set_option maxHeartbeats 1600000 in
theorem indexItem (v : Value) (L : List Itm) (g1 : Value) (q : Itm → Bool) (w : World) (hv : ItsAt w v L) (hlen : L.length ≤ 1000000)
    (HC : ∀ k (h : k < L.length) (y : Value) (X : World), Below w.heap.size w X → y = itV L[k] → Calls Tryz.prog 172 #[y, g1] X fun e w' => e = .returned (.bool (q L[k])) ∧ Below X.heap.size X w') :
    Calls Tryz.prog 193 #[v, .func (.func 172) #[] #[g1]] w fun e w' => (∃ n : Int, e = .returned (.int .i64 n) ∧ decide (0 ≤ n) = L.any q) ∧ Below w.heap.size w w' := by
  obtain ⟨ad, bb, off, cap, rfl, had, hcap, hrow⟩ := hv
  have HR : Hid (_ : Prop) := hrow
  have HCC : Hid (_ : Prop) := HC
  clear hrow HC
  go_enter Tryz.func193, Tryz.ntmps193
  go_wp2
  go_loopw [8] (fun i wr => ∃ (k : Nat), k ≤ L.length ∧ i = .int .i64 k ∧ Below w.heap.size w wr ∧ L.any q = (L.drop k).any q) (fun i _ => L.length - (intOf i).toNat)
  case atStart => exact ⟨0, Nat.zero_le _, rfl, Below.refl _ _, rfl⟩
  case round =>
    obtain ⟨k, hk, rfl, hb, hany⟩ := hrel
    have HB : Hid (Below w.heap.size w wr) := hb
    have HRI : Hid (_ = _) := hany
    clear hb hany
    by_cases hlt : k < L.length
    · obtain rfl : ad = some ⟨bb, off, none⟩ := by
        rcases had with h | h
        · exact h
        · omega
      have c0 := below_cell HB.out (HR.out k hlt).1
      have c1 := below_cell HB.out (HR.out k hlt).2.1
      have c2 := below_cell HB.out (HR.out k hlt).2.2.1
      have c3 := below_cell HB.out (HR.out k hlt).2.2.2.1
      have c4 := below_cell HB.out (HR.out k hlt).2.2.2.2.1
      have c5 := below_cell HB.out (HR.out k hlt).2.2.2.2.2
      have HD : Hid ((L.drop k).any q = (q L[k] || (L.drop (k + 1)).any q)) := by
        unfold Hid
        rw [List.drop_eq_getElem_cons hlt, List.any_cons]
      rw [HD.out] at HRI
      clear HD
      have HK : Hid (Calls Tryz.prog 172 #[.agg #[.int .i64 L[k].f, .int .u64 L[k].r, .string L[k].s, .int .i64 L[k].l, .int .i64 L[k].lo, .int .i64 L[k].hi], g1] wr _) := HCC.out k hlt _ wr HB.out rfl
      generalize q L[k] = z at *
      generalize L[k].f = xf at *
      generalize L[k].r = xr at *
      generalize L[k].s = xs at *
      generalize L[k].l = xl at *
      generalize L[k].lo = xlo at *
      generalize L[k].hi = xhi at *
      cases z with
      | true =>
        go_wp2_with (go_at_call 172; refine Calls.mono HK.out ?_; rintro e w2 ⟨rfl, hb2⟩)
        go_ret
        exact ⟨⟨_, rfl, by rw [HRI.out]; simp⟩, HB.out.trans (hb2.mono HB.out.size)⟩
      | false =>
        go_wp2_with (go_at_call 172; refine Calls.mono HK.out ?_; rintro e w2 ⟨rfl, hb2⟩)
        go_roundw
        case rel => exact ⟨k + 1, by omega, by go_num, HB.out.trans (hb2.mono HB.out.size), by rw [HRI.out]; rfl⟩
        case measure => simp [intOf]; omega
    · obtain rfl : k = L.length := by omega
      rw [List.drop_eq_nil_of_le (by simp)] at HRI
      go_wp2
      go_ret
      exact ⟨⟨_, rfl, by rw [HRI.out]; rfl⟩, HB.out⟩
theorem containsItem (v : Value) (L : List Itm) (g1 : Value) (q : Itm → Bool) (w : World) (hv : ItsAt w v L) (hlen : L.length ≤ 1000000)
    (HC : ∀ k (h : k < L.length) (y : Value) (X : World), Below w.heap.size w X → y = itV L[k] → Calls Tryz.prog 172 #[y, g1] X fun e w' => e = .returned (.bool (q L[k])) ∧ Below X.heap.size X w') :
    Calls Tryz.prog 171 #[v, .func (.func 172) #[] #[g1]] w fun e w' => e = .returned (.bool (L.any q)) ∧ Below w.heap.size w w' := by
  have HK : Hid (_ : Prop) := indexItem v L g1 q w hv hlen HC
  clear hv HC
  go_enter Tryz.func171, Tryz.ntmps171
  go_wp2_with (go_at_call 193; refine Calls.mono HK.out ?_; rintro e w2 ⟨⟨n, rfl, hn⟩, hb2⟩)
  go_ret
  first | exact ⟨rfl, hb2⟩ | exact ⟨ret_bool hn, hb2⟩
set_option maxHeartbeats 1000000 in
theorem notItem (y : Value) (z : Bool) (b : Nat) (w : World) (hy : ∃ x, y = itV x) (hc : w.cell? ⟨b, 0, none⟩ = some (.func (.func 149) #[] #[]))
    (HM : ∀ X, Below w.heap.size w X → Calls Tryz.prog 149 #[y] X fun e w' => e = .returned (.bool z) ∧ Below X.heap.size X w') :
    Calls Tryz.prog 172 #[y, .pointer (some ⟨b, 0, none⟩)] w fun e w' => e = .returned (.bool (!z)) ∧ Below w.heap.size w w' := by
  obtain ⟨x, rfl⟩ := hy
  obtain ⟨f, r, s, l, lo, hi⟩ := x
  have HB : Hid (Below _ _ _) := below_box w (.cells #[.int .i64 f, .int .u64 r, .string s, .int .i64 l, .int .i64 lo, .int .i64 hi] 52)
  have c1 := below_cell HB.out hc
  have HK : Hid (_ : Prop) := HM _ HB.out
  unfold itV at HK ⊢
  dsimp only at HK ⊢
  clear HM hc
  go_enter Tryz.func172, Tryz.ntmps172
  go_wp2_with (go_at_call 149; refine Calls.mono HK.out ?_; rintro e w2 ⟨rfl, hb2⟩)
  go_ret
  exact ⟨rfl, HB.out.trans (hb2.mono HB.out.size)⟩
/-- all, by its closure. -/
theorem allItem (v : Value) (L : List Itm) (q : Itm → Bool) (w : World) (hv : ItsAt w v L) (hlen : L.length ≤ 1000000)
    (HM : ∀ k (h : k < L.length) (y : Value) (X : World), Below w.heap.size w X → y = itV L[k] → Calls Tryz.prog 149 #[y] X fun e w' => e = .returned (.bool (q L[k])) ∧ Below X.heap.size X w') :
    Calls Tryz.prog 148 #[v, .func (.func 149) #[] #[]] w fun e w' => e = .returned (.bool (L.all q)) ∧ Below w.heap.size w w' := by
  have HB : Hid (Below _ _ _) := below_box w (.cells #[.func (.func 149) #[] #[]] 205)
  have c0 := new_cell w (.func (.func 149) #[] #[]) 205
  have HK : Hid (Calls Tryz.prog 171 #[v, .func (.func 172) #[] #[.pointer (some ⟨w.heap.size, 0, none⟩)]] (w.alloc (.cells #[.func (.func 149) #[] #[]] 205)) fun e w' => e = .returned (.bool (L.any fun x => !q x)) ∧ Below (w.alloc (.cells #[.func (.func 149) #[] #[]] 205)).heap.size (w.alloc (.cells #[.func (.func 149) #[] #[]] 205)) w') :=
    containsItem v L _ (fun x => !q x) _ (hv.below HB.out) hlen fun k h y X hX hy => notItem y (q L[k]) _ X (by exact ⟨_, hy⟩) (below_cell hX c0) fun Y hY => HM k h y Y (HB.out.trans ((hX.mono HB.out.size).trans (hY.mono (Nat.le_trans HB.out.size hX.size)))) hy
  have hneg : (!(L.any fun x => !q x)) = L.all q := by rw [List.not_any_eq_all_not]; simp
  clear hv HM c0
  generalize (L.any fun x => !q x) = z at *
  go_enter Tryz.func148, Tryz.ntmps148
  go_wp2_with (go_at_call 171; refine Calls.mono HK.out ?_; rintro e w2 ⟨rfl, hb2⟩)
  go_ret
  first | exact ⟨rfl, HB.out.trans (hb2.mono HB.out.size)⟩ | exact ⟨ret_bool hneg, HB.out.trans (hb2.mono HB.out.size)⟩
set_option maxHeartbeats 1600000 in
theorem indexPath (v : Value) (L : List (List Atm)) (g1 : Value) (q : (List Atm) → Bool) (w : World) (hv : PsAt w v L) (hlen : L.length ≤ 1000000)
    (HC : ∀ k (h : k < L.length) (y : Value) (X : World), Below w.heap.size w X → AtAt X y L[k] → Calls Tryz.prog 175 #[y, g1] X fun e w' => e = .returned (.bool (q L[k])) ∧ Below X.heap.size X w') :
    Calls Tryz.prog 195 #[v, .func (.func 175) #[] #[g1]] w fun e w' => (∃ n : Int, e = .returned (.int .i64 n) ∧ decide (0 ≤ n) = L.any q) ∧ Below w.heap.size w w' := by
  obtain ⟨ad, bb, off, cap, rfl, had, hcap, hrow⟩ := hv
  have HR : Hid (_ : Prop) := hrow
  have HCC : Hid (_ : Prop) := HC
  clear hrow HC
  go_enter Tryz.func195, Tryz.ntmps195
  go_wp2
  go_loopw [8] (fun i wr => ∃ (k : Nat), k ≤ L.length ∧ i = .int .i64 k ∧ Below w.heap.size w wr ∧ L.any q = (L.drop k).any q) (fun i _ => L.length - (intOf i).toNat)
  case atStart => exact ⟨0, Nat.zero_le _, rfl, Below.refl _ _, rfl⟩
  case round =>
    obtain ⟨k, hk, rfl, hb, hany⟩ := hrel
    have HB : Hid (Below w.heap.size w wr) := hb
    have HRI : Hid (_ = _) := hany
    clear hb hany
    by_cases hlt : k < L.length
    · obtain rfl : ad = some ⟨bb, off, none⟩ := by
        rcases had with h | h
        · exact h
        · omega
      obtain ⟨y, c0', hy⟩ := HR.out k hlt
      have c0 := below_cell HB.out c0'
      clear c0'
      have HD : Hid ((L.drop k).any q = (q L[k] || (L.drop (k + 1)).any q)) := by
        unfold Hid
        rw [List.drop_eq_getElem_cons hlt, List.any_cons]
      rw [HD.out] at HRI
      clear HD
      have HK : Hid (Calls Tryz.prog 175 #[y, g1] wr _) := HCC.out k hlt _ wr HB.out (hy.below HB.out)
      generalize q L[k] = z at *
      obtain ⟨yad, ycap, rfl⟩ := hy.len
      clear hy
      generalize L[k].length = yn at *
      cases z with
      | true =>
        go_wp2_with (go_at_call 175; refine Calls.mono HK.out ?_; rintro e w2 ⟨rfl, hb2⟩)
        go_ret
        exact ⟨⟨_, rfl, by rw [HRI.out]; simp⟩, HB.out.trans (hb2.mono HB.out.size)⟩
      | false =>
        go_wp2_with (go_at_call 175; refine Calls.mono HK.out ?_; rintro e w2 ⟨rfl, hb2⟩)
        go_roundw
        case rel => exact ⟨k + 1, by omega, by go_num, HB.out.trans (hb2.mono HB.out.size), by rw [HRI.out]; rfl⟩
        case measure => simp [intOf]; omega
    · obtain rfl : k = L.length := by omega
      rw [List.drop_eq_nil_of_le (by simp)] at HRI
      go_wp2
      go_ret
      exact ⟨⟨_, rfl, by rw [HRI.out]; rfl⟩, HB.out⟩
theorem containsPath (v : Value) (L : List (List Atm)) (g1 : Value) (q : (List Atm) → Bool) (w : World) (hv : PsAt w v L) (hlen : L.length ≤ 1000000)
    (HC : ∀ k (h : k < L.length) (y : Value) (X : World), Below w.heap.size w X → AtAt X y L[k] → Calls Tryz.prog 175 #[y, g1] X fun e w' => e = .returned (.bool (q L[k])) ∧ Below X.heap.size X w') :
    Calls Tryz.prog 174 #[v, .func (.func 175) #[] #[g1]] w fun e w' => e = .returned (.bool (L.any q)) ∧ Below w.heap.size w w' := by
  have HK : Hid (_ : Prop) := indexPath v L g1 q w hv hlen HC
  clear hv HC
  go_enter Tryz.func174, Tryz.ntmps174
  go_wp2_with (go_at_call 195; refine Calls.mono HK.out ?_; rintro e w2 ⟨⟨n, rfl, hn⟩, hb2⟩)
  go_ret
  first | exact ⟨rfl, hb2⟩ | exact ⟨ret_bool hn, hb2⟩
set_option maxHeartbeats 1000000 in
theorem notPath (y : Value) (z : Bool) (b : Nat) (w : World) (hy : ∃ ad n cap, y = .slice ad n cap) (hc : w.cell? ⟨b, 0, none⟩ = some (.func (.func 152) #[] #[]))
    (HM : ∀ X, Below w.heap.size w X → Calls Tryz.prog 152 #[y] X fun e w' => e = .returned (.bool z) ∧ Below X.heap.size X w') :
    Calls Tryz.prog 175 #[y, .pointer (some ⟨b, 0, none⟩)] w fun e w' => e = .returned (.bool (!z)) ∧ Below w.heap.size w w' := by
  obtain ⟨ad, n, cap, rfl⟩ := hy
  have HK : Hid (∀ X, Below w.heap.size w X → _) := HM
  have HC : Hid (_ = _) := hc
  clear HM hc
  have c1 := HC.out
  go_enter Tryz.func175, Tryz.ntmps175
  go_wp2_with (go_at_call 152; refine Calls.mono (HK.out _ (Below.refl _ _)) ?_; rintro e w2 ⟨rfl, hb2⟩)
  go_ret
  exact ⟨rfl, hb2⟩
/-- all, by its closure. -/
theorem allPath (v : Value) (L : List (List Atm)) (q : (List Atm) → Bool) (w : World) (hv : PsAt w v L) (hlen : L.length ≤ 1000000)
    (HM : ∀ k (h : k < L.length) (y : Value) (X : World), Below w.heap.size w X → AtAt X y L[k] → Calls Tryz.prog 152 #[y] X fun e w' => e = .returned (.bool (q L[k])) ∧ Below X.heap.size X w') :
    Calls Tryz.prog 151 #[v, .func (.func 152) #[] #[]] w fun e w' => e = .returned (.bool (L.all q)) ∧ Below w.heap.size w w' := by
  have HB : Hid (Below _ _ _) := below_box w (.cells #[.func (.func 152) #[] #[]] 178)
  have c0 := new_cell w (.func (.func 152) #[] #[]) 178
  have HK : Hid (Calls Tryz.prog 174 #[v, .func (.func 175) #[] #[.pointer (some ⟨w.heap.size, 0, none⟩)]] (w.alloc (.cells #[.func (.func 152) #[] #[]] 178)) fun e w' => e = .returned (.bool (L.any fun x => !q x)) ∧ Below (w.alloc (.cells #[.func (.func 152) #[] #[]] 178)).heap.size (w.alloc (.cells #[.func (.func 152) #[] #[]] 178)) w') :=
    containsPath v L _ (fun x => !q x) _ (hv.below HB.out) hlen fun k h y X hX hy => notPath y (q L[k]) _ X (by obtain ⟨ad, cap, e⟩ := hy.len; exact ⟨ad, _, cap, e⟩) (below_cell hX c0) fun Y hY => HM k h y Y (HB.out.trans ((hX.mono HB.out.size).trans (hY.mono (Nat.le_trans HB.out.size hX.size)))) (hy.below hY)
  have hneg : (!(L.any fun x => !q x)) = L.all q := by rw [List.not_any_eq_all_not]; simp
  clear hv HM c0
  generalize (L.any fun x => !q x) = z at *
  go_enter Tryz.func151, Tryz.ntmps151
  go_wp2_with (go_at_call 174; refine Calls.mono HK.out ?_; rintro e w2 ⟨rfl, hb2⟩)
  go_ret
  first | exact ⟨rfl, HB.out.trans (hb2.mono HB.out.size)⟩ | exact ⟨ret_bool hneg, HB.out.trans (hb2.mono HB.out.size)⟩
end Go.Proofs.YthaebbmekonacaaGreatDoor

set_option linter.unusedVariables false
set_option linter.unusedSimpArgs false
set_option maxRecDepth 100000
namespace Go.Proofs.YthaebbmekonacaaGreatDoor
open Go.RowKit
theorem below_drewN {B : Nat} {a w : World} (h : Below B a w) (n : Nat) : Below B a (w.drewN n) := ⟨h.os, h.tape, h.output, h.size, h.block⟩
/-- A set. -/
structure Sty where
  nm : ByteArray
  kind : Int
  items : List Itm
  comms : List Nat
  paths : List (List Atm)
def setV (S : Sty) (vi vc vp : Value) : Value := .agg #[.string S.nm, .int .i64 S.kind, vi, vc, vp]
/-- Its lists, in memory. -/
structure SetAt (w : World) (S : Sty) (vi vc vp : Value) : Prop where
  i : ItsAt w vi S.items
  c : ASAt w vc S.comms
  p : PsAt w vp S.paths
theorem SetAt.below {w w' : World} {S : Sty} {vi vc vp : Value} (h : SetAt w S vi vc vp) (hb : Below w.heap.size w w') : SetAt w' S vi vc vp := ⟨h.i.below hb, h.c.below hb, h.p.below hb⟩
/-- What is small enough. -/
structure Small (S : Sty) : Prop where
  n : S.nm.size ≤ maxLen
  i : S.items.length ≤ 1000000
  c : S.comms.length ≤ 1000000
  p : S.paths.length ≤ 1000000
  q : ∀ p ∈ S.paths, p.length ≤ 1000000
  l : ∀ x ∈ S.items, -9223372036854775808 ≤ x.l ∧ x.l ≤ 9223372036854775807
/-- Each above the one ahead. -/
def risB : List Nat → Bool
  | [] => true
  | [_] => true
  | a :: b :: l => decide (a < b) && risB (b :: l)
theorem risB_at (L : List Nat) (i : Nat) (h : i + 1 < L.length) : risB (L.drop i) = (decide (L[i] < L[i + 1]) && risB (L.drop (i + 1))) := by
  rw [List.drop_eq_getElem_cons (show i < L.length by omega), List.drop_eq_getElem_cons h]
  rfl
theorem risB_end (L : List Nat) (i : Nat) (h : L.length ≤ i + 1) : risB (L.drop i) = true := by
  have : (L.drop i).length ≤ 1 := by rw [List.length_drop]; omega
  generalize L.drop i = M at *
  cases M with
  | nil => rfl
  | cons a M =>
    cases M with
    | nil => rfl
    | cons b M => simp at this
def holdB (S : Sty) : Bool :=
  if S.kind = 1 then decide (S.comms.length = 0) && decide (S.paths.length = 0) && decide (S.items.length ≤ 64) && S.items.all okI
  else if S.kind = 2 then decide (S.items.length = 0) && decide (S.paths.length = 0) && decide (S.comms.length ≤ 64) && risB S.comms
  else if S.kind = 3 then decide (S.items.length = 0) && decide (S.comms.length = 0) && decide (S.paths.length ≤ 64) && S.paths.all okP
  else false
def okS (S : Sty) : Bool := nameB S.nm && holdB S
set_option maxHeartbeats 1600000 in
theorem rising_any (v : Value) (L : List Nat) (w : World) (hv : ASAt w v L) (hlen : L.length ≤ 1000000) :
    Calls Tryz.prog 150 #[v] w fun e w' => e = .returned (.bool (risB L)) ∧ Below w.heap.size w w' := by
  obtain ⟨ad, bb, off, cap, rfl, had, hcap, hrow⟩ := hv
  have HR : Hid (_ : Prop) := hrow
  clear hrow
  go_enter Tryz.func150, Tryz.ntmps150
  go_wp2
  go_loopw [3] (fun i wr => ∃ (k : Nat), k ≤ L.length ∧ i = .int .i64 ((k + 1 : Nat) : Int) ∧ Below w.heap.size w wr ∧ risB L = risB (L.drop k)) (fun i _ => L.length + 1 - (intOf i).toNat)
  case atStart => exact ⟨0, Nat.zero_le _, rfl, Below.refl _ _, rfl⟩
  case round =>
    obtain ⟨k, hk, rfl, hb, hany⟩ := hrel
    have HB : Hid (Below w.heap.size w wr) := hb
    have HRI : Hid (_ = _) := hany
    clear hb hany
    by_cases hlt : k + 1 < L.length
    · obtain rfl : ad = some ⟨bb, off, none⟩ := by
        rcases had with h | h
        · exact h
        · omega
      have hw1 : IntKind.i64.wrap (((k + 1 : Nat) : Int) - 1) = (k : Int) := by rw [IntKind.wrap_i64]; omega
      have c0 := below_cell HB.out (HR.out k (by omega))
      have c1 := below_cell HB.out (HR.out (k + 1) hlt)
      rw [risB_at L k hlt] at HRI
      by_cases hle : L[k + 1] ≤ L[k]
      · have hd : decide (L[k] < L[k + 1]) = false := by simpa using hle
        have hle' : (L[k + 1] : Int) ≤ (L[k] : Int) := by omega
        rw [hd, Bool.false_and] at HRI
        clear hd hle
        generalize L[k + 1] = y at *
        generalize L[k] = x at *
        go_wp2
        go_quiet (fail)
        go_wp2
        go_ret
        exact ⟨ret_bool HRI.out.symm, below_drewN HB.out _⟩
      · have hd : decide (L[k] < L[k + 1]) = true := by simpa using hle
        have hle' : ¬ (L[k + 1] : Int) ≤ (L[k] : Int) := by omega
        rw [hd, Bool.true_and] at HRI
        clear hd hle
        generalize L[k + 1] = y at *
        generalize L[k] = x at *
        go_wp2
        go_quiet (fail)
        go_wp2
        go_roundw
        case rel => exact ⟨k + 1, by omega, by go_num, below_drewN HB.out _, HRI.out⟩
        case measure => simp [intOf]; omega
    · rw [risB_end L k (by omega)] at HRI
      go_wp2
      go_ret
      exact ⟨ret_bool HRI.out.symm, HB.out⟩
end Go.Proofs.YthaebbmekonacaaGreatDoor
