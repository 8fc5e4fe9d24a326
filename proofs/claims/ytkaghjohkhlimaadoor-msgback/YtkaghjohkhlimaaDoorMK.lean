/-
  The reference's Size; works.
-/
import Derived.Test.YtkaghjohkhlimaaDoorMD
import Derived.Test.YtkaghjohkhlimaaDoorMJ
namespace Go.Proofs.YtkaghjohkhlimaaDoor
open Go.RowKit
set_option maxHeartbeats 800000 in
theorem rsz_n (k b : Int) (hk : isK k = false) (w : World) : Calls Tryd.prog 12 #[.int .i64 k, .int .i64 b] w fun e w' => e = .returned (vdV (szW k b)) ∧ Below w.heap.size w w' := by
  have HS : Hid (szW k b = 3) := by unfold Hid szW; rw [if_pos hk]
  rw [HS.out]
  have HK : Hid (_ : Prop) := rleast_any k (w.alloc (.cells #[.int .i64 0, .int .u8 0, .int .u8 0] 25))
  rw [hk] at HK
  generalize hL : lN k = L at *
  clear hk hL HS
  go_enter Tryd.func12, Tryd.ntmps12
  go_wp2_with fail
  refine Calls.mono HK.out ?_
  rintro e w1 ⟨rfl, hw1⟩
  obtain rfl := hw1
  go_wp2
  refine bodyPost_ret (v := vdV 3) (results_cell_row (P := Tryd.prog) rfl _ _ w.heap.size 25 (vdC 3) (0, 0) _ rfl (hp_new rfl) Tryd.underlying25 rfl size25) rfl ⟨rfl, (Below.refl _ _).alloc (Nat.le_refl _) _⟩
set_option maxHeartbeats 800000 in
theorem rsz_a4 (k b : Int) (hk : isK k = true) (h1 : b < lN k) (h4 : k = 4) (w : World) : Calls Tryd.prog 12 #[.int .i64 k, .int .i64 b] w fun e w' => e = .returned (vdV (szW k b)) ∧ Below w.heap.size w w' := by
  have HS : Hid (szW k b = 2) := by unfold Hid szW; rw [if_neg (by rw [hk]; decide), if_pos (by exact Or.inl h1)]
  rw [HS.out]
  have HK : Hid (_ : Prop) := rleast_any k (w.alloc (.cells #[.int .i64 0, .int .u8 0, .int .u8 0] 25))
  rw [hk] at HK
  generalize hL : lN k = L at *
  clear hk hL HS
  subst h4
  go_enter Tryd.func12, Tryd.ntmps12
  go_wp2_with fail
  refine Calls.mono HK.out ?_
  rintro e w1 ⟨rfl, hw1⟩
  obtain rfl := hw1
  go_wp2
  refine bodyPost_ret (v := vdV 2) (results_cell_row (P := Tryd.prog) rfl _ _ w.heap.size 25 (vdC 2) (0, 0) _ rfl (hp_new rfl) Tryd.underlying25 rfl size25) rfl ⟨rfl, (Below.refl _ _).alloc (Nat.le_refl _) _⟩
set_option maxHeartbeats 800000 in
theorem rsz_b4 (k b : Int) (hk : isK k = true) (h1 : ¬ b < lN k) (h2 : 4077 < b) (h4 : k = 4) (w : World) : Calls Tryd.prog 12 #[.int .i64 k, .int .i64 b] w fun e w' => e = .returned (vdV (szW k b)) ∧ Below w.heap.size w w' := by
  have HS : Hid (szW k b = 2) := by unfold Hid szW; rw [if_neg (by rw [hk]; decide), if_pos (by exact Or.inr (Or.inl h2))]
  rw [HS.out]
  have HK : Hid (_ : Prop) := rleast_any k (w.alloc (.cells #[.int .i64 0, .int .u8 0, .int .u8 0] 25))
  rw [hk] at HK
  have g1 : decide (b < lN k) = false := decide_eq_false h1
  clear h1
  generalize hL : lN k = L at *
  clear hk hL HS
  subst h4
  go_enter Tryd.func12, Tryd.ntmps12
  go_wp2_with fail
  refine Calls.mono HK.out ?_
  rintro e w1 ⟨rfl, hw1⟩
  obtain rfl := hw1
  go_wp2
  refine bodyPost_ret (v := vdV 2) (results_cell_row (P := Tryd.prog) rfl _ _ w.heap.size 25 (vdC 2) (0, 0) _ rfl (hp_new rfl) Tryd.underlying25 rfl size25) rfl ⟨rfl, (Below.refl _ _).alloc (Nat.le_refl _) _⟩
set_option maxHeartbeats 800000 in
theorem rsz_c4 (k b : Int) (hk : isK k = true) (h1 : ¬ b < lN k) (h2 : ¬ 4077 < b) (h4 : k = 4) (h3 : b ≠ lN k) (w : World) : Calls Tryd.prog 12 #[.int .i64 k, .int .i64 b] w fun e w' => e = .returned (vdV (szW k b)) ∧ Below w.heap.size w w' := by
  have HS : Hid (szW k b = 2) := by unfold Hid szW; rw [if_neg (by rw [hk]; decide), if_pos (by exact Or.inr (Or.inr ⟨by rw [h4]; rfl, h3⟩))]
  rw [HS.out]
  have HK : Hid (_ : Prop) := rleast_any k (w.alloc (.cells #[.int .i64 0, .int .u8 0, .int .u8 0] 25))
  rw [hk] at HK
  have g1 : decide (b < lN k) = false := decide_eq_false h1
  have g2 : decide (4077 < b) = false := decide_eq_false h2
  have g3 : (b != lN k) = true := by simp [h3]
  clear h1 h2 h3
  generalize hL : lN k = L at *
  clear hk hL HS
  subst h4
  go_enter Tryd.func12, Tryd.ntmps12
  go_wp2_with fail
  refine Calls.mono HK.out ?_
  rintro e w1 ⟨rfl, hw1⟩
  obtain rfl := hw1
  go_wp2
  refine bodyPost_ret (v := vdV 2) (results_cell_row (P := Tryd.prog) rfl _ _ w.heap.size 25 (vdC 2) (0, 0) _ rfl (hp_new rfl) Tryd.underlying25 rfl size25) rfl ⟨rfl, (Below.refl _ _).alloc (Nat.le_refl _) _⟩
set_option maxHeartbeats 800000 in
theorem rsz_d4 (k b : Int) (hk : isK k = true) (h1 : ¬ b < lN k) (h2 : ¬ 4077 < b) (h4 : k = 4) (h3 : b = lN k) (w : World) : Calls Tryd.prog 12 #[.int .i64 k, .int .i64 b] w fun e w' => e = .returned (vdV (szW k b)) ∧ Below w.heap.size w w' := by
  have HS : Hid (szW k b = 0) := by unfold Hid szW; rw [if_neg (by rw [hk]; decide), if_neg (by exact fun h => h.elim h1 (fun h => h.elim h2 (fun h => h.2 h3)))]
  rw [HS.out]
  have HK : Hid (_ : Prop) := rleast_any k (w.alloc (.cells #[.int .i64 0, .int .u8 0, .int .u8 0] 25))
  rw [hk] at HK
  have g1 : decide (b < lN k) = false := decide_eq_false h1
  have g2 : decide (4077 < b) = false := decide_eq_false h2
  have g3 : (b != lN k) = false := by simp [h3]
  clear h1 h2 h3
  generalize hL : lN k = L at *
  clear hk hL HS
  subst h4
  go_enter Tryd.func12, Tryd.ntmps12
  go_wp2_with fail
  refine Calls.mono HK.out ?_
  rintro e w1 ⟨rfl, hw1⟩
  obtain rfl := hw1
  go_wp2
  refine bodyPost_ret (v := vdV 0) (results_cell_row (P := Tryd.prog) rfl _ _ w.heap.size 25 (vdC 0) (0, 0) _ rfl (hp_new rfl) Tryd.underlying25 rfl size25) rfl ⟨rfl, (Below.refl _ _).alloc (Nat.le_refl _) _⟩
set_option maxHeartbeats 800000 in
theorem rsz_a5 (k b : Int) (hk : isK k = true) (h1 : b < lN k) (h5 : k = 5) (w : World) : Calls Tryd.prog 12 #[.int .i64 k, .int .i64 b] w fun e w' => e = .returned (vdV (szW k b)) ∧ Below w.heap.size w w' := by
  have HS : Hid (szW k b = 2) := by unfold Hid szW; rw [if_neg (by rw [hk]; decide), if_pos (by exact Or.inl h1)]
  rw [HS.out]
  have HK : Hid (_ : Prop) := rleast_any k (w.alloc (.cells #[.int .i64 0, .int .u8 0, .int .u8 0] 25))
  rw [hk] at HK
  generalize hL : lN k = L at *
  clear hk hL HS
  subst h5
  go_enter Tryd.func12, Tryd.ntmps12
  go_wp2_with fail
  refine Calls.mono HK.out ?_
  rintro e w1 ⟨rfl, hw1⟩
  obtain rfl := hw1
  go_wp2
  refine bodyPost_ret (v := vdV 2) (results_cell_row (P := Tryd.prog) rfl _ _ w.heap.size 25 (vdC 2) (0, 0) _ rfl (hp_new rfl) Tryd.underlying25 rfl size25) rfl ⟨rfl, (Below.refl _ _).alloc (Nat.le_refl _) _⟩
set_option maxHeartbeats 800000 in
theorem rsz_b5 (k b : Int) (hk : isK k = true) (h1 : ¬ b < lN k) (h2 : 4077 < b) (h5 : k = 5) (w : World) : Calls Tryd.prog 12 #[.int .i64 k, .int .i64 b] w fun e w' => e = .returned (vdV (szW k b)) ∧ Below w.heap.size w w' := by
  have HS : Hid (szW k b = 2) := by unfold Hid szW; rw [if_neg (by rw [hk]; decide), if_pos (by exact Or.inr (Or.inl h2))]
  rw [HS.out]
  have HK : Hid (_ : Prop) := rleast_any k (w.alloc (.cells #[.int .i64 0, .int .u8 0, .int .u8 0] 25))
  rw [hk] at HK
  have g1 : decide (b < lN k) = false := decide_eq_false h1
  clear h1
  generalize hL : lN k = L at *
  clear hk hL HS
  subst h5
  go_enter Tryd.func12, Tryd.ntmps12
  go_wp2_with fail
  refine Calls.mono HK.out ?_
  rintro e w1 ⟨rfl, hw1⟩
  obtain rfl := hw1
  go_wp2
  refine bodyPost_ret (v := vdV 2) (results_cell_row (P := Tryd.prog) rfl _ _ w.heap.size 25 (vdC 2) (0, 0) _ rfl (hp_new rfl) Tryd.underlying25 rfl size25) rfl ⟨rfl, (Below.refl _ _).alloc (Nat.le_refl _) _⟩
set_option maxHeartbeats 800000 in
theorem rsz_c5 (k b : Int) (hk : isK k = true) (h1 : ¬ b < lN k) (h2 : ¬ 4077 < b) (h5 : k = 5) (h3 : b ≠ lN k) (w : World) : Calls Tryd.prog 12 #[.int .i64 k, .int .i64 b] w fun e w' => e = .returned (vdV (szW k b)) ∧ Below w.heap.size w w' := by
  have HS : Hid (szW k b = 2) := by unfold Hid szW; rw [if_neg (by rw [hk]; decide), if_pos (by exact Or.inr (Or.inr ⟨by rw [h5]; rfl, h3⟩))]
  rw [HS.out]
  have HK : Hid (_ : Prop) := rleast_any k (w.alloc (.cells #[.int .i64 0, .int .u8 0, .int .u8 0] 25))
  rw [hk] at HK
  have g1 : decide (b < lN k) = false := decide_eq_false h1
  have g2 : decide (4077 < b) = false := decide_eq_false h2
  have g3 : (b != lN k) = true := by simp [h3]
  clear h1 h2 h3
  generalize hL : lN k = L at *
  clear hk hL HS
  subst h5
  go_enter Tryd.func12, Tryd.ntmps12
  go_wp2_with fail
  refine Calls.mono HK.out ?_
  rintro e w1 ⟨rfl, hw1⟩
  obtain rfl := hw1
  go_wp2
  refine bodyPost_ret (v := vdV 2) (results_cell_row (P := Tryd.prog) rfl _ _ w.heap.size 25 (vdC 2) (0, 0) _ rfl (hp_new rfl) Tryd.underlying25 rfl size25) rfl ⟨rfl, (Below.refl _ _).alloc (Nat.le_refl _) _⟩
set_option maxHeartbeats 800000 in
theorem rsz_d5 (k b : Int) (hk : isK k = true) (h1 : ¬ b < lN k) (h2 : ¬ 4077 < b) (h5 : k = 5) (h3 : b = lN k) (w : World) : Calls Tryd.prog 12 #[.int .i64 k, .int .i64 b] w fun e w' => e = .returned (vdV (szW k b)) ∧ Below w.heap.size w w' := by
  have HS : Hid (szW k b = 0) := by unfold Hid szW; rw [if_neg (by rw [hk]; decide), if_neg (by exact fun h => h.elim h1 (fun h => h.elim h2 (fun h => h.2 h3)))]
  rw [HS.out]
  have HK : Hid (_ : Prop) := rleast_any k (w.alloc (.cells #[.int .i64 0, .int .u8 0, .int .u8 0] 25))
  rw [hk] at HK
  have g1 : decide (b < lN k) = false := decide_eq_false h1
  have g2 : decide (4077 < b) = false := decide_eq_false h2
  have g3 : (b != lN k) = false := by simp [h3]
  clear h1 h2 h3
  generalize hL : lN k = L at *
  clear hk hL HS
  subst h5
  go_enter Tryd.func12, Tryd.ntmps12
  go_wp2_with fail
  refine Calls.mono HK.out ?_
  rintro e w1 ⟨rfl, hw1⟩
  obtain rfl := hw1
  go_wp2
  refine bodyPost_ret (v := vdV 0) (results_cell_row (P := Tryd.prog) rfl _ _ w.heap.size 25 (vdC 0) (0, 0) _ rfl (hp_new rfl) Tryd.underlying25 rfl size25) rfl ⟨rfl, (Below.refl _ _).alloc (Nat.le_refl _) _⟩
set_option maxHeartbeats 800000 in
theorem rsz_an (k b : Int) (hk : isK k = true) (h1 : b < lN k) (h4 : k ≠ 4) (h5 : k ≠ 5) (w : World) : Calls Tryd.prog 12 #[.int .i64 k, .int .i64 b] w fun e w' => e = .returned (vdV (szW k b)) ∧ Below w.heap.size w w' := by
  have HS : Hid (szW k b = 2) := by unfold Hid szW; rw [if_neg (by rw [hk]; decide), if_pos (by exact Or.inl h1)]
  rw [HS.out]
  have HK : Hid (_ : Prop) := rleast_any k (w.alloc (.cells #[.int .i64 0, .int .u8 0, .int .u8 0] 25))
  rw [hk] at HK
  generalize hL : lN k = L at *
  clear hk hL HS
  have e4 : (k == 4) = false := beq_eq_false_iff_ne.2 h4
  have e5 : (k == 5) = false := beq_eq_false_iff_ne.2 h5
  clear h4 h5
  go_enter Tryd.func12, Tryd.ntmps12
  go_wp2_with fail
  refine Calls.mono HK.out ?_
  rintro e w1 ⟨rfl, hw1⟩
  obtain rfl := hw1
  go_wp2
  refine bodyPost_ret (v := vdV 2) (results_cell_row (P := Tryd.prog) rfl _ _ w.heap.size 25 (vdC 2) (0, 0) _ rfl (hp_new rfl) Tryd.underlying25 rfl size25) rfl ⟨rfl, (Below.refl _ _).alloc (Nat.le_refl _) _⟩
set_option maxHeartbeats 800000 in
theorem rsz_bn (k b : Int) (hk : isK k = true) (h1 : ¬ b < lN k) (h2 : 4077 < b) (h4 : k ≠ 4) (h5 : k ≠ 5) (w : World) : Calls Tryd.prog 12 #[.int .i64 k, .int .i64 b] w fun e w' => e = .returned (vdV (szW k b)) ∧ Below w.heap.size w w' := by
  have HS : Hid (szW k b = 2) := by unfold Hid szW; rw [if_neg (by rw [hk]; decide), if_pos (by exact Or.inr (Or.inl h2))]
  rw [HS.out]
  have HK : Hid (_ : Prop) := rleast_any k (w.alloc (.cells #[.int .i64 0, .int .u8 0, .int .u8 0] 25))
  rw [hk] at HK
  have g1 : decide (b < lN k) = false := decide_eq_false h1
  clear h1
  generalize hL : lN k = L at *
  clear hk hL HS
  have e4 : (k == 4) = false := beq_eq_false_iff_ne.2 h4
  have e5 : (k == 5) = false := beq_eq_false_iff_ne.2 h5
  clear h4 h5
  go_enter Tryd.func12, Tryd.ntmps12
  go_wp2_with fail
  refine Calls.mono HK.out ?_
  rintro e w1 ⟨rfl, hw1⟩
  obtain rfl := hw1
  go_wp2
  refine bodyPost_ret (v := vdV 2) (results_cell_row (P := Tryd.prog) rfl _ _ w.heap.size 25 (vdC 2) (0, 0) _ rfl (hp_new rfl) Tryd.underlying25 rfl size25) rfl ⟨rfl, (Below.refl _ _).alloc (Nat.le_refl _) _⟩
set_option maxHeartbeats 800000 in
theorem rsz_cn (k b : Int) (hk : isK k = true) (h1 : ¬ b < lN k) (h2 : ¬ 4077 < b) (h4 : k ≠ 4) (h5 : k ≠ 5) (w : World) : Calls Tryd.prog 12 #[.int .i64 k, .int .i64 b] w fun e w' => e = .returned (vdV (szW k b)) ∧ Below w.heap.size w w' := by
  have HS : Hid (szW k b = 0) := by unfold Hid szW; rw [if_neg (by rw [hk]; decide), if_neg (by exact fun h => h.elim h1 (fun h => h.elim h2 (fun h => absurd h.1 (by unfold fxK; simp [h4, h5]))))]
  rw [HS.out]
  have HK : Hid (_ : Prop) := rleast_any k (w.alloc (.cells #[.int .i64 0, .int .u8 0, .int .u8 0] 25))
  rw [hk] at HK
  have g1 : decide (b < lN k) = false := decide_eq_false h1
  have g2 : decide (4077 < b) = false := decide_eq_false h2
  clear h1 h2
  generalize hL : lN k = L at *
  clear hk hL HS
  have e4 : (k == 4) = false := beq_eq_false_iff_ne.2 h4
  have e5 : (k == 5) = false := beq_eq_false_iff_ne.2 h5
  clear h4 h5
  go_enter Tryd.func12, Tryd.ntmps12
  go_wp2_with fail
  refine Calls.mono HK.out ?_
  rintro e w1 ⟨rfl, hw1⟩
  obtain rfl := hw1
  go_wp2
  refine bodyPost_ret (v := vdV 0) (results_cell_row (P := Tryd.prog) rfl _ _ w.heap.size 25 (vdC 0) (0, 0) _ rfl (hp_new rfl) Tryd.underlying25 rfl size25) rfl ⟨rfl, (Below.refl _ _).alloc (Nat.le_refl _) _⟩
theorem rsize_any (k b : Int) (w : World) : Calls Tryd.prog 12 #[.int .i64 k, .int .i64 b] w fun e w' => e = .returned (vdV (szW k b)) ∧ Below w.heap.size w w' := by
  cases hk : isK k with
  | false => exact rsz_n k b hk w
  | true =>
    by_cases h1 : b < lN k
    · by_cases h4 : k = 4
      · exact rsz_a4 k b hk h1 h4 w
      · by_cases h5 : k = 5
        · exact rsz_a5 k b hk h1 h5 w
        · exact rsz_an k b hk h1 h4 h5 w
    · by_cases h2 : 4077 < b
      · by_cases h4 : k = 4
        · exact rsz_b4 k b hk h1 h2 h4 w
        · by_cases h5 : k = 5
          · exact rsz_b5 k b hk h1 h2 h5 w
          · exact rsz_bn k b hk h1 h2 h4 h5 w
      · by_cases h4 : k = 4
        · by_cases h3 : b = lN k
          · exact rsz_d4 k b hk h1 h2 h4 h3 w
          · exact rsz_c4 k b hk h1 h2 h4 h3 w
        · by_cases h5 : k = 5
          · by_cases h3 : b = lN k
            · exact rsz_d5 k b hk h1 h2 h5 h3 w
            · exact rsz_c5 k b hk h1 h2 h5 h3 w
          · exact rsz_cn k b hk h1 h2 h4 h5 w
end Go.Proofs.YtkaghjohkhlimaaDoor
