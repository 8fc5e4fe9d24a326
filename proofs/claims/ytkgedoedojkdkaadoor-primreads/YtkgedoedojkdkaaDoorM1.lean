/-
  The order of prefixes is an order: plain facts.
-/
import Derived.Test.YtkgedoedojkdkaaDoorB9
namespace Go.Proofs.YtkgedoedojkdkaaDoor

theorem ord_neg (a b : Int) : ord b a = - ord a b := by unfold ord; repeat' split
                                                        all_goals omega
theorem ord_zero {a b : Int} : ord a b = 0 ↔ a = b := by
  unfold ord
  constructor
  · intro h; split at h
    · omega
    · split at h <;> omega
  · rintro rfl; simp
theorem ord_bd (a b : Int) : -1 ≤ ord a b ∧ ord a b ≤ 1 := by
  unfold ord; split
  · omega
  · split <;> omega
theorem ord_le {a b : Int} : ord a b ≤ 0 ↔ a ≤ b := by
  unfold ord
  constructor
  · intro h; split at h
    · omega
    · split at h <;> omega
  · intro h; split
    · omega
    · split <;> omega

theorem less_irrefl : ∀ l : List UInt8, Op.bytesLess l l = false
  | [] => rfl
  | a :: l => by simp [Op.bytesLess, less_irrefl l]
theorem less_asymm : ∀ l m : List UInt8, Op.bytesLess l m = true → Op.bytesLess m l = false
  | [], [], _ => rfl
  | [], _ :: _, _ => rfl
  | _ :: _, [], h => by simp [Op.bytesLess] at h
  | a :: l, b :: m, h => by
    simp only [Op.bytesLess, Bool.or_eq_true, Bool.and_eq_true, decide_eq_true_eq, beq_iff_eq] at h
    simp only [Op.bytesLess, Bool.or_eq_false_iff, Bool.and_eq_false_iff, decide_eq_false_iff_not, beq_eq_false_iff_ne]
    rcases h with h | ⟨rfl, h⟩
    · exact ⟨by rw [UInt8.lt_iff_toNat_lt] at *; omega, Or.inl (by intro e; subst e; rw [UInt8.lt_iff_toNat_lt] at h; omega)⟩
    · exact ⟨by rw [UInt8.lt_iff_toNat_lt]; omega, Or.inr (less_asymm l m h)⟩
theorem less_total : ∀ l m : List UInt8, Op.bytesLess l m = false → Op.bytesLess m l = false → l = m
  | [], [], _, _ => rfl
  | [], _ :: _, h, _ => by simp [Op.bytesLess] at h
  | _ :: _, [], _, h => by simp [Op.bytesLess] at h
  | a :: l, b :: m, h, k => by
    simp only [Op.bytesLess, Bool.or_eq_false_iff, Bool.and_eq_false_iff, decide_eq_false_iff_not, beq_eq_false_iff_ne] at h k
    rw [UInt8.lt_iff_toNat_lt] at h k
    have e : a = b := UInt8.toNat_inj.1 (by omega)
    subst e
    have h2 : Op.bytesLess l m = false := by rcases h.2 with h | h; exact absurd rfl h; exact h
    have k2 : Op.bytesLess m l = false := by rcases k.2 with k | k; exact absurd rfl k; exact k
    rw [less_total l m h2 k2]
theorem less_trans : ∀ l m n : List UInt8, Op.bytesLess l m = true → Op.bytesLess m n = true → Op.bytesLess l n = true
  | _, _, [], _, h => by simp [Op.bytesLess] at h
  | _, [], _ :: _, h, _ => by simp [Op.bytesLess] at h
  | [], _ :: _, _ :: _, _, _ => rfl
  | a :: l, b :: m, c :: n, h, k => by
    simp only [Op.bytesLess, Bool.or_eq_true, Bool.and_eq_true, decide_eq_true_eq, beq_iff_eq] at *
    rw [UInt8.lt_iff_toNat_lt] at *
    rcases h with h | ⟨rfl, h⟩
    · rcases k with k | ⟨rfl, k⟩
      · left; omega
      · left; exact h
    · rcases k with k | ⟨rfl, k⟩
      · left; exact k
      · right; exact ⟨rfl, less_trans l m n h k⟩
theorem ordS_neg (a b : List UInt8) : ordS b a = - ordS a b := by
  unfold ordS
  cases h1 : Op.bytesLess a b
  · cases h2 : Op.bytesLess b a
    · have := less_total a b h1 h2
      subst this
      simp
    · have : a ≠ b := by intro e; subst e; rw [less_irrefl] at h2; cases h2
      simp [this]
  · rw [less_asymm a b h1]
    have : b ≠ a := by intro e; subst e; rw [less_irrefl] at h1; cases h1
    simp [this]
theorem ordS_zero {a b : List UInt8} : ordS a b = 0 ↔ a = b := by
  unfold ordS
  constructor
  · intro h
    cases h1 : Op.bytesLess a b
    · rw [h1] at h; simp at h; exact h
    · rw [h1] at h; simp at h
  · rintro rfl; rw [less_irrefl]; simp
theorem ordS_bd (a b : List UInt8) : -1 ≤ ordS a b ∧ ordS a b ≤ 1 := by
  unfold ordS; split
  · omega
  · split <;> omega
theorem ordS_neg1 {a b : List UInt8} : ordS a b = -1 ↔ Op.bytesLess a b = true := by
  unfold ordS
  constructor
  · intro h; split at h
    · assumption
    · split at h <;> omega
  · intro h; rw [if_pos h]
/-- The order of prefixes is antisymmetric, and only the same stand together. -/
theorem pcmp_neg (fa ra : Int) (sa : ByteArray) (la fb rb : Int) (sb : ByteArray) (lb : Int) : pcmp fb rb sb lb fa ra sa la = - pcmp fa ra sa la fb rb sb lb := by
  unfold pcmp
  rw [ord_neg fa fb, ord_neg ra rb, ord_neg la lb, ordS_neg sa.toList sb.toList]
  generalize ord fa fb = x
  generalize ord ra rb = y
  generalize ord la lb = z
  generalize ordS sa.toList sb.toList = u
  repeat' split
  all_goals omega
theorem pcmp_self (fa ra : Int) (sa : ByteArray) (la : Int) : pcmp fa ra sa la fa ra sa la = 0 := by
  have := pcmp_neg fa ra sa la fa ra sa la
  omega
theorem pcmp_bd (fa ra : Int) (sa : ByteArray) (la fb rb : Int) (sb : ByteArray) (lb : Int) : -1 ≤ pcmp fa ra sa la fb rb sb lb ∧ pcmp fa ra sa la fb rb sb lb ≤ 1 := by
  have h1 := ord_bd fa fb
  have h2 := ord_bd ra rb
  have h3 := ord_bd la lb
  have h4 := ordS_bd sa.toList sb.toList
  unfold pcmp
  repeat' split
  all_goals omega
theorem pcmp_zero {fa ra : Int} {sa : ByteArray} {la fb rb : Int} {sb : ByteArray} {lb : Int} : pcmp fa ra sa la fb rb sb lb = 0 ↔ fa = fb ∧ ra = rb ∧ sa.toList = sb.toList ∧ la = lb := by
  have h1 := @ord_zero fa fb
  have h2 := @ord_zero ra rb
  have h3 := @ord_zero la lb
  have h4 := @ordS_zero sa.toList sb.toList
  unfold pcmp
  constructor
  · intro h
    split at h
    · omega
    · split at h
      · omega
      · split at h
        · omega
        · exact ⟨h1.1 (by omega), h2.1 (by omega), h4.1 (by omega), h3.1 (by omega)⟩
  · rintro ⟨a, b, c, d⟩
    rw [if_neg (by rw [h1.2 a]; decide), if_neg (by rw [h2.2 b]; decide), if_neg (by rw [h4.2 c]; decide), h3.2 d]
/-- Two orders put together keep what goes on and on. -/
theorem lex_trans {x1 x2 x3 y1 y2 y3 : Int} (T : x1 ≤ 0 → x2 ≤ 0 → x3 ≤ 0 ∧ (x3 = 0 → x1 = 0 ∧ x2 = 0)) (Z : x1 = 0 → x2 = 0 → x3 = 0) (U : y1 ≤ 0 → y2 ≤ 0 → y3 ≤ 0)
    (h : (if x1 ≠ 0 then x1 else y1) ≤ 0) (k : (if x2 ≠ 0 then x2 else y2) ≤ 0) : (if x3 ≠ 0 then x3 else y3) ≤ 0 := by
  by_cases a1 : x1 = 0
  · rw [if_neg (by omega)] at h
    by_cases a2 : x2 = 0
    · rw [if_neg (by omega)] at k
      have := Z a1 a2
      rw [if_neg (by omega)]
      exact U h k
    · rw [if_pos a2] at k
      have := T (by omega) k
      rw [if_pos (by omega)]; omega
  · rw [if_pos a1] at h
    by_cases a2 : x2 = 0
    · have := T h (by omega)
      rw [if_pos (by omega)]; omega
    · rw [if_pos a2] at k
      have := T h k
      rw [if_pos (by omega)]; omega
theorem ord_T (a b c : Int) : ord a b ≤ 0 → ord b c ≤ 0 → ord a c ≤ 0 ∧ (ord a c = 0 → ord a b = 0 ∧ ord b c = 0) := by
  rw [ord_le, ord_le, ord_le, ord_zero, ord_zero, ord_zero]
  omega
theorem ord_Z (a b c : Int) : ord a b = 0 → ord b c = 0 → ord a c = 0 := by
  rw [ord_zero, ord_zero, ord_zero]; omega
theorem ordS_T (a b c : List UInt8) : ordS a b ≤ 0 → ordS b c ≤ 0 → ordS a c ≤ 0 ∧ (ordS a c = 0 → ordS a b = 0 ∧ ordS b c = 0) := by
  intro p q
  have s1 := ordS_bd a b
  have s2 := ordS_bd b c
  by_cases p0 : ordS a b = 0
  · have e := ordS_zero.1 p0
    rw [← e] at q ⊢
    exact ⟨q, fun h => ⟨by rw [ordS_zero], h⟩⟩
  · by_cases q0 : ordS b c = 0
    · have e := ordS_zero.1 q0
      rw [← e]
      exact ⟨p, fun h => absurd h p0⟩
    · have := ordS_neg1.2 (less_trans _ _ _ (ordS_neg1.1 (show ordS a b = -1 by omega)) (ordS_neg1.1 (show ordS b c = -1 by omega)))
      exact ⟨by omega, fun h => by omega⟩
theorem ordS_Z (a b c : List UInt8) : ordS a b = 0 → ordS b c = 0 → ordS a c = 0 := by
  rw [ordS_zero, ordS_zero, ordS_zero]; rintro rfl rfl; rfl
theorem pcmp_trans (fa ra : Int) (sa : ByteArray) (la fb rb : Int) (sb : ByteArray) (lb fc rc : Int) (sc : ByteArray) (lc : Int)
    (h : pcmp fa ra sa la fb rb sb lb ≤ 0) (k : pcmp fb rb sb lb fc rc sc lc ≤ 0) : pcmp fa ra sa la fc rc sc lc ≤ 0 := by
  unfold pcmp at *
  exact lex_trans (ord_T fa fb fc) (ord_Z fa fb fc) (lex_trans (ord_T ra rb rc) (ord_Z ra rb rc) (lex_trans (ordS_T _ _ _) (ordS_Z _ _ _) (fun p q => (ord_T la lb lc p q).1))) h k
end Go.Proofs.YtkgedoedojkdkaaDoor
