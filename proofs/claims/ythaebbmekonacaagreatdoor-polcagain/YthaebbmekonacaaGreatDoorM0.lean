/-
  Patterns and what they match, plainly.
-/
import Derived.ProofKit
namespace Go.Proofs.YthaebbmekonacaaGreatDoor
/-- An atom: its kind, its AS. -/
abbrev Atm := Int × Nat
/-- An atom that stands for one AS, and this AS. -/
def oneA (a : Atm) (x : Nat) : Bool := a.1 == 2 || a.2 == x
/-- A pattern matches a list. -/
def mt : List Atm → List Nat → Bool
  | [], l => l.isEmpty
  | a :: p, l => if a.1 = 3 then (List.range (l.length + 1)).any (fun k => mt p (l.drop k)) else match l with
    | [] => false
    | x :: t => oneA a x && mt p t
theorem mt_nil (l : List Nat) : mt [] l = l.isEmpty := rfl
theorem mt_many {a : Atm} (h : a.1 = 3) (p : List Atm) (l : List Nat) : mt (a :: p) l = true ↔ ∃ k, k ≤ l.length ∧ mt p (l.drop k) = true := by
  have e0 : mt (a :: p) l = (List.range (l.length + 1)).any (fun k => mt p (l.drop k)) := by rw [mt.eq_def]; simp only [if_pos h]
  rw [e0, List.any_eq_true]
  constructor
  · rintro ⟨k, hk, e⟩
    exact ⟨k, by have := List.mem_range.1 hk; omega, e⟩
  · rintro ⟨k, hk, e⟩
    exact ⟨k, List.mem_range.2 (by omega), e⟩
theorem mt_one_nil {a : Atm} (h : ¬ a.1 = 3) (p : List Atm) : mt (a :: p) [] = false := by rw [mt, if_neg h]
theorem mt_one {a : Atm} (h : ¬ a.1 = 3) (p : List Atm) (x : Nat) (t : List Nat) : mt (a :: p) (x :: t) = (oneA a x && mt p t) := by rw [mt, if_neg h]
theorem mt_one_end {a : Atm} (h : ¬ a.1 = 3) (p : List Atm) (l : List Nat) (k : Nat) (hk : l.length ≤ k) : mt (a :: p) (l.drop k) = false := by
  rw [List.drop_eq_nil_of_le hk]; exact mt_one_nil h p
theorem mt_one_at {a : Atm} (h : ¬ a.1 = 3) (p : List Atm) (l : List Nat) (k : Nat) (hk : k < l.length) : mt (a :: p) (l.drop k) = (oneA a l[k] && mt p (l.drop (k + 1))) := by
  rw [List.drop_eq_getElem_cons hk]; exact mt_one h p _ _
theorem mt_many_at {a : Atm} (h : a.1 = 3) (p : List Atm) (l : List Nat) (k : Nat) (hk : k ≤ l.length) : mt (a :: p) (l.drop k) = true ↔ ∃ j, k ≤ j ∧ j ≤ l.length ∧ mt p (l.drop j) = true := by
  rw [mt_many h]
  constructor
  · rintro ⟨j, hj, e⟩
    rw [List.drop_drop] at e
    rw [List.length_drop] at hj
    exact ⟨k + j, by omega, by omega, e⟩
  · rintro ⟨j, h1, h2, e⟩
    refine ⟨j - k, by rw [List.length_drop]; omega, ?_⟩
    rw [List.drop_drop, show k + (j - k) = j by omega]
    exact e
theorem mt_app (p q : List Atm) : ∀ l : List Nat, mt (p ++ q) l = true ↔ ∃ k, k ≤ l.length ∧ mt p (l.take k) = true ∧ mt q (l.drop k) = true := by
  induction p with
  | nil =>
    intro l
    constructor
    · intro h
      exact ⟨0, Nat.zero_le _, rfl, h⟩
    · rintro ⟨k, hk, h1, h2⟩
      rw [mt_nil, List.isEmpty_iff, List.take_eq_nil_iff] at h1
      rcases h1 with h1 | h1
      · rw [h1] at h2; exact h2
      · rw [h1] at h2 ⊢; simpa using h2
  | cons a p ih =>
    intro l
    by_cases h : a.1 = 3
    · rw [List.cons_append, mt_many h]
      constructor
      · rintro ⟨j, hj, e⟩
        obtain ⟨k, hk, h1, h2⟩ := (ih _).1 e
        rw [List.length_drop] at hk
        refine ⟨j + k, by omega, (mt_many h _ _).2 ⟨j, by rw [List.length_take]; omega, ?_⟩, ?_⟩
        · rw [List.drop_take, show j + k - j = k by omega]; exact h1
        · rw [← List.drop_drop]; exact h2
      · rintro ⟨m, hm, h1, h2⟩
        obtain ⟨j, hj, e⟩ := (mt_many h _ _).1 h1
        rw [List.length_take] at hj
        refine ⟨j, by omega, (ih _).2 ⟨m - j, by rw [List.length_drop]; omega, ?_, ?_⟩⟩
        · rw [List.drop_take] at e; exact e
        · rw [List.drop_drop, show j + (m - j) = m by omega]; exact h2
    · cases l with
      | nil =>
        rw [List.cons_append, mt_one_nil h]
        constructor
        · intro e; cases e
        · rintro ⟨k, hk, h1, _⟩
          rw [List.take_nil, mt_one_nil h] at h1; cases h1
      | cons x t =>
        rw [List.cons_append, mt_one h, Bool.and_eq_true, ih]
        constructor
        · rintro ⟨h0, k, hk, h1, h2⟩
          refine ⟨k + 1, by simp; omega, ?_, by simpa using h2⟩
          rw [List.take_succ_cons, mt_one h, h0, h1]; rfl
        · rintro ⟨k, hk, h1, h2⟩
          cases k with
          | zero => rw [List.take_zero, mt_one_nil h] at h1; cases h1
          | succ k =>
            rw [List.take_succ_cons, mt_one h, Bool.and_eq_true] at h1
            exact ⟨h1.1, k, by simp at hk; omega, h1.2, by simpa using h2⟩
/-- A pattern that may be. -/
def okA (a : Atm) : Bool := if a.1 = 1 then decide (0 < a.2) else if a.1 = 2 ∨ a.1 = 3 then decide (a.2 = 0) else false
def okP (p : List Atm) : Bool := decide (p.length ≤ 64) && p.all okA
/-- What is known: from which place on the rest of the pattern behind an atom does not match. -/
def Memo (p : List Atm) (L : List Nat) (f : Nat → Option Nat) : Prop :=
  ∀ i e, f i = some e → e ≤ L.length ∧ ∃ h : i < p.length, p[i].1 = 3 ∧ ∀ j, e ≤ j → j ≤ L.length → mt (p.drop (i + 1)) (L.drop j) = false
def upd (f : Nat → Option Nat) (i v : Nat) : Nat → Option Nat := fun k => if k = i then some v else f k
theorem Memo.upd {p : List Atm} {L : List Nat} {f : Nat → Option Nat} (h : Memo p L f) {i v : Nat} (hi : i < p.length) (h3 : p[i].1 = 3) (hv : v ≤ L.length) (hn : ∀ j, v ≤ j → j ≤ L.length → mt (p.drop (i + 1)) (L.drop j) = false) : Memo p L (upd f i v) := by
  intro k e hk
  unfold Proofs.YthaebbmekonacaaGreatDoor.upd at hk
  split at hk
  · rename_i he
    subst he
    injection hk with hk
    subst hk
    exact ⟨hv, hi, h3, hn⟩
  · exact h k e hk
theorem Memo.none (p : List Atm) (L : List Nat) : Memo p L (fun _ => none) := by intro i e h; cases h
/-- How many of the first m are told. -/
def cnt (f : Nat → Option Nat) : Nat → Nat
  | 0 => 0
  | m + 1 => cnt f m + if (f m).isSome then 1 else 0
theorem cnt_le (f : Nat → Option Nat) : ∀ m, cnt f m ≤ m
  | 0 => Nat.le_refl _
  | m + 1 => by have := cnt_le f m; unfold cnt; split <;> omega
theorem cnt_upd (f : Nat → Option Nat) (i v : Nat) : ∀ m, cnt (upd f i v) m = cnt f m + if i < m ∧ (f i).isSome = false then 1 else 0
  | 0 => by simp [cnt]
  | m + 1 => by
    have ih := cnt_upd f i v m
    unfold cnt
    rw [ih]
    by_cases e : m = i
    · subst e
      have e1 : (upd f m v m).isSome = true := by simp [upd]
      rw [if_pos e1, if_neg (fun h => absurd h.1 (Nat.lt_irrefl _))]
      cases hf : (f m).isSome
      · rw [if_neg (by simp), if_pos ⟨Nat.lt_succ_self _, rfl⟩]
      · rw [if_pos rfl, if_neg (by simp)]
    · have e1 : upd f i v m = f m := by simp [upd, e]
      rw [e1]
      have hi : (i < m + 1 ∧ (f i).isSome = false) ↔ (i < m ∧ (f i).isSome = false) := ⟨fun h => ⟨by omega, h.2⟩, fun h => ⟨by omega, h.2⟩⟩
      have hj : (if i < m + 1 ∧ (f i).isSome = false then 1 else 0) = (if i < m ∧ (f i).isSome = false then 1 else 0) := by simp only [hi]
      rw [hj]
      omega
end Go.Proofs.YthaebbmekonacaaGreatDoor
