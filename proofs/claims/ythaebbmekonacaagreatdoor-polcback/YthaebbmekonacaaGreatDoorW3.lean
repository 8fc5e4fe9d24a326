/-
  Parse of every text.
-/
import Derived.Test.YthaebbmekonacaaGreatDoorW1
set_option linter.unusedVariables false
set_option linter.unusedSimpArgs false
set_option maxRecDepth 100000
namespace Go.Proofs.YthaebbmekonacaaGreatDoor
open Go.RowKit
theorem idx_no (c : UInt8) (x : List UInt8) (h : c ∉ x) : Lib.index x [c] = -1 := by
  induction x with
  | nil => rfl
  | cons a x ih =>
    have h1 : ¬ c = a := fun e => h (by simp [e])
    have h2 : Lib.index x [c] = -1 := ih fun e => h (List.mem_cons_of_mem _ e)
    simp [Lib.index, List.isPrefixOf, h1, h2]
theorem idx_in (c : UInt8) (x r : List UInt8) (h : c ∉ x) : Lib.index (x ++ c :: r) [c] = x.length := by
  induction x with
  | nil => simp [Lib.index, List.isPrefixOf]
  | cons a x ih =>
    have h1 : ¬ c = a := fun e => h (by simp [e])
    have h2 : Lib.index (x ++ c :: r) [c] = x.length := ih fun e => h (List.mem_cons_of_mem _ e)
    have h3 : ¬ ((x.length : Int) = -1) := by omega
    simp [Lib.index, List.isPrefixOf, h1, h2, h3]
theorem cut_in (c : UInt8) (x r : List UInt8) (h : c ∉ x) : Lib.cut (x ++ c :: r) [c] = (x, r, true) := by
  unfold Lib.cut
  rw [idx_in c x r h, if_pos (by omega)]
  simp
theorem cut_no (c : UInt8) (x : List UInt8) (h : c ∉ x) : Lib.cut x [c] = (x, [], false) := by
  unfold Lib.cut
  rw [idx_no c x h, if_neg (by decide)]
/-- The words of a text. -/
def spl : List UInt8 → List (List UInt8)
  | [] => [[]]
  | c :: l => if c = 32 then [] :: spl l else match spl l with
    | [] => [[c]]
    | x :: r => (c :: x) :: r
theorem spl_ne (l : List UInt8) : spl l ≠ [] := by
  cases l with
  | nil => simp [spl]
  | cons c l =>
    unfold spl
    split
    · simp
    · split <;> simp
/-- The words, one behind the other, by cuts. -/
theorem spl_cut (l : List UInt8) : (∃ x r, (32 : UInt8) ∉ x ∧ l = x ++ 32 :: r ∧ spl l = x :: spl r) ∨ ((32 : UInt8) ∉ l ∧ spl l = [l]) := by
  induction l with
  | nil => exact Or.inr ⟨by simp, rfl⟩
  | cons c l ih =>
    by_cases h : c = 32
    · refine Or.inl ⟨[], l, by simp, by rw [h]; rfl, ?_⟩
      rw [spl, if_pos h]
    · rcases ih with ⟨x, r, h1, h2, h3⟩ | ⟨h1, h2⟩
      · refine Or.inl ⟨c :: x, r, ?_, by rw [h2]; rfl, ?_⟩
        · intro e
          rcases List.mem_cons.1 e with e | e
          · exact h e.symm
          · exact h1 e
        · rw [spl, if_neg h, h3]
      · refine Or.inr ⟨?_, ?_⟩
        · intro e
          rcases List.mem_cons.1 e with e | e
          · exact h e.symm
          · exact h1 e
        · rw [spl, if_neg h, h2]
/-- A cut, and the words. -/
theorem cut_spl (r : List UInt8) : ∃ (x r' : List UInt8) (m : Bool), Lib.cut r [32] = (x, r', m) ∧ spl r = x :: (if m then spl r' else []) ∧ r'.length + (if m then 1 else 0) ≤ r.length ∧ x.length ≤ r.length := by
  rcases spl_cut r with ⟨x, r', hx, e, es⟩ | ⟨hn, es⟩
  · refine ⟨x, r', true, by rw [e]; exact cut_in 32 x r' hx, by rw [es]; rfl, ?_, ?_⟩
    · rw [e]; simp
    · rw [e]; simp
  · exact ⟨r, [], false, cut_no 32 r hn, by rw [es]; rfl, by simp, Nat.le_refl _⟩
end Go.Proofs.YthaebbmekonacaaGreatDoor
