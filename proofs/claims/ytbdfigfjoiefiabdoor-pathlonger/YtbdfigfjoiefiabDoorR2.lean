/-
  An AS put ahead of a path that right makes: what follows for the plain lists.
-/
import Derived.Test.YtbdfigfjoiefiabDoorR1
import Derived.Test.YtbdfigfjoiefiabDoorO1
import Derived.Test.YtbdfigfjoiefiabDoorQ1
namespace Go.Proofs.YtbdfigfjoiefiabDoor
/-- A path that right makes. -/
def goodP (P : List Sg) : Prop := P.length ≤ 6 ∧ ∀ s ∈ P, 1 ≤ s.1 ∧ s.1 ≤ 4 ∧ 1 ≤ s.2.length ∧ s.2.length ≤ 3 ∧ 0 ∉ s.2
theorem good_ok {P : List Sg} (h : goodP P) : okPath P = true := by
  simp only [okPath, Bool.and_eq_true, decide_eq_true_eq, List.all_eq_true]
  refine ⟨by have := h.1; omega, fun s hs => (okSeg_iff s).mpr ?_⟩
  obtain ⟨h1, h2, h3, h4, h5⟩ := h.2 s hs
  exact ⟨h1, h2, h3, by omega, h5⟩
theorem lenOf_cons (s : Sg) (L : List Sg) : lenOf (s :: L) = (if s.1 = 2 then (s.2.length : Int) else if s.1 = 1 then 1 else 0) + lenOf L := by simp [lenOf]
/-- What Prepend makes of it: in two forms. -/
theorem prep_form {P : List Sg} (h : goodP P) (a : Nat) (ha : a ≠ 0) (conf : Bool) :
    prepE P a conf = 0 ∧ ((∃ s T, P = s :: T ∧ s.1 = (kindOf conf : Nat) ∧ prepP P a conf = ((kindOf conf : Int), a :: s.2) :: T) ∨ prepP P a conf = ((kindOf conf : Int), [a]) :: P) := by
  have hb : ¬ (okPath P = false ∨ a = 0) := by
    rintro (h1 | h1)
    · rw [good_ok h] at h1; cases h1
    · exact ha h1
  have h16 : ¬ P.length = 16 := by have := h.1; omega
  unfold prepE prepP
  rw [if_neg hb, if_neg hb]
  cases ht : takes (kindOf conf) P with
  | true =>
    refine ⟨by simp, Or.inl ?_⟩
    cases P with
    | nil => simp [takes] at ht
    | cons s T =>
      have : s.1 = (kindOf conf : Nat) ∧ s.2.length < 255 := by simpa [takes] using ht
      exact ⟨s, T, rfl, this.1, by simp⟩
  | false => exact ⟨by simp [h16], Or.inr (by simp [h16])⟩
theorem prep_small {P : List Sg} (h : goodP P) (a : Nat) (ha : a ≠ 0) (conf : Bool) : (prepP P a conf).length ≤ 7 ∧ ∀ s ∈ prepP P a conf, s.2.length ≤ 4 := by
  obtain ⟨_, ⟨s, T, rfl, _, e⟩ | e⟩ := prep_form h a ha conf
  · rw [e]
    have h1 := h.1
    simp only [List.length_cons] at h1 ⊢
    refine ⟨by omega, fun t ht => ?_⟩
    rcases List.mem_cons.mp ht with rfl | ht
    · have := (h.2 s (by simp)).2.2.2.1
      simp; omega
    · have := (h.2 t (by simp [ht])).2.2.2.1
      omega
  · rw [e]
    have h1 := h.1
    simp only [List.length_cons]
    refine ⟨by omega, fun t ht => ?_⟩
    rcases List.mem_cons.mp ht with rfl | ht
    · simp
    · have := (h.2 t ht).2.2.2.1
      omega
theorem longer_len {P : List Sg} (h : goodP P) (a : Nat) (ha : a ≠ 0) : lenOf (prepP P a false) = lenOf P + 1 := by
  obtain ⟨_, ⟨s, T, rfl, hs, e⟩ | e⟩ := prep_form h a ha false
  · have hs' : s.1 = 2 := hs
    rw [e, lenOf_cons, lenOf_cons]
    simp [kindOf, hs']; omega
  · rw [e, lenOf_cons]
    simp [kindOf]; omega
theorem longer_first {P : List Sg} (h : goodP P) (a : Nat) (ha : a ≠ 0) : firstOf (prepP P a false) = (a, true) := by
  obtain ⟨_, ⟨s, T, rfl, hs, e⟩ | e⟩ := prep_form h a ha false <;> rw [e] <;> simp [firstOf, confed, kindOf]
theorem longer_flat {P : List Sg} (h : goodP P) (a : Nat) (ha : a ≠ 0) (conf : Bool) : flatOf (prepP P a conf) = a :: flatOf P := by
  obtain ⟨_, ⟨s, T, rfl, hs, e⟩ | e⟩ := prep_form h a ha conf <;> rw [e] <;> simp [flatOf]
theorem conf_len {P : List Sg} (h : goodP P) (a : Nat) (ha : a ≠ 0) : lenOf (prepP P a true) = lenOf P := by
  obtain ⟨_, ⟨s, T, rfl, hs, e⟩ | e⟩ := prep_form h a ha true
  · have hs' : s.1 = 3 := hs
    rw [e, lenOf_cons, lenOf_cons]
    simp [kindOf, hs']
  · rw [e, lenOf_cons]
    simp [kindOf]
theorem conf_bare {P : List Sg} (h : goodP P) (a : Nat) (ha : a ≠ 0) : bareOf (prepP P a true) = bareOf P := by
  obtain ⟨_, ⟨s, T, rfl, hs, e⟩ | e⟩ := prep_form h a ha true
  · have hs' : s.1 = 3 := hs
    rw [e]
    simp [bareOf, confed, kindOf, hs']
  · rw [e]
    simp [bareOf, confed, kindOf]
theorem bare_len (P : List Sg) : lenOf (bareOf P) = lenOf P := by
  induction P with
  | nil => rfl
  | cons s P ih =>
    by_cases hc : confed s = true
    · have h34 : s.1 = 3 ∨ s.1 = 4 := by simpa [confed] using hc
      rw [lenOf_cons, show bareOf (s :: P) = bareOf P by simp [bareOf, hc], ih]
      rcases h34 with h | h <;> simp [h]
    · rw [show bareOf (s :: P) = s :: bareOf P by simp [bareOf, hc], lenOf_cons, lenOf_cons, ih]
end Go.Proofs.YtbdfigfjoiefiabDoor
