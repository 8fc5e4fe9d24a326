/-
  An entry at its place in a list that rises by families: placed.
-/
import Derived.Test.YtlhnfejgkhilkaaGreatDoorIb
import Derived.Test.YtlhnfejgkhilkaaGreatDoorSa
set_option linter.unusedVariables false
set_option linter.unusedSimpArgs false
namespace Go.Proofs.YtlhnfejgkhilkaaGreatDoor
open Go.RowKit
/-- An entry is put at its place; one of the same family is gone. -/
def plA {α : Type} (key : α → Int) (L : List α) (e : α) : List α := L.filter (fun x => decide (key x < key e)) ++ e :: L.filter (fun x => decide (key e < key x))
theorem filter_take {α : Type} (p : α → Bool) (L : List α) (i : Nat) (h1 : ∀ t (h : t < L.length), t < i → p L[t] = true) (h2 : ∀ t (h : t < L.length), i ≤ t → p L[t] = false) : L.filter p = L.take i := by
  have e : L.filter p = (L.take i ++ L.drop i).filter p := by rw [List.take_append_drop]
  rw [e, List.filter_append]
  have e1 : (L.take i).filter p = L.take i := List.filter_eq_self.2 fun x hx => by
    obtain ⟨t, ht, rfl⟩ := List.mem_iff_getElem.1 hx
    simp only [List.length_take] at ht
    rw [List.getElem_take]
    exact h1 t (by omega) (by omega)
  have e2 : (L.drop i).filter p = [] := List.filter_eq_nil_iff.2 fun x hx => by
    obtain ⟨t, ht, rfl⟩ := List.mem_iff_getElem.1 hx
    simp only [List.length_drop] at ht
    rw [List.getElem_drop]
    simp [h2 (i + t) (by omega) (by omega)]
  rw [e1, e2, List.append_nil]
theorem filter_drop {α : Type} (p : α → Bool) (L : List α) (i : Nat) (h1 : ∀ t (h : t < L.length), t < i → p L[t] = false) (h2 : ∀ t (h : t < L.length), i ≤ t → p L[t] = true) : L.filter p = L.drop i := by
  have e : L.filter p = (L.take i ++ L.drop i).filter p := by rw [List.take_append_drop]
  rw [e, List.filter_append]
  have e1 : (L.take i).filter p = [] := List.filter_eq_nil_iff.2 fun x hx => by
    obtain ⟨t, ht, rfl⟩ := List.mem_iff_getElem.1 hx
    simp only [List.length_take] at ht
    rw [List.getElem_take]
    simp [h1 t (by omega) (by omega)]
  have e2 : (L.drop i).filter p = L.drop i := List.filter_eq_self.2 fun x hx => by
    obtain ⟨t, ht, rfl⟩ := List.mem_iff_getElem.1 hx
    simp only [List.length_drop] at ht
    rw [List.getElem_drop]
    exact h2 (i + t) (by omega) (by omega)
  rw [e1, e2, List.nil_append]
theorem plA_new {α : Type} (key : α → Int) (L : List α) (e : α) (i : Nat) (hs : Srt (L.map key)) (h : Found (L.map key) (key e) i false) : plA key L e = L.take i ++ [e] ++ L.drop i := by
  obtain ⟨h0, h1, h2, h3⟩ := h
  have hno : ∀ (h : i < L.length), key L[i] ≠ key e := fun h e' => by
    have := h3.2 ⟨by simpa using h, by simpa using e'⟩
    cases this
  unfold plA
  rw [filter_take _ L i (fun t ht hti => by have := h1 t (by simpa using ht) hti; simpa using this) (fun t ht hti => by have := h2 t (by simpa using ht) hti; simpa using this),
    filter_drop _ L i (fun t ht hti => by have := h1 t (by simpa using ht) hti; simp at this ⊢; omega) (fun t ht hti => by
      have h4 := h2 t (by simpa using ht) hti
      simp at h4 ⊢
      by_cases e1 : t = i
      · subst e1
        have := hno ht
        omega
      · have h5 := hs i t (by simp; omega) (by simpa using ht) (by omega)
        have h6 := h2 i (by simp; omega) (Nat.le_refl _)
        simp at h5 h6
        omega)]
  simp
theorem plA_old {α : Type} (key : α → Int) (L : List α) (e : α) (i : Nat) (hs : Srt (L.map key)) (h : Found (L.map key) (key e) i true) : i < L.length ∧ plA key L e = L.set i e := by
  obtain ⟨h0, h1, h2, h3⟩ := h
  obtain ⟨hi, he⟩ := h3.1 rfl
  have hi' : i < L.length := by simpa using hi
  refine ⟨hi', ?_⟩
  unfold plA
  rw [filter_take _ L i (fun t ht hti => by have := h1 t (by simpa using ht) hti; simpa using this) (fun t ht hti => by have := h2 t (by simpa using ht) hti; simpa using this),
    filter_drop _ L (i + 1) (fun t ht hti => by
      simp at he ⊢
      by_cases e1 : t = i
      · subst e1; omega
      · have := h1 t (by simpa using ht) (by omega); simp at this; omega) (fun t ht hti => by
      have h5 := hs i t (by simpa using hi') (by simpa using ht) (by omega)
      simp at h5 he ⊢
      omega)]
  rw [List.set_eq_take_append_cons_drop, if_pos hi']
theorem plA_len_old {α : Type} (L : List α) (e : α) (i : Nat) : (L.set i e).length = L.length := by simp
theorem intsC_at (L : List Int) (j : Nat) (h : j < L.length) : (intsC L)[j]? = some (.int .i64 L[j]) := by simp [intsC, h]
theorem addsC_at (L : List Ad) (j : Nat) (h : j < L.length) : (addsC L)[j * 3]? = some (.int .i64 L[j].f) ∧ (addsC L)[j * 3 + 1]? = some (.bool L[j].s) ∧ (addsC L)[j * 3 + 2]? = some (.bool L[j].t) := by
  induction L generalizing j with
  | nil => simp at h
  | cons r R ih =>
    cases j with
    | zero => simp [addsC]
    | succ i =>
      have := ih i (by simpa using h)
      simp only [addsC, List.flatMap_cons, List.getElem_cons_succ] at this ⊢
      rw [show (i + 1) * 3 = 3 + i * 3 by omega]
      rw [List.getElem?_append_right (by simp <;> omega), List.getElem?_append_right (by simp <;> omega), List.getElem?_append_right (by simp <;> omega)]
      simp only [List.length_cons, List.length_nil]
      rw [show 3 + i * 3 - (0 + 1 + 1 + 1) = i * 3 by omega, show 3 + i * 3 + 1 - (0 + 1 + 1 + 1) = i * 3 + 1 by omega, show 3 + i * 3 + 2 - (0 + 1 + 1 + 1) = i * 3 + 2 by omega]
      exact this
theorem keptC_at (L : List Kp) (j : Nat) (h : j < L.length) : (keptC L)[j * 2]? = some (.int .i64 L[j].f) ∧ (keptC L)[j * 2 + 1]? = some (.bool L[j].k) := by
  induction L generalizing j with
  | nil => simp at h
  | cons r R ih =>
    cases j with
    | zero => simp [keptC]
    | succ i =>
      have := ih i (by simpa using h)
      simp only [keptC, List.flatMap_cons, List.getElem_cons_succ] at this ⊢
      rw [show (i + 1) * 2 = 2 + i * 2 by omega]
      rw [List.getElem?_append_right (by simp <;> omega), List.getElem?_append_right (by simp <;> omega)]
      simp only [List.length_cons, List.length_nil]
      rw [show 2 + i * 2 - (0 + 1 + 1) = i * 2 by omega, show 2 + i * 2 + 1 - (0 + 1 + 1) = i * 2 + 1 by omega]
      exact this
theorem intsC_app (A B : List Int) : intsC (A ++ B) = intsC A ++ intsC B := by simp [intsC]
theorem addsC_app (A B : List Ad) : addsC (A ++ B) = addsC A ++ addsC B := by simp [addsC]
theorem keptC_app (A B : List Kp) : keptC (A ++ B) = keptC A ++ keptC B := by simp [keptC]
theorem intsC_length (L : List Int) : (intsC L).length = L.length := by simp [intsC]
theorem addsC_length (L : List Ad) : (addsC L).length = L.length * 3 := by
  induction L with
  | nil => rfl
  | cons r R ih => simp [addsC] at ih ⊢; omega
theorem keptC_length (L : List Kp) : (keptC L).length = L.length * 2 := by
  induction L with
  | nil => rfl
  | cons r R ih => simp [keptC] at ih ⊢; omega
theorem one_ints (L : List Int) : ∀ v ∈ intsC L, v.oneCell' = true := by intro v hv; simp [intsC] at hv; obtain ⟨a, _, rfl⟩ := hv; rfl
theorem one_adds (L : List Ad) : ∀ v ∈ addsC L, v.oneCell' = true := by
  intro v hv; simp [addsC] at hv; obtain ⟨a, _, rfl | rfl | rfl⟩ := hv <;> rfl
theorem one_kept (L : List Kp) : ∀ v ∈ keptC L, v.oneCell' = true := by
  intro v hv; simp [keptC] at hv; obtain ⟨a, _, rfl | rfl⟩ := hv <;> rfl
theorem ints_of_owns {w : World} {base : Nat} {v : Value} {L : List Int} (h : w.ownsRow base 3 1 v L.length (intsC L)) : IntsAt w v L := by
  obtain ⟨h0, ⟨rfl, hn⟩ | ⟨g, cap, cur, rfl, hg, hk, hc, hm, hs, ht⟩⟩ := h
  · exact ⟨none, 0, 0, 0, by rw [hn], Or.inr hn, by omega, fun j hj => by omega⟩
  · refine ⟨_, g, 0, cap, rfl, Or.inl rfl, hc, fun j hj => cl_row hk ?_⟩
    rw [Nat.zero_add]
    simpa using take_of_take ht (by rw [intsC_length]; omega) j _ (intsC_at L j hj)
theorem adds_of_owns {w : World} {base : Nat} {v : Value} {L : List Ad} (h : w.ownsRow base 52 3 v L.length (addsC L)) : AddsAt w v L := by
  obtain ⟨h0, ⟨rfl, hn⟩ | ⟨g, cap, cur, rfl, hg, hk, hc, hm, hs, ht⟩⟩ := h
  · exact ⟨none, 0, 0, 0, by rw [hn], Or.inr hn, by omega, fun j hj => by omega⟩
  · refine ⟨_, g, 0, cap, rfl, Or.inl rfl, hc, fun j hj => ?_⟩
    have ha := addsC_at L j hj
    have hl : (addsC L).length = L.length * 3 := addsC_length L
    rw [Nat.zero_add]
    exact ⟨cl_row hk (by simpa using take_of_take ht hl _ _ ha.1), cl_row hk (by simpa using take_of_take ht hl _ _ ha.2.1), cl_row hk (by simpa using take_of_take ht hl _ _ ha.2.2)⟩
theorem kept_of_owns {w : World} {base : Nat} {v : Value} {L : List Kp} (h : w.ownsRow base 40 2 v L.length (keptC L)) : KeptsAt w v L := by
  obtain ⟨h0, ⟨rfl, hn⟩ | ⟨g, cap, cur, rfl, hg, hk, hc, hm, hs, ht⟩⟩ := h
  · exact ⟨none, 0, 0, 0, by rw [hn], Or.inr hn, by omega, fun j hj => by omega⟩
  · refine ⟨_, g, 0, cap, rfl, Or.inl rfl, hc, fun j hj => ?_⟩
    have ha := keptC_at L j hj
    have hl : (keptC L).length = L.length * 2 := keptC_length L
    rw [Nat.zero_add]
    exact ⟨cl_row hk (by simpa using take_of_take ht hl _ _ ha.1), cl_row hk (by simpa using take_of_take ht hl _ _ ha.2)⟩
theorem intsC_set (L : List Int) (i : Nat) (e : Int) : intsC (L.set i e) = (intsC L).set i (.int .i64 e) := by simp [intsC, List.map_set]
theorem addsC_set (L : List Ad) (i : Nat) (e : Ad) : addsC (L.set i e) = (((addsC L).set (i * 3) (.int .i64 e.f)).set (i * 3 + 1) (.bool e.s)).set (i * 3 + 2) (.bool e.t) := by
  induction L generalizing i with
  | nil => simp [addsC]
  | cons r R ih =>
    cases i with
    | zero => simp [addsC]
    | succ i =>
      have := ih i
      simp only [addsC, List.set_cons_succ, List.flatMap_cons] at this ⊢
      rw [this, show (i + 1) * 3 = i * 3 + 1 + 1 + 1 by omega]
      simp [Nat.add_assoc]
theorem keptC_set (L : List Kp) (i : Nat) (e : Kp) : keptC (L.set i e) = ((keptC L).set (i * 2) (.int .i64 e.f)).set (i * 2 + 1) (.bool e.k) := by
  induction L generalizing i with
  | nil => simp [keptC]
  | cons r R ih =>
    cases i with
    | zero => simp [keptC]
    | succ i =>
      have := ih i
      simp only [keptC, List.set_cons_succ, List.flatMap_cons] at this ⊢
      rw [this, show (i + 1) * 2 = i * 2 + 1 + 1 by omega]
      simp [Nat.add_assoc]
theorem set_take {α : Type} (l : List α) (i m : Nat) (v : α) (h : i < m) : (l.set i v).take m = (l.take m).set i v := by rw [List.take_set]
theorem Below.of_grown {w w' : World} {r : Option Nat} {B : Nat} (h : w.grownBy w' r) (hr : ∀ k, r = some k → B ≤ k) (hB : B ≤ w.heap.size) : Below B w w' :=
  ⟨h.os, h.tape, h.output, h.size, fun k hk => h.block k (by omega) (fun e => by have := hr k e.symm; omega)⟩
theorem grown_trans {a b c : World} {r : Option Nat} (h : a.grownBy b r) (k : b.grownBy c r) : a.grownBy c r :=
  ⟨k.os.trans h.os, k.tape.trans h.tape, k.output.trans h.output, Nat.le_trans h.size k.size, fun j hj hp => (k.block j (Nat.lt_of_lt_of_le hj h.size) hp).trans (h.block j hj hp)⟩
end Go.Proofs.YtlhnfejgkhilkaaGreatDoor
