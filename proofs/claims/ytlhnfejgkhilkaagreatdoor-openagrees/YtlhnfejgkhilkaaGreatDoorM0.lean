/-
  Lists that rise by families, plainly: an entry at its place keeps them so.
-/
import Derived.Test.YtlhnfejgkhilkaaGreatDoorL0
import Derived.Test.YtlhnfejgkhilkaaGreatDoorFC
set_option linter.unusedVariables false
set_option linter.unusedSimpArgs false
namespace Go.Proofs.YtlhnfejgkhilkaaGreatDoor
open Go.RowKit
theorem risF_iff (l : Int) (K : List Int) : risF l K = true ↔ K.Pairwise (· < ·) ∧ ∀ f ∈ K, isF f = true ∧ l < f := by
  induction K generalizing l with
  | nil => simp [risF]
  | cons f r ih =>
    simp only [risF, Bool.and_eq_true, decide_eq_true_eq, ih, List.pairwise_cons, List.mem_cons]
    constructor
    · rintro ⟨⟨h1, h2⟩, h3, h4⟩
      exact ⟨⟨fun a ha => (h4 a ha).2, h3⟩, fun a ha => by
        rcases ha with rfl | ha
        · exact ⟨h1, h2⟩
        · exact ⟨(h4 a ha).1, by have := (h4 a ha).2; omega⟩⟩
    · rintro ⟨⟨h1, h2⟩, h3⟩
      exact ⟨h3 f (Or.inl rfl), h2, fun a ha => ⟨(h3 a (Or.inr ha)).1, h1 a ha⟩⟩
theorem srt_of {K : List Int} (h : risF 0 K = true) : Srt K := by
  have := ((risF_iff 0 K).1 h).1
  rw [List.pairwise_iff_getElem] at this
  exact fun i j hi hj hij => this i j hi hj hij
theorem len_of {K : List Int} (h : risF 0 K = true) : K.length ≤ 5 := by
  have := risF_length 0 K h (by omega)
  omega
theorem plA_map {α : Type} (key : α → Int) (L : List α) (e : α) : (plA key L e).map key = plA id (L.map key) (key e) := by
  unfold plA
  simp only [List.map_append, List.map_cons, List.filter_map, id]
  rfl
theorem ris_plA {K : List Int} {f : Int} (h : risF 0 K = true) (hf : isF f = true) : risF 0 (plA id K f) = true := by
  obtain ⟨h1, h2⟩ := (risF_iff 0 K).1 h
  have hb := isF_bd hf
  refine (risF_iff 0 _).2 ⟨?_, ?_⟩
  · unfold plA
    refine List.pairwise_append.2 ⟨h1.filter _, List.pairwise_cons.2 ⟨fun a ha => ?_, h1.filter _⟩, fun a ha b hb' => ?_⟩
    · simpa using (List.mem_filter.1 ha).2
    · have ha2 : a < f := by simpa using (List.mem_filter.1 ha).2
      rcases List.mem_cons.1 hb' with rfl | hb2
      · exact ha2
      · have hb3 : f < b := by simpa using (List.mem_filter.1 hb2).2
        omega
  · intro a ha
    unfold plA at ha
    rcases List.mem_append.1 ha with ha | ha
    · exact h2 a (List.mem_filter.1 ha).1
    · rcases List.mem_cons.1 ha with rfl | ha
      · exact ⟨hf, by omega⟩
      · exact h2 a (List.mem_filter.1 ha).1
theorem ris_plA' {α : Type} (key : α → Int) {L : List α} {e : α} (h : risF 0 (L.map key) = true) (hf : isF (key e) = true) : risF 0 ((plA key L e).map key) = true := by
  rw [plA_map]
  exact ris_plA h hf
theorem fmN_isF (x y : Int) (h : fmN x y ≠ 0) : isF (fmN x y) = true := by
  unfold fmN at h ⊢
  repeat' split
  all_goals first | rfl | (rename_i h1 h2 h3 h4 h5; simp [h1, h2, h3, h4, h5] at h)
end Go.Proofs.YtlhnfejgkhilkaaGreatDoor
