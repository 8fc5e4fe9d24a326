/-
  The reference's Check: the first line, and the loop over families.
-/
import Derived.Test.YtlhnfejgkhilkaaDoorO3
import Derived.BigQuiet
import Derived.Deep.QuietTactic
import Derived.LoopN
set_option linter.unusedVariables false
set_option linter.unusedSimpArgs false
namespace Go.Proofs.YtlhnfejgkhilkaaDoor
open Go.RowKit
theorem rfam_yes (f : Int) (h : isF f = true) (w : World) : Calls Tryd.prog 30 #[.int .i64 f] w fun e w' => e = .returned (.bool true) ∧ w' = w := by
  have hb := isF_bd h
  obtain ⟨h1, h2⟩ := hb
  clear h
  go_enter Tryd.func30, Tryd.ntmps30
  go_wp2
  go_ret
  exact ⟨rfl, rfl⟩
theorem rfam_no (f : Int) (h : isF f = false) (w : World) : Calls Tryd.prog 30 #[.int .i64 f] w fun e w' => e = .returned (.bool false) ∧ w' = w := by
  by_cases h1 : 1 ≤ f
  · have h2 : decide (f ≤ 5) = false := by
      unfold isF at h
      simp at h ⊢
      exact h h1
    clear h
    go_enter Tryd.func30, Tryd.ntmps30
    go_wp2
    go_ret
    exact ⟨rfl, rfl⟩
  · have h1' : decide (1 ≤ f) = false := by simpa using h1
    clear h
    go_enter Tryd.func30, Tryd.ntmps30
    go_wp2
    go_ret
    exact ⟨rfl, rfl⟩
/-- What the first line of the reference's Check asks. -/
def bad1 (o : Opn) : Bool := o.asn == 0 || (!o.four && decide (65535 < o.asn)) || decide (o.hold < 0) || o.hold == 1 || o.hold == 2 || decide (65535 < o.hold) || o.id == 0 || o.fams.length == 0
set_option maxRecDepth 100000 in
set_option maxHeartbeats 6400000 in
theorem rcheck_bad1 (o : Opn) (vf va vk : Value) (w : World) (h : ListsAt w o vf va vk) (hm : bad1 o = true) :
    Calls Tryd.prog 12 #[opV o vf va vk] w fun e w' => e = .returned (.int .i64 2) ∧ Below w.heap.size w w' := by
  obtain ⟨a1, k1, rfl⟩ := h.f.len
  have HB : Hid (Below w.heap.size w (w.alloc (.cells (opC o (.slice a1 o.fams.length k1) va vk) 27))) := (Below.refl _ _).alloc (Nat.le_refl _) _
  obtain ⟨asn, hold, id, fams, four, refr, adds, gr, again, time, kept⟩ := o
  unfold bad1 at hm
  unfold opC at HB
  unfold opV opC
  dsimp only at *
  clear h
  generalize fams.length = nf at *
  by_cases e1 : asn = 0
  · subst e1
    clear hm
    go_enter Tryd.func12, Tryd.ntmps12
    go_wp2
    go_ret
    exact ⟨rfl, HB.out⟩
  have b1 : (asn == 0) = false := by simpa using e1
  rw [b1] at hm
  have hor : (four = true) ∨ (four = false ∧ ¬ 65535 < asn) ∨ (four = false ∧ 65535 < asn) := by
    cases four
    · by_cases h : 65535 < asn
      · exact Or.inr (Or.inr ⟨rfl, h⟩)
      · exact Or.inr (Or.inl ⟨rfl, h⟩)
    · exact Or.inl rfl
  have hrest : (four = false ∧ 65535 < asn) ∨ ((four = true ∨ (four = false ∧ ¬ 65535 < asn)) ∧ (hold < 0 ∨ hold = 1 ∨ hold = 2 ∨ 65535 < hold ∨ id = 0 ∨ nf = 0)) := by
    simp at hm
    rcases hor with h | h | h
    · subst h; simp at hm; exact Or.inr ⟨Or.inl rfl, by omega⟩
    · obtain ⟨rfl, h2⟩ := h; exact Or.inr ⟨Or.inr ⟨rfl, h2⟩, by omega⟩
    · exact Or.inl h
  clear hm hor e1
  rcases hrest with ⟨rfl, h2⟩ | ⟨hf, hc⟩
  · go_enter Tryd.func12, Tryd.ntmps12
    go_wp2
    go_ret
    exact ⟨rfl, HB.out⟩
  · by_cases c1 : hold < 0
    · rcases hf with rfl | ⟨rfl, h65⟩ <;>
      · go_enter Tryd.func12, Tryd.ntmps12
        go_wp2
        go_ret
        exact ⟨rfl, HB.out⟩
    by_cases c2 : hold = 1
    · subst c2
      rcases hf with rfl | ⟨rfl, h65⟩ <;>
      · go_enter Tryd.func12, Tryd.ntmps12
        go_wp2
        go_ret
        exact ⟨rfl, HB.out⟩
    by_cases c3 : hold = 2
    · subst c3
      rcases hf with rfl | ⟨rfl, h65⟩ <;>
      · go_enter Tryd.func12, Tryd.ntmps12
        go_wp2
        go_ret
        exact ⟨rfl, HB.out⟩
    have d2 : (hold == 1) = false := by simpa using c2
    have d3 : (hold == 2) = false := by simpa using c3
    by_cases c4 : 65535 < hold
    · rcases hf with rfl | ⟨rfl, h65⟩ <;>
      · go_enter Tryd.func12, Tryd.ntmps12
        go_wp2
        go_ret
        exact ⟨rfl, HB.out⟩
    by_cases c5 : id = 0
    · subst c5
      rcases hf with rfl | ⟨rfl, h65⟩ <;>
      · go_enter Tryd.func12, Tryd.ntmps12
        go_wp2
        go_ret
        exact ⟨rfl, HB.out⟩
    have d5 : (id == 0) = false := by simpa using c5
    obtain rfl : nf = 0 := by omega
    rcases hf with rfl | ⟨rfl, h65⟩ <;>
    · go_enter Tryd.func12, Tryd.ntmps12
      go_wp2
      go_ret
      exact ⟨rfl, HB.out⟩
end Go.Proofs.YtlhnfejgkhilkaaDoor
