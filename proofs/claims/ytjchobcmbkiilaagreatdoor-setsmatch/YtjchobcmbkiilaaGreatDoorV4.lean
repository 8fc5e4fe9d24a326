/-
  Pieces of a list of ASs.
-/
import Derived.Test.YtjchobcmbkiilaaGreatDoorV3
set_option linter.unusedVariables false
set_option linter.unusedSimpArgs false
set_option maxRecDepth 100000
namespace Go.Proofs.YtjchobcmbkiilaaGreatDoor
open Go.RowKit
theorem ASAt.parts {w : World} {ad : Option Addr} {n cap : Nat} {L : List Nat} (h : ASAt w (.slice ad n cap) L) : n = L.length ∧ L.length ≤ cap ∧ ∃ b off, (ad = some ⟨b, off, none⟩ ∨ L.length = 0) ∧ ∀ j (h : j < L.length), w.cell? ⟨b, off + j, none⟩ = some (.int .u32 (L[j] : Int)) := by
  obtain ⟨ad', b, off, cap', e, h1, h2, h3⟩ := h
  injection e with e1 e2 e3
  subst e1 e3
  exact ⟨e2, h2, b, off, h1, h3⟩
theorem elem_u : Tryz.prog.underlying 23 = some (.slice (Tryz.prog.elem 23)) := by simp [Program.elem, Tryz.underlying23]
theorem size_u (w : World) : (sizeOf (Tryz.prog.elem 23)).run Tryz.prog w = .ok 1 w := by kernel_rfl
theorem slice_hU (L : List Nat) (ad : Option Addr) (cap k : Nat) (hk : k ≤ L.length) (hc : L.length ≤ cap) :
    ∃ a c, (∀ W, (Instr.sliceAt 23 (.slice ad L.length cap) none (some (.int .i64 (k : Int))) none).run Tryz.prog W = .ok (.slice a k c) W) ∧ ∀ W, ASAt W (.slice ad L.length cap) L → ASAt W (.slice a k c) (L.take k) := by
  refine ⟨if cap = 0 then ad else ad.map (·.add (0 * 1)), cap, fun W => ?_, fun W h => ?_⟩
  · rw [run_sliceAt_slice W 23 _ _ _ _ elem_u, run_slice_h W 23 ad L.length cap elem_u .i64 (k : Int) (by omega) (by omega), size_u]
    simp [Result.andThen, sliced]
  · obtain ⟨_, h2, b, off, h1, h3⟩ := h.parts
    have hl : (L.take k).length = k := by rw [List.length_take]; omega
    have hm : ∀ a : Option Addr, a.map (·.add (0 * 1)) = a := by intro a; cases a <;> simp [Addr.add]
    refine ⟨ad, b, off, cap, ?_, ?_, by omega, fun j hj => ?_⟩
    · rw [hl, hm]; simp
    · rcases h1 with h1 | h1
      · exact Or.inl h1
      · exact Or.inr (by omega)
    · rw [List.getElem_take]
      exact h3 j (by omega)
theorem slice_lU (L : List Nat) (ad : Option Addr) (cap k : Nat) (hk : k ≤ L.length) (hc : L.length ≤ cap) :
    ∃ a c, (∀ W, (Instr.sliceAt 23 (.slice ad L.length cap) (some (.int .i64 (k : Int))) none none).run Tryz.prog W = .ok (.slice a (L.length - k) c) W) ∧ ∀ W, ASAt W (.slice ad L.length cap) L → ASAt W (.slice a (L.length - k) c) (L.drop k) := by
  refine ⟨if cap = k then ad else ad.map (·.add (k * 1)), cap - k, fun W => ?_, fun W h => ?_⟩
  · rw [run_sliceAt_slice W 23 _ _ _ _ elem_u, run_slice_l W 23 ad L.length cap elem_u .i64 (k : Int) (by omega) (by omega), size_u]
    simp [Result.andThen, sliced]
  · obtain ⟨_, h2, b, off, h1, h3⟩ := h.parts
    have hl : (L.drop k).length = L.length - k := by rw [List.length_drop]
    by_cases hz : L.length - k = 0
    · refine ⟨_, 0, 0, cap - k, by rw [hl], Or.inr (by omega), by omega, fun j hj => by omega⟩
    · obtain rfl : ad = some ⟨b, off, none⟩ := by
        rcases h1 with h1 | h1
        · exact h1
        · omega
      refine ⟨_, b, off + k, cap - k, by rw [hl], Or.inl ?_, by omega, fun j hj => ?_⟩
      · rw [if_neg (by omega)]
        simp only [Option.map_some]
        rw [add_off, Nat.mul_one]
      · rw [List.getElem_drop, Nat.add_assoc]
        exact h3 (k + j) (by omega)
end Go.Proofs.YtjchobcmbkiilaaGreatDoor
