/-
  Arguments that come in: a list of texts.
-/
import Derived.Test.YtlinoklgchfedaaDoorJ6
import Derived.Test.YtlinoklgchfedaaDoorE2
import Derived.Deep.Strs
namespace Go.Proofs.YtlinoklgchfedaaDoor
open Go.ChangeShapes Go.WideShapes Go.ChangeAt Go.RowKit Go.Joins Go.Deep Go.WideMaps Go.WideElems
variable {H : Type} {enc : TypeId × Value → H} {w : World} {sp : Nat → Bool} {held : Bool} {fuel : Nat}
theorem add_off (b off i : Nat) : Addr.add ⟨b, off, none⟩ i = ⟨b, off + i, none⟩ := by unfold Addr.add; by_cases e : i = 0 <;> simp [e]
theorem open_strs {v : Value} {d : DataW H} {ps : List MemPlace} (hd : DataW.Trod enc Tryd.prog w 0 sp held 22 v d ps) (hv : ∃ ad n c, v = .slice ad n c) : ∃ L, StrsAt w v L ∧ ∀ s ∈ L, s.size ≤ maxLen := by
  obtain ⟨fuel, hf⟩ := hd
  obtain ⟨ad, n, c, rfl⟩ := hv
  have hf' : DataW.trod enc Tryd.prog w 0 sp held fuel 22 [.slice ad n c] = some (d, ps) := by simpa [Value.cells] using hf
  rcases open_slice Tryd.underlying22 hf' with ⟨hcs, _⟩ | ⟨a, len, cap, m, fu, D, Pl, hcs, hb, hl, hm, hmm, hx, hel⟩
  · simp at hcs
    obtain ⟨rfl, rfl, rfl⟩ := hcs
    exact ⟨[], ⟨none, 0, 0, 0, rfl, Or.inr rfl, by simp, fun j hj => by simp at hj⟩, fun s hs => by simp at hs⟩
  · simp at hcs
    obtain ⟨rfl, rfl, rfl⟩ := hcs
    have each : ∀ i, i < n → ∃ s : ByteArray, s.size ≤ maxLen ∧ w.cell? (a.add i) = some (.string s) := by
      intro i hi
      obtain ⟨cs', h1, h2⟩ := hel i (by rw [hmm]; split <;> omega)
      rw [zs9, Nat.mul_one] at h1
      obtain ⟨_, hlen, hcell⟩ := World.cells?_some h1
      obtain ⟨s, e, _, hs⟩ := DataW.trod_string Tryd.underlying9 h2
      refine ⟨s, hs, ?_⟩
      have d := hcell 0 (by omega)
      rw [add_add, Nat.add_zero] at d
      rw [d, e]
      rfl
    obtain ⟨q, hq⟩ := choose_lt each
    by_cases hz : n = 0
    · subst hz
      exact ⟨[], ⟨some a, 0, 0, c, rfl, Or.inr rfl, by simp, fun j hj => by simp at hj⟩, fun s hs => by simp at hs⟩
    · obtain ⟨b, off, spot⟩ := a
      have hspot : spot = none := by
        have := (hq 0 (by omega)).2
        simpa [Addr.add] using World.cell?_spot this
      subst hspot
      refine ⟨(List.range n).map q, ⟨some ⟨b, off, none⟩, b, off, c, by simp, Or.inl rfl, by simpa using hl, fun j hj => ?_⟩, fun s hs => ?_⟩
      · have hj' : j < n := by simpa using hj
        have h1 := (hq j hj').2
        simp only [add_off] at h1
        simpa using h1
      · simp only [List.mem_map, List.mem_range] at hs
        obtain ⟨i, hi, rfl⟩ := hs
        exact (hq i hi).1
end Go.Proofs.YtlinoklgchfedaaDoor
