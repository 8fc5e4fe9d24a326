/-
  Numbers of 32 bits, and steps, that come in as an argument.
-/
import Derived.Test.YtjgnnbbimkhjjaaJ0
import Derived.Test.YtjgnnbbimkhjjaaB2
namespace Go.Proofs.Ytjgnnbbimkhjjaa
open Go.ChangeShapes Go.WideShapes Go.ChangeAt Go.RowKit Go.Deep Go.WideMaps Go.WideElems
theorem zs26 : Try.prog.cellsOf 26 = 1 := by kernel_rfl
theorem add_off (b off i : Nat) : Addr.add ⟨b, off, none⟩ i = ⟨b, off + i, none⟩ := by unfold Addr.add; by_cases e : i = 0 <;> simp [e]
variable {H : Type} {enc : TypeId × Value → H} {w : World} {sp : Nat → Bool} {held : Bool} {fuel : Nat}
theorem open_u32s {v : Value} {x : DataW H × List MemPlace} (hf : DataW.trod enc Try.prog w 0 sp held fuel 25 [v] = some x) : ∃ l, ArgU w v l := by
  rcases open_slice Try.underlying25 hf with ⟨hcs, _⟩ | ⟨a, len, cap, m, n, D, Pl, hcs, hb, hl, hm, hmm, hx, hel⟩
  · simp at hcs
    subst hcs
    exact ⟨[], ⟨none, 0, rfl⟩, fun h => absurd rfl h, by simp, Nat.zero_le _⟩
  · simp at hcs
    subst hcs
    have each : ∀ i, i < len → ∃ s : Nat, w.cell? (a.add (i * 1)) = some (.int .u32 (s : Int)) ∧ s < 4294967296 := by
      intro i hi
      obtain ⟨cs', h1, h2⟩ := hel i (by rw [hmm]; split <;> omega)
      rw [zs26] at h1
      obtain ⟨_, hlen, hcell⟩ := World.cells?_some h1
      match cs', hlen with
      | [c0], _ =>
        obtain ⟨n0, e0, _, q0⟩ := DataW.trod_int (k := .u32) Try.underlying26 h2
        simp only [List.cons.injEq, and_true] at e0
        subst e0
        obtain ⟨a0, rfl, l0⟩ := u32_of q0
        refine ⟨a0, ?_, l0⟩
        have d := hcell 0 (by simp); rw [add_add] at d; exact d
    obtain ⟨q, hq⟩ := choose_lt each
    by_cases hz : len = 0
    · subst hz
      exact ⟨[], ⟨some a, cap, rfl⟩, fun h => absurd rfl h, by simp, Nat.zero_le _⟩
    · obtain ⟨b, off, spot⟩ := a
      have hspot : spot = none := by
        have := (hq 0 (by omega)).1
        simpa [Addr.add] using World.cell?_spot this
      subst hspot
      refine ⟨(List.range len).map q, ⟨some ⟨b, off, none⟩, cap, by simp⟩, fun _ => ⟨b, off, cap, by simp, fun j hj => ?_⟩, ?_, ?_⟩
      · have hj' : j < len := by simpa using hj
        obtain ⟨h1, _⟩ := hq j hj'
        simp only [add_off, Nat.mul_one] at h1
        simp only [List.getElem_map, List.getElem_range]
        exact h1
      · intro x hx
        obtain ⟨i, hi, rfl⟩ := List.mem_map.1 hx
        exact (hq i (List.mem_range.1 hi)).2
      · rw [List.length_map, List.length_range]; exact Nat.le_trans hl hm
end Go.Proofs.Ytjgnnbbimkhjjaa
