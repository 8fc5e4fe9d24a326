/-
  Steps that come in as an argument.
-/
import Derived.Test.YtjgnnbbimkhjjaaJ1
import Derived.Test.YtjgnnbbimkhjjaaC3
namespace Go.Proofs.Ytjgnnbbimkhjjaa
open Go.ChangeShapes Go.WideShapes Go.ChangeAt Go.RowKit Go.Deep Go.WideMaps Go.WideElems
theorem zs28 : Try.prog.cellsOf 28 = 3 := by kernel_rfl
theorem zs3 : Try.prog.cellsOf 3 = 1 := by kernel_rfl
variable {H : Type} {enc : TypeId × Value → H} {w : World} {sp : Nat → Bool} {held : Bool} {fuel : Nat}
theorem trod_struct3 {P : Program} {base : Nat} {t : TypeId} {f0 f1 f2 : Field} {cs : List Value} {x : DataW H × List MemPlace} (ht : P.underlying t = some (.struct #[f0, f1, f2])) (h : DataW.trod enc P w base sp held fuel t cs = some x) :
    ∃ y0 y1 y2 n, DataW.trod enc P w base sp held n f0.type ((cs.drop f0.offset).take (P.cellsOf f0.type)) = some y0 ∧ DataW.trod enc P w base sp held n f1.type ((cs.drop f1.offset).take (P.cellsOf f1.type)) = some y1 ∧ DataW.trod enc P w base sp held n f2.type ((cs.drop f2.offset).take (P.cellsOf f2.type)) = some y2 := by
  obtain ⟨xs, n, _, rfl, hl, hlen, hf⟩ := DataW.trod_struct ht h
  match xs, hlen with
  | [y0, y1, y2], _ => exact ⟨y0, y1, y2, n, by simpa using hf 0 f0 rfl, by simpa using hf 1 f1 rfl, by simpa using hf 2 f2 rfl⟩
set_option maxRecDepth 100000 in
theorem sp_of {base : Nat} {cs : List Value} {x : DataW H × List MemPlace} (hl : cs.length = 3) (h : DataW.trod enc Try.prog w base sp held fuel 28 cs = some x) : ∃ s : Stp, cs = [.int .i64 s.kind, .int .u32 (s.n : Int), .int .i64 s.base] := by
  match cs, hl with
  | [c0, c1, c2], _ =>
    obtain ⟨y0, y1, y2, n, h0, h1, h2⟩ := trod_struct3 Try.underlying28 h
    simp only [zs3, zs26, List.drop_zero, List.drop_succ_cons, List.take_succ_cons, List.take_zero] at h0 h1 h2
    obtain ⟨n0, e0, _, q0⟩ := DataW.trod_int (k := .i64) Try.underlying3 h0
    obtain ⟨n1, e1, _, q1⟩ := DataW.trod_int (k := .u32) Try.underlying26 h1
    obtain ⟨n2, e2, _, q2⟩ := DataW.trod_int (k := .i64) Try.underlying3 h2
    simp only [List.cons.injEq, and_true] at e0 e1 e2
    subst e0 e1 e2
    obtain ⟨a1, rfl, l1⟩ := u32_of q1
    have l2 := i64_of q2
    exact ⟨⟨n0, a1, n2, l1, by omega⟩, rfl⟩
theorem open_dos {v : Value} {x : DataW H × List MemPlace} (hf : DataW.trod enc Try.prog w 0 sp held fuel 22 [v] = some x) : ∃ l, ArgD w v l := by
  rcases open_slice Try.underlying22 hf with ⟨hcs, _⟩ | ⟨a, len, cap, m, n, D, Pl, hcs, hb, hl, hm, hmm, hx, hel⟩
  · simp at hcs
    subst hcs
    exact ⟨[], ⟨none, 0, rfl⟩, fun h => absurd rfl h, Nat.zero_le _⟩
  · simp at hcs
    subst hcs
    have each : ∀ i, i < len → ∃ s : Stp, w.cell? (a.add (i * 3)) = some (.int .i64 s.kind) ∧ w.cell? (a.add (i * 3 + 1)) = some (.int .u32 (s.n : Int)) ∧ w.cell? (a.add (i * 3 + 2)) = some (.int .i64 s.base) := by
      intro i hi
      obtain ⟨cs', h1, h2⟩ := hel i (by rw [hmm]; split <;> omega)
      rw [zs28] at h1
      obtain ⟨_, hlen, hcell⟩ := World.cells?_some h1
      obtain ⟨s, rfl⟩ := sp_of hlen h2
      refine ⟨s, ?_, ?_, ?_⟩
      · have d := hcell 0 (by omega); rw [add_add] at d; exact d
      · have d := hcell 1 (by omega); rw [add_add] at d; exact d
      · have d := hcell 2 (by omega); rw [add_add] at d; exact d
    haveI : Inhabited Stp := ⟨⟨0, 0, 0, by decide, by decide⟩⟩
    obtain ⟨q, hq⟩ := choose_lt each
    by_cases hz : len = 0
    · subst hz
      exact ⟨[], ⟨some a, cap, rfl⟩, fun h => absurd rfl h, Nat.zero_le _⟩
    · obtain ⟨b, off, spot⟩ := a
      have hspot : spot = none := by
        have := (hq 0 (by omega)).1
        simpa [Addr.add] using World.cell?_spot this
      subst hspot
      refine ⟨(List.range len).map q, ⟨some ⟨b, off, none⟩, cap, by simp⟩, fun _ => ⟨b, off, cap, by simp, fun j hj => ?_⟩, ?_⟩
      · have hj' : j < len := by simpa using hj
        obtain ⟨h1, h2, h3⟩ := hq j hj'
        simp only [add_off] at h1 h2 h3
        simp only [List.getElem_map, List.getElem_range]
        exact ⟨h1, by rw [Nat.add_assoc]; exact h2, by rw [Nat.add_assoc]; exact h3⟩
      · rw [List.length_map, List.length_range]; exact Nat.le_trans hl hm
end Go.Proofs.Ytjgnnbbimkhjjaa
