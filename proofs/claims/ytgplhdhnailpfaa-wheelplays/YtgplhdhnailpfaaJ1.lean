/-
  Timers by small numbers that come in as an argument.
-/
import Derived.Test.YtgplhdhnailpfaaG1
import Derived.ProofKit
import Derived.OpenShut
import Derived.ShutString
import Derived.ChangeOld
import Derived.Deep.SlicePairs
import Derived.Deep.Strs
namespace Go.Proofs.Ytgplhdhnailpfaa
open Go.ChangeShapes Go.WideShapes Go.ChangeAt Go.RowKit Go.Deep Go.WideMaps Go.WideElems
theorem own : ownKnob Try.prog.godebug = none := by kernel_rfl
theorem zs74 : Try.prog.cellsOf 74 = 4 := by kernel_rfl
theorem zs5 : Try.prog.cellsOf 5 = 1 := by kernel_rfl
theorem add_off (b off i : Nat) : Addr.add ⟨b, off, none⟩ i = ⟨b, off + i, none⟩ := by unfold Addr.add; by_cases e : i = 0 <;> simp [e]
theorem u8_of {n : Int} (h : (Lit.int .u8 n).wf = true) : ∃ a : Nat, n = (a : Int) ∧ a < 256 := by
  have hx : 0 ≤ n ∧ n ≤ 255 := by simpa [Lit.wf, IntKind.min, IntKind.max, IntKind.signed, IntKind.bits] using h
  exact ⟨n.toNat, by omega, by omega⟩
variable {H : Type} {enc : TypeId × Value → H} {w : World} {sp : Nat → Bool} {held : Bool} {fuel : Nat}
theorem trod_struct4 {P : Program} {base : Nat} {t : TypeId} {f0 f1 f2 f3 : Field} {cs : List Value} {x : DataW H × List MemPlace} (ht : P.underlying t = some (.struct #[f0, f1, f2, f3])) (h : DataW.trod enc P w base sp held fuel t cs = some x) :
    ∃ y0 y1 y2 y3 n, DataW.trod enc P w base sp held n f0.type ((cs.drop f0.offset).take (P.cellsOf f0.type)) = some y0 ∧ DataW.trod enc P w base sp held n f1.type ((cs.drop f1.offset).take (P.cellsOf f1.type)) = some y1 ∧ DataW.trod enc P w base sp held n f2.type ((cs.drop f2.offset).take (P.cellsOf f2.type)) = some y2 ∧
      DataW.trod enc P w base sp held n f3.type ((cs.drop f3.offset).take (P.cellsOf f3.type)) = some y3 := by
  obtain ⟨xs, n, _, rfl, hl, hlen, hf⟩ := DataW.trod_struct ht h
  match xs, hlen with
  | [y0, y1, y2, y3], _ => exact ⟨y0, y1, y2, y3, n, by simpa using hf 0 f0 rfl, by simpa using hf 1 f1 rfl, by simpa using hf 2 f2 rfl, by simpa using hf 3 f3 rfl⟩
set_option maxRecDepth 100000 in
theorem st_of {base : Nat} {cs : List Value} {x : DataW H × List MemPlace} (hl : cs.length = 4) (h : DataW.trod enc Try.prog w base sp held fuel 74 cs = some x) : ∃ s : St, cs = [.int .u8 (s.kind : Int), .int .u8 (s.peer : Int), .int .u8 (s.fam : Int), .int .u8 (s.tick : Int)] := by
  match cs, hl with
  | [c0, c1, c2, c3], _ =>
    obtain ⟨y0, y1, y2, y3, n, h0, h1, h2, h3⟩ := trod_struct4 Try.underlying74 h
    simp only [zs5, List.drop_zero, List.drop_succ_cons, List.take_succ_cons, List.take_zero] at h0 h1 h2 h3
    obtain ⟨n0, e0, _, q0⟩ := DataW.trod_int (k := .u8) Try.underlying5 h0
    obtain ⟨n1, e1, _, q1⟩ := DataW.trod_int (k := .u8) Try.underlying5 h1
    obtain ⟨n2, e2, _, q2⟩ := DataW.trod_int (k := .u8) Try.underlying5 h2
    obtain ⟨n3, e3, _, q3⟩ := DataW.trod_int (k := .u8) Try.underlying5 h3
    simp only [List.cons.injEq, and_true] at e0 e1 e2 e3
    subst e0 e1 e2 e3
    obtain ⟨a0, rfl, l0⟩ := u8_of q0
    obtain ⟨a1, rfl, l1⟩ := u8_of q1
    obtain ⟨a2, rfl, l2⟩ := u8_of q2
    obtain ⟨a3, rfl, l3⟩ := u8_of q3
    exact ⟨⟨a0, a1, a2, a3, l0, l1, l2, l3⟩, rfl⟩
theorem open_sets {v : Value} {x : DataW H × List MemPlace} (hf : DataW.trod enc Try.prog w 0 sp held fuel 52 [v] = some x) : ∃ l, ArgS w v l := by
  rcases open_slice Try.underlying52 hf with ⟨hcs, _⟩ | ⟨a, len, cap, m, n, D, Pl, hcs, hb, hl, hm, hmm, hx, hel⟩
  · simp at hcs
    subst hcs
    exact ⟨[], ⟨none, 0, rfl⟩, fun h => absurd rfl h, Nat.zero_le _⟩
  · simp at hcs
    subst hcs
    have each : ∀ i, i < len → ∃ s : St, w.cell? (a.add (i * 4)) = some (.int .u8 (s.kind : Int)) ∧ w.cell? (a.add (i * 4 + 1)) = some (.int .u8 (s.peer : Int)) ∧ w.cell? (a.add (i * 4 + 2)) = some (.int .u8 (s.fam : Int)) ∧ w.cell? (a.add (i * 4 + 3)) = some (.int .u8 (s.tick : Int)) := by
      intro i hi
      obtain ⟨cs', h1, h2⟩ := hel i (by rw [hmm]; split <;> omega)
      rw [zs74] at h1
      obtain ⟨_, hlen, hcell⟩ := World.cells?_some h1
      obtain ⟨s, rfl⟩ := st_of hlen h2
      refine ⟨s, ?_, ?_, ?_, ?_⟩
      · have d := hcell 0 (by omega); rw [add_add] at d; exact d
      · have d := hcell 1 (by omega); rw [add_add] at d; exact d
      · have d := hcell 2 (by omega); rw [add_add] at d; exact d
      · have d := hcell 3 (by omega); rw [add_add] at d; exact d
    haveI : Inhabited St := ⟨⟨0, 0, 0, 0, by decide⟩⟩
    obtain ⟨q, hq⟩ := choose_lt each
    by_cases hz : len = 0
    · subst hz
      exact ⟨[], ⟨some a, cap, rfl⟩, fun h => absurd rfl h, Nat.zero_le _⟩
    · obtain ⟨b, off, spot⟩ := a
      have hspot : spot = none := by
        have := (hq 0 (by omega)).1
        simpa [Addr.add] using World.cell?_spot this
      subst hspot
      refine ⟨(List.range len).map q, ⟨some ⟨b, off, none⟩, cap, by simp⟩, fun _ => ⟨b, off, cap, by simp, ⟨fun j hj => ?_⟩⟩, ?_⟩
      · have hj' : j < len := by simpa using hj
        obtain ⟨h1, h2, h3, h4⟩ := hq j hj'
        simp only [add_off] at h1 h2 h3 h4
        simp only [List.getElem_map, List.getElem_range]
        exact ⟨h1, by rw [Nat.add_assoc]; exact h2, by rw [Nat.add_assoc]; exact h3, by rw [Nat.add_assoc]; exact h4⟩
      · rw [List.length_map, List.length_range]; exact Nat.le_trans hl hm
end Go.Proofs.Ytgplhdhnailpfaa
