/-
  What comes in: raw attributes that are arguments, and the table that the rows list.
-/
import Derived.Test.YtpahnebhcfpplaaGreatDoorC13
import Derived.Test.YtpahnebhcfpplaaGreatDoorRows
import Derived.WalkKit
import Derived.ProofKit
import Derived.OpenShut
import Derived.LaidSub
import Derived.MakeChecks
import Derived.SizedLaws
import Derived.Lib.SmallJoins
import Derived.Deep.SlicePairs
import Derived.Lib.LaidTab
namespace Go.Proofs.YtpahnebhcfpplaaGreatDoor
open Go.ChangeShapes Go.WideShapes Go.ChangeAt Go.RowKit Go.Joins Go.Deep Go.WideMaps Go.WideElems
theorem cs5 : Tryz.prog.cellsOf 5 = 1 := by kernel_rfl
theorem cs46 : Tryz.prog.cellsOf 46 = 3 := by kernel_rfl
theorem cs55 : Tryz.prog.cellsOf 55 = 12 := by kernel_rfl
theorem cs9 : Tryz.prog.cellsOf 9 = 1 := by kernel_rfl
theorem by46 : Tryz.prog.bytesOf 46 = 24 := by kernel_rfl
theorem add_off (b off i : Nat) : Addr.add ⟨b, off, none⟩ i = ⟨b, off + i, none⟩ := by unfold Addr.add; by_cases e : i = 0 <;> simp [e]
theorem u8_bd {n : Int} (h : (Lit.int .u8 n).wf = true) : ∃ k : Nat, n = k ∧ k < 256 := by
  have hb : 0 ≤ n ∧ n ≤ 255 := by simpa [Lit.wf, IntKind.min, IntKind.max, IntKind.signed, IntKind.bits] using h
  exact ⟨n.toNat, by omega, by omega⟩
/-- Weights are at most the reach. -/
def Small {H : Type} (t : TypeId) (d : DataW H) : Prop := ∀ x ∈ d.weights Tryz.prog t, x ≤ reachBytes
theorem list3 {α : Type} (l : List α) (h : l.length = 3) : ∃ a0 a1 a2, l = [a0, a1, a2] := by
  match l, h with
  | [a0, a1, a2], _ => exact ⟨a0, a1, a2, rfl⟩
variable {H : Type} {enc : TypeId × Value → H} {w : World} {sp : Nat → Bool} {held : Bool} {fuel : Nat}
/-- The name of the table, as the rows list it. -/
def knName : String := ((Rows.attrSplitsRow.laid.map (·.1))[0]?).getD default
theorem gKn : Tryz.prog.globalNamed knName = some 0 := by kernel_rfl
theorem tKn : (Tryz.prog.globals[0]?).map (·.type) = some 55 := by kernel_rfl
def kn12 : List Int := [1, 2, 3, 4, 5, 6, 7, 8, 9, 10, 16, 32]
theorem kn_data : (Rows.laid_herald_attr_known : DataW Unit) = Lib.tabData .u8 kn12 := by kernel_rfl
theorem kn_of {cs : Array Value} {p : List MemPlace} (h : DataW.trod (fun _ => ()) Tryz.prog w 0 sp held fuel 55 cs.toList = some (Rows.laid_herald_attr_known, p)) : cs = knownCells := by
  rw [kn_data] at h
  have := Lib.cells_of_tab Tryz.underlying55 Tryz.underlying5 cs5 cs55 h
  have e : cs = cs.toList.toArray := by simp
  rw [e, this]; rfl
theorem heap_of_var {g : Nat} {n : String} {cs : Array Value} (hg : Tryz.prog.globalNamed n = some g) (h : w.var? Tryz.prog n = some cs) : ∃ t fr, w.heap[g]? = some (.cells cs t fr) := by
  simp only [World.var?, hg, Option.bind_some] at h
  split at h
  · rename_i cs' t fr hh
    cases h
    exact ⟨t, fr, hh⟩
  · cases h
/-- What the row's list gives. -/
theorem tabs_of {l : List (String × DataW Unit)} (hl : (l.filter fun x => x.1 == knName) = [(knName, Rows.laid_herald_attr_known)])
    (hL : laidMetH Tryz.prog l w) : Tabs w := by
  have hF := hL.filter (fun x => x.1 == knName)
  rw [hl, MakeChecks.laidMetH_plain _ _ _ (by kernel_rfl)] at hF
  obtain ⟨ps, ⟨g0, t0, cs0, f0, p0, q0, hg0, ht0, hv0, hd0, _, _⟩, _, _⟩ := hF
  obtain rfl := Option.some.inj (gKn.symm.trans hg0)
  obtain rfl := Option.some.inj (tKn.symm.trans ht0)
  obtain rfl := kn_of hd0
  exact heap_of_var gKn hv0
end Go.Proofs.YtpahnebhcfpplaaGreatDoor
