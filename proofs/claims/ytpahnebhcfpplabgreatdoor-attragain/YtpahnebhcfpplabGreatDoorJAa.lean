/-
  Raw attributes that come in.
-/
import Derived.Test.YtpahnebhcfpplabGreatDoorB6
import Derived.Test.YtpahnebhcfpplabGreatDoorRows
import Derived.WalkKit
import Derived.ProofKit
import Derived.OpenShut
import Derived.LaidSub
import Derived.MakeChecks
import Derived.SizedLaws
import Derived.Lib.SmallJoins
import Derived.Deep.SlicePairs
import Derived.Lib.LaidTab
import Derived.Test.YtpahnebhcfpplabGreatDoorCards
import Derived.Test.YtpahnebhcfpplabGreatDoorTie
import Derived.Deep.DeepHandedRow
import Derived.Deep.DeepWitnessRowRef
import Derived.LaidMore
import Derived.ShutString
import Derived.ChangeOld
import Derived.Carry
namespace Go.Proofs.YtpahnebhcfpplabGreatDoor
open Go.ChangeShapes Go.WideShapes Go.ChangeAt Go.RowKit Go.Joins Go.Deep Go.WideMaps Go.WideElems
theorem cs5 : Tryz.prog.cellsOf 5 = 1 := by kernel_rfl
theorem cs46 : Tryz.prog.cellsOf 30 = 3 := by kernel_rfl
theorem cs55 : Tryz.prog.cellsOf 80 = 12 := by kernel_rfl
theorem cs9 : Tryz.prog.cellsOf 9 = 1 := by kernel_rfl
theorem by46 : Tryz.prog.bytesOf 30 = 24 := by kernel_rfl
theorem add_off (b off i : Nat) : Addr.add ⟨b, off, none⟩ i = ⟨b, off + i, none⟩ := by unfold Addr.add; by_cases e : i = 0 <;> simp [e]
theorem u8_bd {n : Int} (h : (Lit.int .u8 n).wf = true) : ∃ k : Nat, n = k ∧ k < 256 := by
  have hb : 0 ≤ n ∧ n ≤ 255 := by simpa [Lit.wf, IntKind.min, IntKind.max, IntKind.signed, IntKind.bits] using h
  exact ⟨n.toNat, by omega, by omega⟩
/-- Weights are at most the reach. -/
def Small {H : Type} (t : TypeId) (d : DataW H) : Prop := ∀ x ∈ d.weights Tryz.prog t, x ≤ reachBytes
theorem list3 {α : Type} (l : List α) (h : l.length = 3) : ∃ a0 a1 a2, l = [a0, a1, a2] := by
  match l, h with
  | [a0, a1, a2], _ => exact ⟨a0, a1, a2, rfl⟩
variable {H : Type} {enc : TypeId × Value → H} {w : World} {sp : Nat → Bool} {held : Bool} {fuel : Nat}
/-- The name of the table, as the rows list it. -/
def knName : String := ((Rows.attrAgainRow.laid.map (·.1))[0]?).getD default
theorem gKn : Tryz.prog.globalNamed knName = some 0 := by kernel_rfl
theorem tKn : (Tryz.prog.globals[0]?).map (·.type) = some 80 := by kernel_rfl
def kn12 : List Int := [1, 2, 3, 4, 5, 6, 7, 8, 9, 10, 16, 32]
theorem kn_data : (Rows.laid_herald_attr_known : DataW Unit) = Lib.tabData .u8 kn12 := by kernel_rfl
theorem kn_of {cs : Array Value} {p : List MemPlace} (h : DataW.trod (fun _ => ()) Tryz.prog w 0 sp held fuel 80 cs.toList = some (Rows.laid_herald_attr_known, p)) : cs = knownCells := by
  rw [kn_data] at h
  have := Lib.cells_of_tab Tryz.underlying80 Tryz.underlying5 cs5 cs55 h
  have e : cs = cs.toList.toArray := by simp
  rw [e, this]; rfl
theorem heap_of_var {g : Nat} {n : String} {cs : Array Value} (hg : Tryz.prog.globalNamed n = some g) (h : w.var? Tryz.prog n = some cs) : ∃ t fr, w.heap[g]? = some (.cells cs t fr) := by
  simp only [World.var?, hg, Option.bind_some] at h
  split at h
  · rename_i cs' t fr hh
    cases h
    exact ⟨t, fr, hh⟩
  · cases h
/-- What the row's list gives. -/
theorem tabs_of {l : List (String × DataW Unit)} (hl : (l.filter fun x => x.1 == knName) = [(knName, Rows.laid_herald_attr_known)])
    (hL : laidMetH Tryz.prog l w) : Tabs w := by
  have hF := hL.filter (fun x => x.1 == knName)
  rw [hl, MakeChecks.laidMetH_plain _ _ _ (by kernel_rfl)] at hF
  obtain ⟨ps, ⟨g0, t0, cs0, f0, p0, q0, hg0, ht0, hv0, hd0, _, _⟩, _, _⟩ := hF
  obtain rfl := Option.some.inj (gKn.symm.trans hg0)
  obtain rfl := Option.some.inj (tKn.symm.trans ht0)
  obtain rfl := kn_of hd0
  exact heap_of_var gKn hv0
end Go.Proofs.YtpahnebhcfpplabGreatDoor
namespace Go.Proofs.YtpahnebhcfpplabGreatDoor
open Go.ChangeShapes Go.WideShapes Go.ChangeAt Go.RowKit
set_option maxRecDepth 100000 in
theorem laid_metL (os : Os) (args : Array Value) : laidMet Tryz.prog Rows.attrAgainRow.laid ((World.doorLaid Tryz.prog 100 os).forCall (fun _ _ => 0) ⟨#[], args, []⟩).memory :=
  laidMet_of_run' 8 (by kernel_rfl) (by kernel_rfl)
end Go.Proofs.YtpahnebhcfpplabGreatDoor
namespace Go.Proofs.YtpahnebhcfpplabGreatDoor
open Go.ChangeShapes Go.WideShapes Go.ChangeAt Go.RowKit Go.Lib Go.Joins Go.Deep
theorem own : ownKnob Tryz.prog.godebug = none := by kernel_rfl
theorem laidOut : laidOutB Tryz.prog = true := by kernel_rfl
/-- The weights of the arguments. -/
theorem small_each {H : Type} {ts : List TypeId} {ds : List (DataW H)} (h : (DataW.weightsEach Tryz.prog ts ds).all (· ≤ reachBytes) = true) (j : Nat) (t : TypeId) (d : DataW H) (ht : ts[j]? = some t) (hd : ds[j]? = some d) : Small t d := by
  induction ts generalizing ds j with
  | nil => simp at ht
  | cons t0 ts ih =>
    cases ds with
    | nil => simp at hd
    | cons d0 ds =>
      simp only [DataW.weightsEach, List.all_append, Bool.and_eq_true] at h
      cases j with
      | zero =>
        simp at ht hd
        subst ht hd
        intro x hx
        have := List.all_eq_true.mp h.1 x hx
        simpa using this
      | succ j => exact ih h.2 j (by simpa using ht) (by simpa using hd)
theorem st30 : Tryz.prog.wantsStandIn 22 = false := by kernel_rfl
theorem st4 : Tryz.prog.wantsStandIn 4 = false := by kernel_rfl
theorem st9 : Tryz.prog.wantsStandIn 9 = false := by kernel_rfl
theorem looksOff : false = Tryz.pinned.checked.prog.looks [] := by kernel_rfl
end Go.Proofs.YtpahnebhcfpplabGreatDoor
namespace Go.Proofs.YtpahnebhcfpplabGreatDoor
open Go.ChangeShapes Go.WideShapes Go.ChangeAt Go.RowKit Go.Joins Go.Deep Go.WideMaps Go.WideElems
theorem small_part {H : Type} {e : TypeId} {ds : List (DataW H)} {d : DataW H} (h : ∀ x ∈ DataW.weightsAll Tryz.prog e ds, x ≤ reachBytes) (hd : d ∈ ds) : Small e d := by
  induction ds with
  | nil => simp at hd
  | cons c ds ih =>
    intro x hx
    rcases List.mem_cons.mp hd with rfl | hd
    · exact h x (by simp only [DataW.weightsAll, List.mem_append]; exact Or.inl hx)
    · exact ih (fun y hy => h y (by simp only [DataW.weightsAll, List.mem_append]; exact Or.inr hy)) hd x hx
variable {H : Type} {enc : TypeId × Value → H} {w : World} {sp : Nat → Bool} {held : Bool} {fuel : Nat}
theorem open_raws {v : Value} {x : DataW H × List MemPlace} (hf : DataW.trod enc Tryz.prog w 0 sp held fuel 22 [v] = some x) (hs : Small 22 x.1) : ∃ l, RawsAt w v l := by
  rcases open_slice Tryz.underlying22 hf with ⟨hcs, _⟩ | ⟨a, len, cap, m, n, D, Pl, hcs, hb, hl, hm, hmm, hx, hel⟩
  · simp at hcs
    subst hcs
    exact ⟨[], none, 0, 0, 0, rfl, Or.inr rfl, by simp, fun j hj => by simp at hj⟩
  · simp at hcs
    subst hcs
    have hw : len ≤ 35184372088832 := by
      have h := hs ((len + (m - len)) * 24) (by rw [hx]; simp [DataW.weights, Tryz.underlying22, by46])
      simp only [reachBytes] at h
      omega
    have each : ∀ i, i < len → ∃ q : Rw, (w.cell? (a.add (i * 3)) = some (.int .u8 (q.1 : Int)) ∧ w.cell? (a.add (i * 3 + 1)) = some (.int .u8 (q.2.1 : Int)) ∧ w.cell? (a.add (i * 3 + 2)) = some (.string q.2.2)) ∧ q.1 < 256 ∧ q.2.1 < 256 ∧ q.2.2.size ≤ 4611686018427387904 := by
      intro i hi
      obtain ⟨cs', h1, h2⟩ := hel i (by rw [hmm]; split <;> omega)
      rw [cs46] at h1
      obtain ⟨_, hlen, hcell⟩ := World.cells?_some h1
      obtain ⟨y0, y1, y2, k, hD, _, g0, g1, g2⟩ := trod_struct3 Tryz.underlying30 h2
      obtain ⟨v0, v1, v2, rfl⟩ := list3 cs' hlen
      · simp [cs5, cs9] at g0 g1 g2
        obtain ⟨z0, e0, _, wf0⟩ := DataW.trod_int (k := .u8) Tryz.underlying5 g0
        obtain ⟨z1, e1, _, wf1⟩ := DataW.trod_int (k := .u8) Tryz.underlying5 g1
        obtain ⟨s2, e2, r2, _⟩ := DataW.trod_string Tryz.underlying9 g2
        simp at e0 e1 e2
        obtain ⟨k0, rfl, hk0⟩ := u8_bd wf0
        obtain ⟨k1, rfl, hk1⟩ := u8_bd wf1
        have hss : s2.size ≤ 4611686018427387904 := by
          have hsm : Small 30 (D i) := small_part (ds := (List.range len).map D) (fun y hy => hs y (by rw [hx]; simp only [DataW.weights, Tryz.underlying22, List.mem_cons, List.mem_append]; exact Or.inr (Or.inl hy))) (List.mem_map.mpr ⟨i, by simpa using hi, rfl⟩)
          simp only [Prod.mk.injEq] at hD
          have h := hsm s2.data.toList.length (by rw [hD.1, r2]; simp [DataW.weights, DataW.weightsEach, Tryz.underlying30])
          have e : s2.data.toList.length = s2.size := Array.length_toList
          simp only [reachBytes] at h
          omega
        have d0 := hcell 0 (by omega)
        have d1 := hcell 1 (by omega)
        have d2 := hcell 2 (by omega)
        rw [add_add] at d0 d1 d2
        exact ⟨(k0, k1, s2), ⟨by simpa [e0] using d0, by simpa [e1] using d1, by simpa [e2] using d2⟩, hk0, hk1, hss⟩
    obtain ⟨q, hq⟩ := choose_lt each
    by_cases hz : len = 0
    · subst hz
      exact ⟨[], some a, 0, 0, cap, rfl, Or.inr rfl, by simp, fun j hj => by simp at hj⟩
    · obtain ⟨b, off, spot⟩ := a
      have hspot : spot = none := by
        have := (hq 0 (by omega)).1.1
        simpa [Addr.add] using World.cell?_spot this
      subst hspot
      refine ⟨(List.range len).map q, some ⟨b, off, none⟩, b, off, cap, by simp, Or.inl rfl, by simp; omega, fun j hj => ?_⟩
      have hj' : j < len := by simpa using hj
      have := hq j hj'
      simp only [add_off] at this
      simpa [Nat.add_assoc] using this
end Go.Proofs.YtpahnebhcfpplabGreatDoor
