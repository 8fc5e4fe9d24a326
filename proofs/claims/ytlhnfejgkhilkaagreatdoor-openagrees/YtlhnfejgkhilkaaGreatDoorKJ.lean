/-
  A world that meets what the rows list: the one that the door's own run leaves.
-/
import Derived.Test.YtlhnfejgkhilkaaGreatDoorCards
import Derived.Test.YtlhnfejgkhilkaaGreatDoorTie
import Derived.WalkKit
import Derived.ProofKit
import Derived.OpenShut
import Derived.Deep.DeepHandedRow
import Derived.Deep.DeepWitnessRowRef
import Derived.Lib.LaidTab
import Derived.LaidMore
import Derived.Test.YtlhnfejgkhilkaaGreatDoorA0
import Derived.Test.YtlhnfejgkhilkaaGreatDoorRows
import Derived.LaidSub
import Derived.MakeChecks
import Derived.Deep.Strs
import Derived.Lib.SmallJoins
import Derived.ShutString
import Derived.ChangeOld
import Derived.Below
import Derived.Carry
import Derived.Deep.SlicePairs
namespace Go.Proofs.YtlhnfejgkhilkaaGreatDoor
open Go.ChangeShapes Go.WideShapes Go.ChangeAt Go.RowKit
set_option maxRecDepth 100000 in
theorem laid_met (os : Os) (args : Array Value) : laidMet Tryz.prog Rows.openAgreesRow.laid ((World.doorLaid Tryz.prog 100 os).forCall (fun _ _ => 0) ⟨#[], args, []⟩).memory :=
  laidMet_of_run' 8 (by kernel_rfl) (by kernel_rfl)
end Go.Proofs.YtlhnfejgkhilkaaGreatDoor

namespace Go.Proofs.YtlhnfejgkhilkaaGreatDoor
open Go.ChangeShapes Go.WideShapes Go.ChangeAt Go.RowKit Go.Joins Go.Deep Go.WideMaps Go.WideElems
variable {H : Type} {enc : TypeId × Value → H} {W : World} {sp : Nat → Bool} {held : Bool} {fuel : Nat} {x : DataW H × List MemPlace}
theorem cells49 : Tryz.prog.cellsOf 133 = 3 := by kernel_rfl
theorem cells50 : Tryz.prog.cellsOf 134 = 18 := by kernel_rfl
theorem cells9 : Tryz.prog.cellsOf 9 = 1 := by kernel_rfl
theorem cells3 : Tryz.prog.cellsOf 3 = 1 := by kernel_rfl
theorem cells4 : Tryz.prog.cellsOf 4 = 1 := by kernel_rfl
theorem fam_row {c0 c1 c2 : Value} (h : DataW.trod enc Tryz.prog W 0 sp held fuel 133 [c0, c1, c2] = some x) :
    ∃ s n b, c0 = .string s ∧ c1 = .int .i64 n ∧ c2 = .bool b ∧ x.1 = .agg [.lit (.string s.data.toList), .lit (.int .i64 n), .lit (.bool b)] := by
  obtain ⟨y0, y1, y2, n, hx, _, h0, h1, h2⟩ := trod_struct3 Tryz.underlying133 h
  simp [cells9, cells3, cells4] at h0 h1 h2
  obtain ⟨s, e0, rfl, _⟩ := DataW.trod_string Tryz.underlying9 h0
  obtain ⟨k, e1, rfl, _⟩ := DataW.trod_int Tryz.underlying3 h1
  obtain ⟨b, e2, rfl⟩ := DataW.trod_bool Tryz.underlying4 h2
  simp at e0 e1 e2
  exact ⟨s, k, b, e0, e1, e2, by rw [hx]⟩
theorem bytes_of {s : ByteArray} {l : List UInt8} (h : s.data.toList = l) : s = ⟨l.toArray⟩ := by
  subst h; cases s; simp
theorem list6 {α : Type} (l : List α) (h : l.length = 6) : ∃ a0 a1 a2 a3 a4 a5, l = [a0, a1, a2, a3, a4, a5] := by
  obtain _ | ⟨a0, l⟩ := l
  · simp at h
  obtain _ | ⟨a1, l⟩ := l
  · simp at h
  obtain _ | ⟨a2, l⟩ := l
  · simp at h
  obtain _ | ⟨a3, l⟩ := l
  · simp at h
  obtain _ | ⟨a4, l⟩ := l
  · simp at h
  obtain _ | ⟨a5, l⟩ := l
  · simp at h
  obtain _ | ⟨b, l⟩ := l
  · exact ⟨a0, a1, a2, a3, a4, a5, rfl⟩
  · simp at h
theorem list18 {α : Type} (l : List α) (h : l.length = 18) : ∃ a0 a1 a2 a3 a4 a5 a6 a7 a8 a9 a10 a11 a12 a13 a14 a15 a16 a17, l = [a0, a1, a2, a3, a4, a5, a6, a7, a8, a9, a10, a11, a12, a13, a14, a15, a16, a17] := by
  obtain _ | ⟨a0, l⟩ := l
  · simp at h
  obtain _ | ⟨a1, l⟩ := l
  · simp at h
  obtain _ | ⟨a2, l⟩ := l
  · simp at h
  obtain _ | ⟨a3, l⟩ := l
  · simp at h
  obtain _ | ⟨a4, l⟩ := l
  · simp at h
  obtain _ | ⟨a5, l⟩ := l
  · simp at h
  obtain _ | ⟨a6, l⟩ := l
  · simp at h
  obtain _ | ⟨a7, l⟩ := l
  · simp at h
  obtain _ | ⟨a8, l⟩ := l
  · simp at h
  obtain _ | ⟨a9, l⟩ := l
  · simp at h
  obtain _ | ⟨a10, l⟩ := l
  · simp at h
  obtain _ | ⟨a11, l⟩ := l
  · simp at h
  obtain _ | ⟨a12, l⟩ := l
  · simp at h
  obtain _ | ⟨a13, l⟩ := l
  · simp at h
  obtain _ | ⟨a14, l⟩ := l
  · simp at h
  obtain _ | ⟨a15, l⟩ := l
  · simp at h
  obtain _ | ⟨a16, l⟩ := l
  · simp at h
  obtain _ | ⟨a17, l⟩ := l
  · simp at h
  obtain _ | ⟨b, l⟩ := l
  · exact ⟨a0, a1, a2, a3, a4, a5, a6, a7, a8, a9, a10, a11, a12, a13, a14, a15, a16, a17, rfl⟩
  · simp at h
theorem fam_of {cs : Array Value} {p : List MemPlace} (h : DataW.trod (fun _ => ()) Tryz.prog W 0 sp held fuel 134 cs.toList = some (Rows.laid_herald_prim_families, p)) : cs = famCells := by
  obtain ⟨xs, m, rfl, hx, hlen, hn, hel⟩ := DataW.trod_array Tryz.underlying134 h
  obtain ⟨l⟩ := cs
  rw [cells50] at hlen
  rw [cells49] at hel
  simp only [Prod.mk.injEq] at hx
  obtain ⟨hx, _⟩ := hx
  obtain ⟨c0, c1, c2, c3, c4, c5, c6, c7, c8, c9, c10, c11, c12, c13, c14, c15, c16, c17, e⟩ := list18 l hlen
  have e' : l = [c0, c1, c2, c3, c4, c5, c6, c7, c8, c9, c10, c11, c12, c13, c14, c15, c16, c17] := e
  subst e'
  obtain ⟨x0, x1, x2, x3, x4, x5, e2⟩ := list6 xs hn
  subst e2
  obtain ⟨s0, n0, b0, rfl, rfl, rfl, k0⟩ := fam_row (x := x0) (hel 0 (by decide))
  obtain ⟨s1, n1, b1, rfl, rfl, rfl, k1⟩ := fam_row (x := x1) (hel 1 (by decide))
  obtain ⟨s2, n2, b2, rfl, rfl, rfl, k2⟩ := fam_row (x := x2) (hel 2 (by decide))
  obtain ⟨s3, n3, b3, rfl, rfl, rfl, k3⟩ := fam_row (x := x3) (hel 3 (by decide))
  obtain ⟨s4, n4, b4, rfl, rfl, rfl, k4⟩ := fam_row (x := x4) (hel 4 (by decide))
  obtain ⟨s5, n5, b5, rfl, rfl, rfl, k5⟩ := fam_row (x := x5) (hel 5 (by decide))
  simp only [List.map_cons, List.map_nil, k0, k1, k2, k3, k4, k5, Rows.laid_herald_prim_families, DataW.agg.injEq, List.cons.injEq, DataW.lit.injEq, Lit.string.injEq, Lit.int.injEq, Lit.bool.injEq, and_true, true_and] at hx
  obtain ⟨⟨a0, rfl, rfl⟩, ⟨a1, rfl, rfl⟩, ⟨a2, rfl, rfl⟩, ⟨a3, rfl, rfl⟩, ⟨a4, rfl, rfl⟩, ⟨a5, rfl, rfl⟩⟩ := hx
  obtain rfl := bytes_of a0.symm
  obtain rfl := bytes_of a1.symm
  obtain rfl := bytes_of a2.symm
  obtain rfl := bytes_of a3.symm
  obtain rfl := bytes_of a4.symm
  obtain rfl := bytes_of a5.symm
  rfl
/-- The name of the table, as the rows list it. -/
def famName : String := ((Rows.openAgreesRow.laid.map (·.1))[0]?).getD default
theorem gFam : Tryz.prog.globalNamed famName = some 0 := by kernel_rfl
theorem tFam : (Tryz.prog.globals[0]?).map (·.type) = some 134 := by kernel_rfl
theorem heap_of_var {g : Nat} {n : String} {cs : Array Value} (hg : Tryz.prog.globalNamed n = some g) (h : W.var? Tryz.prog n = some cs) : ∃ t fr, W.heap[g]? = some (.cells cs t fr) := by
  simp only [World.var?, hg, Option.bind_some] at h
  split at h
  · rename_i cs' t fr hh
    cases h
    exact ⟨t, fr, hh⟩
  · cases h
theorem tb_of_fam (h : ∃ t fr, W.heap[0]? = some (.cells famCells t fr)) : FamSizes W := by
  obtain ⟨t, fr, h⟩ := h
  constructor <;> simp [World.cell?, h, famCells]
/-- What the row's list gives. -/
theorem tabs_of {l : List (String × DataW Unit)} (hl : (l.filter fun x => x.1 == famName) = [(famName, Rows.laid_herald_prim_families)])
    (hL : laidMetH Tryz.prog l W) : FamSizes W := by
  have hF := hL.filter (fun x => x.1 == famName)
  rw [hl, MakeChecks.laidMetH_plain _ _ _ (by kernel_rfl)] at hF
  obtain ⟨ps, ⟨g0, t0, cs0, f0, p0, q0, hg0, ht0, hv0, hd0, _, _⟩, _, _⟩ := hF
  obtain rfl := Option.some.inj (gFam.symm.trans hg0)
  obtain rfl := Option.some.inj (tFam.symm.trans ht0)
  obtain rfl := fam_of hd0
  exact tb_of_fam (heap_of_var gFam hv0)
end Go.Proofs.YtlhnfejgkhilkaaGreatDoor

namespace Go.Proofs.YtlhnfejgkhilkaaGreatDoor
open Go.ChangeShapes Go.WideShapes Go.ChangeAt Go.RowKit Go.Lib Go.Joins Go.Deep
theorem own : ownKnob Tryz.prog.godebug = none := by kernel_rfl
theorem laidOut : laidOutB Tryz.prog = true := by kernel_rfl
theorem looksOff : false = Tryz.pinned.checked.prog.looks [] := by kernel_rfl
theorem st9 : Tryz.prog.wantsStandIn 9 = false := by kernel_rfl
theorem st4 : Tryz.prog.wantsStandIn 4 = false := by kernel_rfl
theorem st27 : Tryz.prog.wantsStandIn 27 = false := by kernel_rfl
end Go.Proofs.YtlhnfejgkhilkaaGreatDoor
