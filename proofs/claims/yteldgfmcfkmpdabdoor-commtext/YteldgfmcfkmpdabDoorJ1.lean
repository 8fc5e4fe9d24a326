/-
  What comes in: lists of communities that are arguments, and the tables that the rows list.
-/
import Derived.Test.YteldgfmcfkmpdabDoorP2
import Derived.Shelf.Strings.Shaped
import Derived.Test.YteldgfmcfkmpdabDoorRows
import Derived.WalkKit
import Derived.ProofKit
import Derived.OpenShut
import Derived.LaidSub
import Derived.MakeChecks
import Derived.SizedLaws
import Derived.Lib.SmallJoins
import Derived.Deep.SlicePairs
import Derived.Lib.LaidTab
namespace Go.Proofs.YteldgfmcfkmpdabDoor
open Go.ChangeShapes Go.WideShapes Go.ChangeAt Go.RowKit Go.Joins Go.Deep Go.WideMaps Go.WideElems
theorem cs23 : Tryd.prog.cellsOf 22 = 1 := by kernel_rfl
theorem cs74 : Tryd.prog.cellsOf 29 = 2 := by kernel_rfl
theorem cs75 : Tryd.prog.cellsOf 30 = 6 := by kernel_rfl
theorem cs42 : Tryd.prog.cellsOf 33 = 1 := by kernel_rfl
theorem cs9 : Tryd.prog.cellsOf 9 = 1 := by kernel_rfl
theorem add_off (b off i : Nat) : Addr.add ⟨b, off, none⟩ i = ⟨b, off + i, none⟩ := by unfold Addr.add; by_cases e : i = 0 <;> simp [e]
theorem u32_bd {n : Int} (h : (Lit.int .u32 n).wf = true) : ∃ k : Nat, n = k ∧ k < 4294967296 := by
  have hb : 0 ≤ n ∧ n ≤ 4294967295 := by simpa [Lit.wf, IntKind.min, IntKind.max, IntKind.signed, IntKind.bits] using h
  exact ⟨n.toNat, by omega, by omega⟩
/-- Weights are at most the reach. -/
def Small {H : Type} (t : TypeId) (d : DataW H) : Prop := ∀ x ∈ d.weights Tryd.prog t, x ≤ reachBytes
theorem list3 {α : Type} (l : List α) (h : l.length = 3) : ∃ a0 a1 a2, l = [a0, a1, a2] := by
  match l, h with
  | [a0, a1, a2], _ => exact ⟨a0, a1, a2, rfl⟩
variable {H : Type} {enc : TypeId × Value → H} {w : World} {sp : Nat → Bool} {held : Bool} {fuel : Nat}
/-- The names of the two tables, as the rows list them. -/
def powName : String := ((Rows.commTextRow.laid.map (·.1))[2]?).getD default
def nmsName : String := ((Rows.commTextRow.laid.map (·.1))[5]?).getD default
theorem gPow : Tryd.prog.globalNamed powName = some 4 := by kernel_rfl
theorem gNms : Tryd.prog.globalNamed nmsName = some 0 := by kernel_rfl
theorem tPow : (Tryd.prog.globals[4]?).map (·.type) = some 101 := by kernel_rfl
theorem tNms : (Tryd.prog.globals[0]?).map (·.type) = some 30 := by kernel_rfl
theorem cs173 : Tryd.prog.cellsOf 101 = 20 := by kernel_rfl
theorem bytes_of {s : ByteArray} {l : List UInt8} (h : s.data.toList = l) : s = ⟨l.toArray⟩ := by
  subst h; cases s; simp
theorem list6 {α : Type} (l : List α) (h : l.length = 6) : ∃ a0 a1 a2 a3 a4 a5, l = [a0, a1, a2, a3, a4, a5] := by
  match l, h with
  | [a0, a1, a2, a3, a4, a5], _ => exact ⟨a0, a1, a2, a3, a4, a5, rfl⟩
theorem pair_of {u v : Value} {x : DataW Unit × List MemPlace} {n : Nat} (h : DataW.trod (fun _ => ()) Tryd.prog w 0 sp held n 29 [u, v] = some x) : ∃ (z : Int) (s : ByteArray), u = .int .u32 z ∧ v = .string s ∧ x.1 = .agg [.lit (.int .u32 z), .lit (.string s.data.toList)] := by
  obtain ⟨y0, y1, k, hx, _, g0, g1⟩ := trod_struct2 Tryd.underlying29 h
  simp [cs23, cs9] at g0 g1
  obtain ⟨z, e0, r0, _⟩ := DataW.trod_int (k := .u32) Tryd.underlying22 g0
  obtain ⟨s, e1, r1, _⟩ := DataW.trod_string Tryd.underlying9 g1
  simp at e0 e1
  exact ⟨z, s, e0, e1, by rw [hx, r0, r1]⟩
theorem nms_of {cs : Array Value} {p : List MemPlace} (h : DataW.trod (fun _ => ()) Tryd.prog w 0 sp held fuel 30 cs.toList = some (Rows.laid_herald_comm_names, p)) : cs = nameCells := by
  obtain ⟨xs, m, rfl, hx, hlen, hn, hel⟩ := DataW.trod_array Tryd.underlying30 h
  obtain ⟨l⟩ := cs
  rw [cs75] at hlen
  rw [cs74] at hel
  simp only [Prod.mk.injEq] at hx
  obtain ⟨hx, _⟩ := hx
  obtain ⟨c0, c1, c2, c3, c4, c5, e⟩ := list6 l hlen
  have e' : l = [c0, c1, c2, c3, c4, c5] := e
  subst e'
  obtain ⟨x0, x1, x2, e2⟩ := list3 xs hn
  subst e2
  obtain ⟨z0, s0, r0, t0, k0⟩ := pair_of (hel 0 (by decide))
  obtain ⟨z1, s1, r1, t1, k1⟩ := pair_of (hel 1 (by decide))
  obtain ⟨z2, s2, r2, t2, k2⟩ := pair_of (hel 2 (by decide))
  subst r0 r1 r2 t0 t1 t2
  simp only [List.map_cons, List.map_nil, k0, k1, k2, Rows.laid_herald_comm_names, DataW.agg.injEq, List.cons.injEq, DataW.lit.injEq, Lit.string.injEq, Lit.int.injEq, and_true, true_and] at hx
  obtain ⟨⟨a0, b0⟩, ⟨a1, b1⟩, ⟨a2, b2⟩⟩ := hx
  subst a0 a1 a2
  obtain rfl := bytes_of b0.symm
  obtain rfl := bytes_of b1.symm
  obtain rfl := bytes_of b2.symm
  rfl
theorem pow_data : (Rows.laid_internal_strconv_uint64pow10 : DataW Unit) = Lib.tabData .u64 Lib.pow10Tab := by kernel_rfl
theorem pow_of {cs : Array Value} {p : List MemPlace} (h : DataW.trod (fun _ => ()) Tryd.prog w 0 sp held fuel 101 cs.toList = some (Rows.laid_internal_strconv_uint64pow10, p)) : cs = powCells := by
  rw [pow_data] at h
  have := Lib.cells_of_tab Tryd.underlying101 Tryd.underlying33 cs42 cs173 h
  have e : cs = cs.toList.toArray := by simp
  rw [e, this]; rfl
theorem heap_of_var {g : Nat} {n : String} {cs : Array Value} (hg : Tryd.prog.globalNamed n = some g) (h : w.var? Tryd.prog n = some cs) : ∃ t fr, w.heap[g]? = some (.cells cs t fr) := by
  simp only [World.var?, hg, Option.bind_some] at h
  split at h
  · rename_i cs' t fr hh
    cases h
    exact ⟨t, fr, hh⟩
  · cases h
theorem max_of (h : w.ShapedOpen Tryd.prog) : MaxAt w := by
  obtain ⟨m, hm⟩ := Go.Proofs.cell_of_shapedOpen_int (zero := #[.int .i64 0]) (t := 3) h (of_decide_eq_true (by kernel_rfl)) (by kernel_rfl) rfl (by kernel_rfl) (by kernel_rfl) Tryd.underlying3
  exact ⟨m, hm⟩
/-- What the row's list gives. -/
theorem tabs_of {l : List (String × DataW Unit)} (hl : (l.filter fun x => x.1 == powName || x.1 == nmsName) = [(powName, Rows.laid_internal_strconv_uint64pow10), (nmsName, Rows.laid_herald_comm_names)])
    (hL : laidMetH Tryd.prog l w) : Tabs w := by
  have hF := hL.filter (fun x => x.1 == powName || x.1 == nmsName)
  rw [hl, MakeChecks.laidMetH_plain _ _ _ (by kernel_rfl)] at hF
  obtain ⟨ps, ⟨g0, t0, cs0, f0, p0, q0, hg0, ht0, hv0, hd0, ⟨g1, t1, cs1, f1, p1, q1, hg1, ht1, hv1, hd1, _, _⟩, _⟩, _, _⟩ := hF
  obtain rfl := Option.some.inj (gPow.symm.trans hg0)
  obtain rfl := Option.some.inj (gNms.symm.trans hg1)
  obtain rfl := Option.some.inj (tPow.symm.trans ht0)
  obtain rfl := Option.some.inj (tNms.symm.trans ht1)
  obtain rfl := pow_of hd0
  obtain rfl := nms_of hd1
  exact ⟨heap_of_var gNms hv1, heap_of_var gPow hv0⟩
end Go.Proofs.YteldgfmcfkmpdabDoor
