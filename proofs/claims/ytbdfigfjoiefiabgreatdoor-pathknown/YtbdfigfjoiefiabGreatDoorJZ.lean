/-
  What the row's list gives: the tables, the two variables that hold the errors, the library's own number.
-/
import Derived.Test.YtbdfigfjoiefiabGreatDoorRows
import Derived.Test.YtbdfigfjoiefiabGreatDoorX1
import Derived.Test.YtbdfigfjoiefiabGreatDoorS1
import Derived.WalkKit
import Derived.ProofKit
import Derived.OpenShut
import Derived.LaidSub
import Derived.MakeChecks
import Derived.SizedLaws
import Derived.Lib.SmallJoins
import Derived.Lib.LaidTab
import Derived.Shelf.Strings.Shaped
namespace Go.Proofs.YtbdfigfjoiefiabGreatDoor
open Go.ChangeShapes Go.WideShapes Go.ChangeAt Go.RowKit Go.Joins Go.Deep Go.WideMaps Go.WideElems
theorem cs9 : Tryz.prog.cellsOf 9 = 1 := by kernel_rfl
section
/-- The names of the two tables, as the rows list them. -/
def powName : String := ((Rows.pathKnownRow.laid.map (·.1))[2]?).getD default
def brName : String := ((Rows.pathKnownRow.laid.map (·.1))[5]?).getD default
theorem gPow : Tryz.prog.globalNamed powName = some 1 := by kernel_rfl
theorem gBr : Tryz.prog.globalNamed brName = some 0 := by kernel_rfl
theorem tPow : (Tryz.prog.globals[1]?).map (·.type) = some 117 := by kernel_rfl
theorem tBr : (Tryz.prog.globals[0]?).map (·.type) = some 89 := by kernel_rfl
theorem cs120 : Tryz.prog.cellsOf 117 = 20 := by kernel_rfl
theorem cs91 : Tryz.prog.cellsOf 89 = 5 := by kernel_rfl
theorem cs61 : Tryz.prog.cellsOf 66 = 1 := by kernel_rfl
theorem bytes_of {s : ByteArray} {l : List UInt8} (h : s.data.toList = l) : s = ⟨l.toArray⟩ := by
  subst h; cases s; simp
theorem list5 {α : Type} (l : List α) (h : l.length = 5) : ∃ a0 a1 a2 a3 a4, l = [a0, a1, a2, a3, a4] := by
  obtain _ | ⟨a0, l⟩ := l
  · simp at h
  obtain _ | ⟨a1, l⟩ := l
  · simp at h
  obtain _ | ⟨a2, l⟩ := l
  · simp at h
  obtain _ | ⟨a3, l⟩ := l
  · simp at h
  obtain _ | ⟨a4, l⟩ := l
  · simp at h
  obtain _ | ⟨b, l⟩ := l
  · exact ⟨a0, a1, a2, a3, a4, rfl⟩
  · simp at h
variable {W : World} {sp : Nat → Bool} {held : Bool} {fuel : Nat}
theorem br_of {cs : Array Value} {p : List MemPlace} (h : DataW.trod (fun _ => ()) Tryz.prog W 0 sp held fuel 89 cs.toList = some (Rows.laid_herald_aspath_brackets, p)) : cs = brCells := by
  obtain ⟨xs, m, rfl, hx, hlen, hn, hel⟩ := DataW.trod_array Tryz.underlying89 h
  obtain ⟨l⟩ := cs
  rw [cs91] at hlen
  rw [cs9] at hel
  simp only [Prod.mk.injEq] at hx
  obtain ⟨hx, _⟩ := hx
  obtain ⟨c0, c1, c2, c3, c4, e⟩ := list5 l hlen
  have e' : l = [c0, c1, c2, c3, c4] := e
  subst e'
  obtain ⟨x0, x1, x2, x3, x4, e2⟩ := list5 xs hn
  subst e2
  obtain ⟨s0, r0, k0, _⟩ := DataW.trod_string Tryz.underlying9 (hel 0 (by decide))
  obtain ⟨s1, r1, k1, _⟩ := DataW.trod_string Tryz.underlying9 (hel 1 (by decide))
  obtain ⟨s2, r2, k2, _⟩ := DataW.trod_string Tryz.underlying9 (hel 2 (by decide))
  obtain ⟨s3, r3, k3, _⟩ := DataW.trod_string Tryz.underlying9 (hel 3 (by decide))
  obtain ⟨s4, r4, k4, _⟩ := DataW.trod_string Tryz.underlying9 (hel 4 (by decide))
  simp at r0 r1 r2 r3 r4 k0 k1 k2 k3 k4
  subst r0 r1 r2 r3 r4
  simp only [List.map_cons, List.map_nil, k0, k1, k2, k3, k4, Rows.laid_herald_aspath_brackets, DataW.agg.injEq, List.cons.injEq, DataW.lit.injEq, Lit.string.injEq, and_true] at hx
  obtain ⟨a0, a1, a2, a3, a4⟩ := hx
  obtain rfl := bytes_of a0.symm
  obtain rfl := bytes_of a1.symm
  obtain rfl := bytes_of a2.symm
  obtain rfl := bytes_of a3.symm
  obtain rfl := bytes_of a4.symm
  rfl
theorem pow_data : (Rows.laid_internal_strconv_uint64pow10 : DataW Unit) = Lib.tabData .u64 Lib.pow10Tab := by kernel_rfl
theorem pow_of {cs : Array Value} {p : List MemPlace} (h : DataW.trod (fun _ => ()) Tryz.prog W 0 sp held fuel 117 cs.toList = some (Rows.laid_internal_strconv_uint64pow10, p)) : cs = powCells := by
  rw [pow_data] at h
  have := Lib.cells_of_tab Tryz.underlying117 Tryz.underlying66 cs61 cs120 h
  have e : cs = cs.toList.toArray := by simp
  rw [e, this]; rfl
theorem heap_of_var {g : Nat} {n : String} {cs : Array Value} (hg : Tryz.prog.globalNamed n = some g) (h : W.var? Tryz.prog n = some cs) : ∃ t fr, W.heap[g]? = some (.cells cs t fr) := by
  simp only [World.var?, hg, Option.bind_some] at h
  split at h
  · rename_i cs' t fr hh
    cases h
    exact ⟨t, fr, hh⟩
  · cases h
/-- What the row's list gives. -/
theorem tabs_of {l : List (String × DataW Unit)} (hl : (l.filter fun x => x.1 == powName || x.1 == brName) = [(powName, Rows.laid_internal_strconv_uint64pow10), (brName, Rows.laid_herald_aspath_brackets)])
    (hL : laidMetH Tryz.prog l W) : Tabs W := by
  have hF := hL.filter (fun x => x.1 == powName || x.1 == brName)
  rw [hl, MakeChecks.laidMetH_plain _ _ _ (by kernel_rfl)] at hF
  obtain ⟨ps, ⟨g0, t0, cs0, f0, p0, q0, hg0, ht0, hv0, hd0, ⟨g1, t1, cs1, f1, p1, q1, hg1, ht1, hv1, hd1, _, _⟩, _⟩, _, _⟩ := hF
  obtain rfl := Option.some.inj (gPow.symm.trans hg0)
  obtain rfl := Option.some.inj (gBr.symm.trans hg1)
  obtain rfl := Option.some.inj (tPow.symm.trans ht0)
  obtain rfl := Option.some.inj (tBr.symm.trans ht1)
  obtain rfl := pow_of hd0
  obtain rfl := br_of hd1
  exact ⟨heap_of_var gBr hv1, heap_of_var gPow hv0⟩
end
def rngName : String := ((Rows.pathKnownRow.laid.map (·.1))[3]?).getD default
def synName : String := ((Rows.pathKnownRow.laid.map (·.1))[4]?).getD default
theorem gRng : Tryz.prog.globalNamed rngName = some 6 := by kernel_rfl
theorem gSyn : Tryz.prog.globalNamed synName = some 5 := by kernel_rfl
theorem tRng : (Tryz.prog.globals[6]?).map (·.type) = some 69 := by kernel_rfl
theorem tSyn : (Tryz.prog.globals[5]?).map (·.type) = some 69 := by kernel_rfl
section
variable {w : World} {sp : Nat → Bool} {held : Bool} {fuel : Nat}
theorem iface_gen {P : Program} {t : TypeId} {ms : Array (String × TypeId)} (hu : P.underlying t = some (.interface ms)) {l : List Value} {nm : String} {d : DataW Unit} {p : List MemPlace} (h : DataW.trod (fun _ => ()) P w 0 sp held fuel t l = some (.iface nm d, p)) : ∃ u v, l = [.iface u v] := by
  cases fuel with
  | zero => simp [DataW.trod] at h
  | succ n =>
    unfold DataW.trod at h
    rw [hu] at h
    split at h <;> simp_all
theorem iface_of {cs : Array Value} {nm : String} {d : DataW Unit} {p : List MemPlace} (h : DataW.trod (fun _ => ()) Tryz.prog w 0 sp held fuel 69 cs.toList = some (.iface nm d, p)) : ∃ u v, cs = #[.iface u v] := by
  obtain ⟨u, v, e⟩ := iface_gen Tryz.underlying69 h
  exact ⟨u, v, by cases cs; simp_all⟩
theorem errs_of {l : List (String × DataW Unit)} (hl : (l.filter fun x => x.1 == rngName || x.1 == synName) = [(rngName, Rows.laid_strconv_ErrRange), (synName, Rows.laid_strconv_ErrSyntax)])
    (hL : laidMetH Tryz.prog l w) : ErrsAt w := by
  have hF := hL.filter (fun x => x.1 == rngName || x.1 == synName)
  rw [hl, MakeChecks.laidMetH_plain _ _ _ (by kernel_rfl)] at hF
  obtain ⟨ps, ⟨g0, t0, cs0, f0, p0, q0, hg0, ht0, hv0, hd0, ⟨g1, t1, cs1, f1, p1, q1, hg1, ht1, hv1, hd1, _, _⟩, _⟩, _, _⟩ := hF
  obtain rfl := Option.some.inj (gRng.symm.trans hg0)
  obtain rfl := Option.some.inj (gSyn.symm.trans hg1)
  obtain rfl := Option.some.inj (tRng.symm.trans ht0)
  obtain rfl := Option.some.inj (tSyn.symm.trans ht1)
  obtain ⟨u0, x0, rfl⟩ := iface_of hd0
  obtain ⟨u1, x1, rfl⟩ := iface_of hd1
  obtain ⟨t2, fr2, h2⟩ := heap_of_var gSyn hv1
  obtain ⟨t3, fr3, h3⟩ := heap_of_var gRng hv0
  exact ⟨⟨u1, x1, t2, fr2, h2⟩, ⟨u0, x0, t3, fr3, h3⟩⟩
end
theorem max_of {w : World} (h : w.ShapedOpen Tryz.prog) : MaxAt w := by
  obtain ⟨m, hm⟩ := Go.Proofs.cell_of_shapedOpen_int (zero := #[.int .i64 0]) (t := 3) h (of_decide_eq_true (by kernel_rfl)) (by kernel_rfl) rfl (by kernel_rfl) (by kernel_rfl) Tryz.underlying3
  exact ⟨m, hm⟩
end Go.Proofs.YtbdfigfjoiefiabGreatDoor
