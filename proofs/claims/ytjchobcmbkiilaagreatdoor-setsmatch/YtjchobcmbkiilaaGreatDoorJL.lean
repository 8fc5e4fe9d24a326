/-
  What the row's list of variables gives: the two tables of package prim lie in their blocks.
-/
import Derived.Test.YtjchobcmbkiilaaGreatDoorpB16
import Derived.Test.YtjchobcmbkiilaaGreatDoorRows
import Derived.Shelf.Strings.Shaped
import Derived.ProofKit
import Derived.OpenShut
import Derived.LaidSub
import Derived.MakeChecks
import Derived.Deep.Strs
import Derived.Lib.SmallJoins
namespace Go.Proofs.YtjchobcmbkiilaaGreatDoor.Pr
open Go.ChangeShapes Go.WideShapes Go.ChangeAt Go.RowKit Go.Joins Go.Deep Go.WideMaps Go.WideElems
variable {H : Type} {enc : TypeId × Value → H} {W : World} {sp : Nat → Bool} {held : Bool} {fuel : Nat} {x : DataW H × List MemPlace}
theorem cells49 : Tryz.prog.cellsOf 138 = 3 := by kernel_rfl
theorem cells72 : Tryz.prog.cellsOf 161 = 4 := by kernel_rfl
theorem cells50 : Tryz.prog.cellsOf 139 = 18 := by kernel_rfl
theorem cells73 : Tryz.prog.cellsOf 162 = 8 := by kernel_rfl
theorem cells9 : Tryz.prog.cellsOf 9 = 1 := by kernel_rfl
theorem cells3 : Tryz.prog.cellsOf 3 = 1 := by kernel_rfl
theorem cells4 : Tryz.prog.cellsOf 4 = 1 := by kernel_rfl
theorem fam_row {c0 c1 c2 : Value} (h : DataW.trod enc Tryz.prog W 0 sp held fuel 138 [c0, c1, c2] = some x) :
    ∃ s n b, c0 = .string s ∧ c1 = .int .i64 n ∧ c2 = .bool b ∧ x.1 = .agg [.lit (.string s.data.toList), .lit (.int .i64 n), .lit (.bool b)] := by
  obtain ⟨y0, y1, y2, n, hx, _, h0, h1, h2⟩ := trod_struct3 Tryz.underlying138 h
  simp [cells9, cells3, cells4] at h0 h1 h2
  obtain ⟨s, e0, rfl, _⟩ := DataW.trod_string Tryz.underlying9 h0
  obtain ⟨k, e1, rfl, _⟩ := DataW.trod_int Tryz.underlying3 h1
  obtain ⟨b, e2, rfl⟩ := DataW.trod_bool Tryz.underlying4 h2
  simp at e0 e1 e2
  exact ⟨s, k, b, e0, e1, e2, by rw [hx]⟩
theorem sty_row {c0 c1 c2 c3 : Value} (h : DataW.trod enc Tryz.prog W 0 sp held fuel 161 [c0, c1, c2, c3] = some x) :
    ∃ s n m k, c0 = .string s ∧ c1 = .int .i64 n ∧ c2 = .int .i64 m ∧ c3 = .int .i64 k ∧ x.1 = .agg [.lit (.string s.data.toList), .lit (.int .i64 n), .lit (.int .i64 m), .lit (.int .i64 k)] := by
  obtain ⟨y0, y1, y2, y3, n, hx, _, h0, h1, h2, h3⟩ := trod_struct4 Tryz.underlying161 h
  simp [cells9, cells3] at h0 h1 h2 h3
  obtain ⟨s, e0, rfl, _⟩ := DataW.trod_string Tryz.underlying9 h0
  obtain ⟨a, e1, rfl, _⟩ := DataW.trod_int Tryz.underlying3 h1
  obtain ⟨b, e2, rfl, _⟩ := DataW.trod_int Tryz.underlying3 h2
  obtain ⟨c, e3, rfl, _⟩ := DataW.trod_int Tryz.underlying3 h3
  simp at e0 e1 e2 e3
  exact ⟨s, a, b, c, e0, e1, e2, e3, by rw [hx]⟩
theorem bytes_of {s : ByteArray} {l : List UInt8} (h : s.data.toList = l) : s = ⟨l.toArray⟩ := by
  subst h; cases s; simp
theorem list2 {α : Type} (l : List α) (h : l.length = 2) : ∃ a0 a1, l = [a0, a1] := by
  obtain _ | ⟨a0, l⟩ := l
  · simp at h
  obtain _ | ⟨a1, l⟩ := l
  · simp at h
  obtain _ | ⟨b, l⟩ := l
  · exact ⟨a0, a1, rfl⟩
  · simp at h
theorem list6 {α : Type} (l : List α) (h : l.length = 6) : ∃ a0 a1 a2 a3 a4 a5, l = [a0, a1, a2, a3, a4, a5] := by
  obtain _ | ⟨a0, l⟩ := l
  · simp at h
  obtain _ | ⟨a1, l⟩ := l
  · simp at h
  obtain _ | ⟨a2, l⟩ := l
  · simp at h
  obtain _ | ⟨a3, l⟩ := l
  · simp at h
  obtain _ | ⟨a4, l⟩ := l
  · simp at h
  obtain _ | ⟨a5, l⟩ := l
  · simp at h
  obtain _ | ⟨b, l⟩ := l
  · exact ⟨a0, a1, a2, a3, a4, a5, rfl⟩
  · simp at h
theorem list8 {α : Type} (l : List α) (h : l.length = 8) : ∃ a0 a1 a2 a3 a4 a5 a6 a7, l = [a0, a1, a2, a3, a4, a5, a6, a7] := by
  obtain _ | ⟨a0, l⟩ := l
  · simp at h
  obtain _ | ⟨a1, l⟩ := l
  · simp at h
  obtain _ | ⟨a2, l⟩ := l
  · simp at h
  obtain _ | ⟨a3, l⟩ := l
  · simp at h
  obtain _ | ⟨a4, l⟩ := l
  · simp at h
  obtain _ | ⟨a5, l⟩ := l
  · simp at h
  obtain _ | ⟨a6, l⟩ := l
  · simp at h
  obtain _ | ⟨a7, l⟩ := l
  · simp at h
  obtain _ | ⟨b, l⟩ := l
  · exact ⟨a0, a1, a2, a3, a4, a5, a6, a7, rfl⟩
  · simp at h
theorem list18 {α : Type} (l : List α) (h : l.length = 18) : ∃ a0 a1 a2 a3 a4 a5 a6 a7 a8 a9 a10 a11 a12 a13 a14 a15 a16 a17, l = [a0, a1, a2, a3, a4, a5, a6, a7, a8, a9, a10, a11, a12, a13, a14, a15, a16, a17] := by
  obtain _ | ⟨a0, l⟩ := l
  · simp at h
  obtain _ | ⟨a1, l⟩ := l
  · simp at h
  obtain _ | ⟨a2, l⟩ := l
  · simp at h
  obtain _ | ⟨a3, l⟩ := l
  · simp at h
  obtain _ | ⟨a4, l⟩ := l
  · simp at h
  obtain _ | ⟨a5, l⟩ := l
  · simp at h
  obtain _ | ⟨a6, l⟩ := l
  · simp at h
  obtain _ | ⟨a7, l⟩ := l
  · simp at h
  obtain _ | ⟨a8, l⟩ := l
  · simp at h
  obtain _ | ⟨a9, l⟩ := l
  · simp at h
  obtain _ | ⟨a10, l⟩ := l
  · simp at h
  obtain _ | ⟨a11, l⟩ := l
  · simp at h
  obtain _ | ⟨a12, l⟩ := l
  · simp at h
  obtain _ | ⟨a13, l⟩ := l
  · simp at h
  obtain _ | ⟨a14, l⟩ := l
  · simp at h
  obtain _ | ⟨a15, l⟩ := l
  · simp at h
  obtain _ | ⟨a16, l⟩ := l
  · simp at h
  obtain _ | ⟨a17, l⟩ := l
  · simp at h
  obtain _ | ⟨b, l⟩ := l
  · exact ⟨a0, a1, a2, a3, a4, a5, a6, a7, a8, a9, a10, a11, a12, a13, a14, a15, a16, a17, rfl⟩
  · simp at h
theorem fam_of {cs : Array Value} {p : List MemPlace} (h : DataW.trod (fun _ => ()) Tryz.prog W 0 sp held fuel 139 cs.toList = some (Rows.laid_herald_prim_families, p)) : cs = famCells := by
  obtain ⟨xs, m, rfl, hx, hlen, hn, hel⟩ := DataW.trod_array Tryz.underlying139 h
  obtain ⟨l⟩ := cs
  rw [cells50] at hlen
  rw [cells49] at hel
  simp only [Prod.mk.injEq] at hx
  obtain ⟨hx, _⟩ := hx
  obtain ⟨c0, c1, c2, c3, c4, c5, c6, c7, c8, c9, c10, c11, c12, c13, c14, c15, c16, c17, e⟩ := list18 l hlen
  have e' : l = [c0, c1, c2, c3, c4, c5, c6, c7, c8, c9, c10, c11, c12, c13, c14, c15, c16, c17] := e
  subst e'
  obtain ⟨x0, x1, x2, x3, x4, x5, e2⟩ := list6 xs hn
  subst e2
  obtain ⟨s0, n0, b0, rfl, rfl, rfl, k0⟩ := fam_row (x := x0) (hel 0 (by decide))
  obtain ⟨s1, n1, b1, rfl, rfl, rfl, k1⟩ := fam_row (x := x1) (hel 1 (by decide))
  obtain ⟨s2, n2, b2, rfl, rfl, rfl, k2⟩ := fam_row (x := x2) (hel 2 (by decide))
  obtain ⟨s3, n3, b3, rfl, rfl, rfl, k3⟩ := fam_row (x := x3) (hel 3 (by decide))
  obtain ⟨s4, n4, b4, rfl, rfl, rfl, k4⟩ := fam_row (x := x4) (hel 4 (by decide))
  obtain ⟨s5, n5, b5, rfl, rfl, rfl, k5⟩ := fam_row (x := x5) (hel 5 (by decide))
  simp only [List.map_cons, List.map_nil, k0, k1, k2, k3, k4, k5, Rows.laid_herald_prim_families, DataW.agg.injEq, List.cons.injEq, DataW.lit.injEq, Lit.string.injEq, Lit.int.injEq, Lit.bool.injEq, and_true, true_and] at hx
  obtain ⟨⟨a0, rfl, rfl⟩, ⟨a1, rfl, rfl⟩, ⟨a2, rfl, rfl⟩, ⟨a3, rfl, rfl⟩, ⟨a4, rfl, rfl⟩, ⟨a5, rfl, rfl⟩⟩ := hx
  obtain rfl := bytes_of a0.symm
  obtain rfl := bytes_of a1.symm
  obtain rfl := bytes_of a2.symm
  obtain rfl := bytes_of a3.symm
  obtain rfl := bytes_of a4.symm
  obtain rfl := bytes_of a5.symm
  rfl
theorem sty_of {cs : Array Value} {p : List MemPlace} (h : DataW.trod (fun _ => ()) Tryz.prog W 0 sp held fuel 162 cs.toList = some (Rows.laid_herald_prim_styles, p)) : cs = stCells := by
  obtain ⟨xs, m, rfl, hx, hlen, hn, hel⟩ := DataW.trod_array Tryz.underlying162 h
  obtain ⟨l⟩ := cs
  rw [cells73] at hlen
  rw [cells72] at hel
  simp only [Prod.mk.injEq] at hx
  obtain ⟨hx, _⟩ := hx
  obtain ⟨c0, c1, c2, c3, c4, c5, c6, c7, e⟩ := list8 l hlen
  have e' : l = [c0, c1, c2, c3, c4, c5, c6, c7] := e
  subst e'
  obtain ⟨x0, x1, e2⟩ := list2 xs hn
  subst e2
  obtain ⟨s0, n0, m0, j0, rfl, rfl, rfl, rfl, k0⟩ := sty_row (x := x0) (hel 0 (by decide))
  obtain ⟨s1, n1, m1, j1, rfl, rfl, rfl, rfl, k1⟩ := sty_row (x := x1) (hel 1 (by decide))
  simp only [List.map_cons, List.map_nil, k0, k1, Rows.laid_herald_prim_styles, DataW.agg.injEq, List.cons.injEq, DataW.lit.injEq, Lit.string.injEq, Lit.int.injEq, and_true, true_and] at hx
  obtain ⟨⟨a0, rfl, rfl, rfl⟩, ⟨a1, rfl, rfl, rfl⟩⟩ := hx
  obtain rfl := bytes_of a0.symm
  obtain rfl := bytes_of a1.symm
  rfl
/-- The names of the two tables, as the rows list them. -/
def famName : String := ((Rows.setsStarsRow.laid.map (·.1))[6]?).getD default
def styName : String := ((Rows.setsStarsRow.laid.map (·.1))[7]?).getD default
theorem gFam : Tryz.prog.globalNamed famName = some 0 := by kernel_rfl
theorem gSty : Tryz.prog.globalNamed styName = some 2 := by kernel_rfl
theorem tFam : (Tryz.prog.globals[0]?).map (·.type) = some 139 := by kernel_rfl
theorem tSty : (Tryz.prog.globals[2]?).map (·.type) = some 162 := by kernel_rfl
theorem heap_of_var {g : Nat} {n : String} {cs : Array Value} (hg : Tryz.prog.globalNamed n = some g) (h : W.var? Tryz.prog n = some cs) : ∃ t fr, W.heap[g]? = some (.cells cs t fr) := by
  simp only [World.var?, hg, Option.bind_some] at h
  split at h
  · rename_i cs' t fr hh
    cases h
    exact ⟨t, fr, hh⟩
  · cases h
theorem max_of (h : W.ShapedOpen Tryz.prog) : ∃ m, W.cell? ⟨1, 0, none⟩ = some (.int .i64 m) := by
  obtain ⟨m, hm⟩ := Go.Proofs.cell_of_shapedOpen_int (zero := #[.int .i64 0]) (t := 3) h (of_decide_eq_true (by kernel_rfl)) (by kernel_rfl) rfl (by kernel_rfl) (by kernel_rfl) Tryz.underlying3
  exact ⟨m, hm⟩
/-- What the row's list and the world's shape give. -/
theorem tabs_of {l : List (String × DataW Unit)} (hl : (l.filter fun x => x.1 == famName || x.1 == styName) = [(famName, Rows.laid_herald_prim_families), (styName, Rows.laid_herald_prim_styles)])
    (hL : laidMetH Tryz.prog l W) (hsh : W.ShapedOpen Tryz.prog) : Tabs W := by
  have hF := hL.filter (fun x => x.1 == famName || x.1 == styName)
  rw [hl, MakeChecks.laidMetH_plain _ _ _ (by kernel_rfl)] at hF
  obtain ⟨ps, ⟨g0, t0, cs0, f0, p0, q0, hg0, ht0, hv0, hd0, ⟨g1, t1, cs1, f1, p1, q1, hg1, ht1, hv1, hd1, _, _⟩, _⟩, _, _⟩ := hF
  obtain rfl := Option.some.inj (gFam.symm.trans hg0)
  obtain rfl := Option.some.inj (gSty.symm.trans hg1)
  obtain rfl := Option.some.inj (tFam.symm.trans ht0)
  obtain rfl := Option.some.inj (tSty.symm.trans ht1)
  obtain rfl := fam_of hd0
  obtain rfl := sty_of hd1
  exact ⟨heap_of_var gFam hv0, heap_of_var gSty hv1, max_of hsh⟩
end Go.Proofs.YtjchobcmbkiilaaGreatDoor.Pr
