/-
  What the cards share; bytes that come in.
-/
import Derived.Test.YthaebbmekonacaaGreatDoorCards
import Derived.Test.YthaebbmekonacaaGreatDoorTie
import Derived.WalkKit
import Derived.ProofKit
import Derived.OpenShut
import Derived.Deep.DeepHandedRow
import Derived.Deep.DeepWitnessRowRef
import Derived.Lib.LaidTab
import Derived.LaidMore
import Derived.Test.YthaebbmekonacaaGreatDoorPB
import Derived.Test.YthaebbmekonacaaGreatDoorRows
import Derived.Shelf.Strings.Shaped
import Derived.LaidSub
import Derived.MakeChecks
import Derived.Deep.Strs
import Derived.Lib.SmallJoins
import Derived.Test.YthaebbmekonacaaGreatDoorTX
import Derived.ShutString
import Derived.ChangeOld
import Derived.Below
import Derived.Carry
import Derived.Deep.SlicePairs
namespace Go.Proofs.YthaebbmekonacaaGreatDoor
open Go.ChangeShapes Go.WideShapes Go.ChangeAt Go.RowKit
/-- The cells of the pinned table. -/
def firstCells : Array Value := (Go.Pinned.utf8FirstZ.map fun (n : Nat) => Value.int .u8 (n : Int)).toArray
/-- The table laid into its block. -/
def putFirst (o : Obj) : Obj := match o with
  | .cells _ t frozen => .cells firstCells t frozen
  | o => o
end Go.Proofs.YthaebbmekonacaaGreatDoor
namespace Go.Proofs.YthaebbmekonacaaGreatDoor.Pr
open Go.ChangeShapes Go.WideShapes Go.ChangeAt Go.RowKit Go.Joins Go.Deep Go.WideMaps Go.WideElems
variable {H : Type} {enc : TypeId × Value → H} {W : World} {sp : Nat → Bool} {held : Bool} {fuel : Nat} {x : DataW H × List MemPlace}
theorem cells49 : Tryz.prog.cellsOf 212 = 3 := by kernel_rfl
theorem cells72 : Tryz.prog.cellsOf 219 = 4 := by kernel_rfl
theorem cells50 : Tryz.prog.cellsOf 213 = 18 := by kernel_rfl
theorem cells73 : Tryz.prog.cellsOf 220 = 8 := by kernel_rfl
theorem cells9 : Tryz.prog.cellsOf 9 = 1 := by kernel_rfl
theorem cells3 : Tryz.prog.cellsOf 3 = 1 := by kernel_rfl
theorem cells4 : Tryz.prog.cellsOf 4 = 1 := by kernel_rfl
theorem fam_row {c0 c1 c2 : Value} (h : DataW.trod enc Tryz.prog W 0 sp held fuel 212 [c0, c1, c2] = some x) :
    ∃ s n b, c0 = .string s ∧ c1 = .int .i64 n ∧ c2 = .bool b ∧ x.1 = .agg [.lit (.string s.data.toList), .lit (.int .i64 n), .lit (.bool b)] := by
  obtain ⟨y0, y1, y2, n, hx, _, h0, h1, h2⟩ := trod_struct3 Tryz.underlying212 h
  simp [cells9, cells3, cells4] at h0 h1 h2
  obtain ⟨s, e0, rfl, _⟩ := DataW.trod_string Tryz.underlying9 h0
  obtain ⟨k, e1, rfl, _⟩ := DataW.trod_int Tryz.underlying3 h1
  obtain ⟨b, e2, rfl⟩ := DataW.trod_bool Tryz.underlying4 h2
  simp at e0 e1 e2
  exact ⟨s, k, b, e0, e1, e2, by rw [hx]⟩
theorem sty_row {c0 c1 c2 c3 : Value} (h : DataW.trod enc Tryz.prog W 0 sp held fuel 219 [c0, c1, c2, c3] = some x) :
    ∃ s n m k, c0 = .string s ∧ c1 = .int .i64 n ∧ c2 = .int .i64 m ∧ c3 = .int .i64 k ∧ x.1 = .agg [.lit (.string s.data.toList), .lit (.int .i64 n), .lit (.int .i64 m), .lit (.int .i64 k)] := by
  obtain ⟨y0, y1, y2, y3, n, hx, _, h0, h1, h2, h3⟩ := trod_struct4 Tryz.underlying219 h
  simp [cells9, cells3] at h0 h1 h2 h3
  obtain ⟨s, e0, rfl, _⟩ := DataW.trod_string Tryz.underlying9 h0
  obtain ⟨a, e1, rfl, _⟩ := DataW.trod_int Tryz.underlying3 h1
  obtain ⟨b, e2, rfl, _⟩ := DataW.trod_int Tryz.underlying3 h2
  obtain ⟨c, e3, rfl, _⟩ := DataW.trod_int Tryz.underlying3 h3
  simp at e0 e1 e2 e3
  exact ⟨s, a, b, c, e0, e1, e2, e3, by rw [hx]⟩
theorem bytes_of {s : ByteArray} {l : List UInt8} (h : s.data.toList = l) : s = ⟨l.toArray⟩ := by
  subst h; cases s; simp
theorem list2 {α : Type} (l : List α) (h : l.length = 2) : ∃ a0 a1, l = [a0, a1] := by
  obtain _ | ⟨a0, l⟩ := l
  · simp at h
  obtain _ | ⟨a1, l⟩ := l
  · simp at h
  obtain _ | ⟨b, l⟩ := l
  · exact ⟨a0, a1, rfl⟩
  · simp at h
theorem list6 {α : Type} (l : List α) (h : l.length = 6) : ∃ a0 a1 a2 a3 a4 a5, l = [a0, a1, a2, a3, a4, a5] := by
  obtain _ | ⟨a0, l⟩ := l
  · simp at h
  obtain _ | ⟨a1, l⟩ := l
  · simp at h
  obtain _ | ⟨a2, l⟩ := l
  · simp at h
  obtain _ | ⟨a3, l⟩ := l
  · simp at h
  obtain _ | ⟨a4, l⟩ := l
  · simp at h
  obtain _ | ⟨a5, l⟩ := l
  · simp at h
  obtain _ | ⟨b, l⟩ := l
  · exact ⟨a0, a1, a2, a3, a4, a5, rfl⟩
  · simp at h
theorem list8 {α : Type} (l : List α) (h : l.length = 8) : ∃ a0 a1 a2 a3 a4 a5 a6 a7, l = [a0, a1, a2, a3, a4, a5, a6, a7] := by
  obtain _ | ⟨a0, l⟩ := l
  · simp at h
  obtain _ | ⟨a1, l⟩ := l
  · simp at h
  obtain _ | ⟨a2, l⟩ := l
  · simp at h
  obtain _ | ⟨a3, l⟩ := l
  · simp at h
  obtain _ | ⟨a4, l⟩ := l
  · simp at h
  obtain _ | ⟨a5, l⟩ := l
  · simp at h
  obtain _ | ⟨a6, l⟩ := l
  · simp at h
  obtain _ | ⟨a7, l⟩ := l
  · simp at h
  obtain _ | ⟨b, l⟩ := l
  · exact ⟨a0, a1, a2, a3, a4, a5, a6, a7, rfl⟩
  · simp at h
theorem list18 {α : Type} (l : List α) (h : l.length = 18) : ∃ a0 a1 a2 a3 a4 a5 a6 a7 a8 a9 a10 a11 a12 a13 a14 a15 a16 a17, l = [a0, a1, a2, a3, a4, a5, a6, a7, a8, a9, a10, a11, a12, a13, a14, a15, a16, a17] := by
  obtain _ | ⟨a0, l⟩ := l
  · simp at h
  obtain _ | ⟨a1, l⟩ := l
  · simp at h
  obtain _ | ⟨a2, l⟩ := l
  · simp at h
  obtain _ | ⟨a3, l⟩ := l
  · simp at h
  obtain _ | ⟨a4, l⟩ := l
  · simp at h
  obtain _ | ⟨a5, l⟩ := l
  · simp at h
  obtain _ | ⟨a6, l⟩ := l
  · simp at h
  obtain _ | ⟨a7, l⟩ := l
  · simp at h
  obtain _ | ⟨a8, l⟩ := l
  · simp at h
  obtain _ | ⟨a9, l⟩ := l
  · simp at h
  obtain _ | ⟨a10, l⟩ := l
  · simp at h
  obtain _ | ⟨a11, l⟩ := l
  · simp at h
  obtain _ | ⟨a12, l⟩ := l
  · simp at h
  obtain _ | ⟨a13, l⟩ := l
  · simp at h
  obtain _ | ⟨a14, l⟩ := l
  · simp at h
  obtain _ | ⟨a15, l⟩ := l
  · simp at h
  obtain _ | ⟨a16, l⟩ := l
  · simp at h
  obtain _ | ⟨a17, l⟩ := l
  · simp at h
  obtain _ | ⟨b, l⟩ := l
  · exact ⟨a0, a1, a2, a3, a4, a5, a6, a7, a8, a9, a10, a11, a12, a13, a14, a15, a16, a17, rfl⟩
  · simp at h
theorem fam_of {cs : Array Value} {p : List MemPlace} (h : DataW.trod (fun _ => ()) Tryz.prog W 0 sp held fuel 213 cs.toList = some (Rows.laid_herald_prim_families, p)) : cs = famCells := by
  obtain ⟨xs, m, rfl, hx, hlen, hn, hel⟩ := DataW.trod_array Tryz.underlying213 h
  obtain ⟨l⟩ := cs
  rw [cells50] at hlen
  rw [cells49] at hel
  simp only [Prod.mk.injEq] at hx
  obtain ⟨hx, _⟩ := hx
  obtain ⟨c0, c1, c2, c3, c4, c5, c6, c7, c8, c9, c10, c11, c12, c13, c14, c15, c16, c17, e⟩ := list18 l hlen
  have e' : l = [c0, c1, c2, c3, c4, c5, c6, c7, c8, c9, c10, c11, c12, c13, c14, c15, c16, c17] := e
  subst e'
  obtain ⟨x0, x1, x2, x3, x4, x5, e2⟩ := list6 xs hn
  subst e2
  obtain ⟨s0, n0, b0, rfl, rfl, rfl, k0⟩ := fam_row (x := x0) (hel 0 (by decide))
  obtain ⟨s1, n1, b1, rfl, rfl, rfl, k1⟩ := fam_row (x := x1) (hel 1 (by decide))
  obtain ⟨s2, n2, b2, rfl, rfl, rfl, k2⟩ := fam_row (x := x2) (hel 2 (by decide))
  obtain ⟨s3, n3, b3, rfl, rfl, rfl, k3⟩ := fam_row (x := x3) (hel 3 (by decide))
  obtain ⟨s4, n4, b4, rfl, rfl, rfl, k4⟩ := fam_row (x := x4) (hel 4 (by decide))
  obtain ⟨s5, n5, b5, rfl, rfl, rfl, k5⟩ := fam_row (x := x5) (hel 5 (by decide))
  simp only [List.map_cons, List.map_nil, k0, k1, k2, k3, k4, k5, Rows.laid_herald_prim_families, DataW.agg.injEq, List.cons.injEq, DataW.lit.injEq, Lit.string.injEq, Lit.int.injEq, Lit.bool.injEq, and_true, true_and] at hx
  obtain ⟨⟨a0, rfl, rfl⟩, ⟨a1, rfl, rfl⟩, ⟨a2, rfl, rfl⟩, ⟨a3, rfl, rfl⟩, ⟨a4, rfl, rfl⟩, ⟨a5, rfl, rfl⟩⟩ := hx
  obtain rfl := bytes_of a0.symm
  obtain rfl := bytes_of a1.symm
  obtain rfl := bytes_of a2.symm
  obtain rfl := bytes_of a3.symm
  obtain rfl := bytes_of a4.symm
  obtain rfl := bytes_of a5.symm
  rfl
theorem sty_of {cs : Array Value} {p : List MemPlace} (h : DataW.trod (fun _ => ()) Tryz.prog W 0 sp held fuel 220 cs.toList = some (Rows.laid_herald_prim_styles, p)) : cs = stCells := by
  obtain ⟨xs, m, rfl, hx, hlen, hn, hel⟩ := DataW.trod_array Tryz.underlying220 h
  obtain ⟨l⟩ := cs
  rw [cells73] at hlen
  rw [cells72] at hel
  simp only [Prod.mk.injEq] at hx
  obtain ⟨hx, _⟩ := hx
  obtain ⟨c0, c1, c2, c3, c4, c5, c6, c7, e⟩ := list8 l hlen
  have e' : l = [c0, c1, c2, c3, c4, c5, c6, c7] := e
  subst e'
  obtain ⟨x0, x1, e2⟩ := list2 xs hn
  subst e2
  obtain ⟨s0, n0, m0, j0, rfl, rfl, rfl, rfl, k0⟩ := sty_row (x := x0) (hel 0 (by decide))
  obtain ⟨s1, n1, m1, j1, rfl, rfl, rfl, rfl, k1⟩ := sty_row (x := x1) (hel 1 (by decide))
  simp only [List.map_cons, List.map_nil, k0, k1, Rows.laid_herald_prim_styles, DataW.agg.injEq, List.cons.injEq, DataW.lit.injEq, Lit.string.injEq, Lit.int.injEq, and_true, true_and] at hx
  obtain ⟨⟨a0, rfl, rfl, rfl⟩, ⟨a1, rfl, rfl, rfl⟩⟩ := hx
  obtain rfl := bytes_of a0.symm
  obtain rfl := bytes_of a1.symm
  rfl
/-- The names of the two tables, as the rows list them. -/
def famName : String := ((Rows.polcSameRow.laid.map (·.1))[6]?).getD default
def styName : String := ((Rows.polcSameRow.laid.map (·.1))[7]?).getD default
theorem gFam : Tryz.prog.globalNamed famName = some 1 := by kernel_rfl
theorem gSty : Tryz.prog.globalNamed styName = some 3 := by kernel_rfl
theorem tFam : (Tryz.prog.globals[1]?).map (·.type) = some 213 := by kernel_rfl
theorem tSty : (Tryz.prog.globals[3]?).map (·.type) = some 220 := by kernel_rfl
theorem heap_of_var {g : Nat} {n : String} {cs : Array Value} (hg : Tryz.prog.globalNamed n = some g) (h : W.var? Tryz.prog n = some cs) : ∃ t fr, W.heap[g]? = some (.cells cs t fr) := by
  simp only [World.var?, hg, Option.bind_some] at h
  split at h
  · rename_i cs' t fr hh
    cases h
    exact ⟨t, fr, hh⟩
  · cases h
theorem max_of (h : W.ShapedOpen Tryz.prog) : ∃ m, W.cell? ⟨5, 0, none⟩ = some (.int .i64 m) := by
  obtain ⟨m, hm⟩ := Go.Proofs.cell_of_shapedOpen_int (zero := #[.int .i64 0]) (t := 3) h (of_decide_eq_true (by kernel_rfl)) (by kernel_rfl) rfl (by kernel_rfl) (by kernel_rfl) Tryz.underlying3
  exact ⟨m, hm⟩
/-- What the row's list and the world's shape give. -/
theorem tabs_of {l : List (String × DataW Unit)} (hl : (l.filter fun x => x.1 == famName || x.1 == styName) = [(famName, Rows.laid_herald_prim_families), (styName, Rows.laid_herald_prim_styles)])
    (hL : laidMetH Tryz.prog l W) (hsh : W.ShapedOpen Tryz.prog) : Tabs W := by
  have hF := hL.filter (fun x => x.1 == famName || x.1 == styName)
  rw [hl, MakeChecks.laidMetH_plain _ _ _ (by kernel_rfl)] at hF
  obtain ⟨ps, ⟨g0, t0, cs0, f0, p0, q0, hg0, ht0, hv0, hd0, ⟨g1, t1, cs1, f1, p1, q1, hg1, ht1, hv1, hd1, _, _⟩, _⟩, _, _⟩ := hF
  obtain rfl := Option.some.inj (gFam.symm.trans hg0)
  obtain rfl := Option.some.inj (gSty.symm.trans hg1)
  obtain rfl := Option.some.inj (tFam.symm.trans ht0)
  obtain rfl := Option.some.inj (tSty.symm.trans ht1)
  obtain rfl := fam_of hd0
  obtain rfl := sty_of hd1
  exact ⟨heap_of_var gFam hv0, heap_of_var gSty hv1, max_of hsh⟩
end Go.Proofs.YthaebbmekonacaaGreatDoor.Pr
namespace Go.Proofs.YthaebbmekonacaaGreatDoor
open Go.ChangeShapes Go.WideShapes Go.ChangeAt Go.RowKit Go.Joins Go.Deep Go.WideMaps Go.WideElems
variable {w W : World} {sp : Nat → Bool} {held : Bool} {fuel : Nat}
theorem cs61 : Tryz.prog.cellsOf 48 = 1 := by kernel_rfl
theorem cs120 : Tryz.prog.cellsOf 239 = 20 := by kernel_rfl
theorem pow_data : (Rows.laid_internal_strconv_uint64pow10 : DataW Unit) = Lib.tabData .u64 Lib.pow10Tab := by kernel_rfl
theorem pow_of {cs : Array Value} {p : List MemPlace} (h : DataW.trod (fun _ => ()) Tryz.prog W 0 sp held fuel 239 cs.toList = some (Rows.laid_internal_strconv_uint64pow10, p)) : cs = powCells := by
  rw [pow_data] at h
  have := Lib.cells_of_tab Tryz.underlying239 Tryz.underlying48 cs61 cs120 h
  have e : cs = cs.toList.toArray := by simp
  rw [e, this]; rfl
def powName : String := ((Rows.polcSameRow.laid.map (·.1))[2]?).getD default
def rngName : String := ((Rows.polcSameRow.laid.map (·.1))[4]?).getD default
def synName : String := ((Rows.polcSameRow.laid.map (·.1))[5]?).getD default
theorem gPow : Tryz.prog.globalNamed powName = some 4 := by kernel_rfl
theorem gRng : Tryz.prog.globalNamed rngName = some 9 := by kernel_rfl
theorem gSyn : Tryz.prog.globalNamed synName = some 8 := by kernel_rfl
theorem tPow : (Tryz.prog.globals[4]?).map (·.type) = some 239 := by kernel_rfl
theorem tRng : (Tryz.prog.globals[9]?).map (·.type) = some 70 := by kernel_rfl
theorem tSyn : (Tryz.prog.globals[8]?).map (·.type) = some 70 := by kernel_rfl
theorem iface_gen {P : Program} {t : TypeId} {ms : Array (String × TypeId)} (hu : P.underlying t = some (.interface ms)) {l : List Value} {nm : String} {d : DataW Unit} {p : List MemPlace} (h : DataW.trod (fun _ => ()) P w 0 sp held fuel t l = some (.iface nm d, p)) : ∃ u v, l = [.iface u v] := by
  cases fuel with
  | zero => simp [DataW.trod] at h
  | succ n =>
    unfold DataW.trod at h
    rw [hu] at h
    split at h <;> simp_all
theorem iface_of {cs : Array Value} {nm : String} {d : DataW Unit} {p : List MemPlace} (h : DataW.trod (fun _ => ()) Tryz.prog w 0 sp held fuel 70 cs.toList = some (.iface nm d, p)) : ∃ u v, cs = #[.iface u v] := by
  obtain ⟨u, v, e⟩ := iface_gen Tryz.underlying70 h
  exact ⟨u, v, by cases cs; simp_all⟩
theorem three_of {l : List (String × DataW Unit)} (hl : (l.filter fun x => x.1 == powName || x.1 == rngName || x.1 == synName) = [(powName, Rows.laid_internal_strconv_uint64pow10), (rngName, Rows.laid_strconv_ErrRange), (synName, Rows.laid_strconv_ErrSyntax)])
    (hL : laidMetH Tryz.prog l w) : PowAt w ∧ ErrsAt w := by
  have hF := hL.filter (fun x => x.1 == powName || x.1 == rngName || x.1 == synName)
  rw [hl, MakeChecks.laidMetH_plain _ _ _ (by kernel_rfl)] at hF
  obtain ⟨ps, ⟨gx, tx, csx, fx, px, qx, hgx, htx, hvx, hdx, ⟨g0, t0, cs0, f0, p0, q0, hg0, ht0, hv0, hd0, ⟨g1, t1, cs1, f1, p1, q1, hg1, ht1, hv1, hd1, _, _⟩, _⟩, _⟩, _, _⟩ := hF
  obtain rfl := Option.some.inj (gPow.symm.trans hgx)
  obtain rfl := Option.some.inj (tPow.symm.trans htx)
  obtain rfl := Option.some.inj (gRng.symm.trans hg0)
  obtain rfl := Option.some.inj (gSyn.symm.trans hg1)
  obtain rfl := Option.some.inj (tRng.symm.trans ht0)
  obtain rfl := Option.some.inj (tSyn.symm.trans ht1)
  obtain rfl := pow_of hdx
  obtain ⟨u0, x0, rfl⟩ := iface_of hd0
  obtain ⟨u1, x1, rfl⟩ := iface_of hd1
  obtain ⟨t2, fr2, h2⟩ := Pr.heap_of_var gSyn hv1
  obtain ⟨t3, fr3, h3⟩ := Pr.heap_of_var gRng hv0
  exact ⟨Pr.heap_of_var gPow hvx, ⟨u1, x1, t2, fr2, h2⟩, ⟨u0, x0, t3, fr3, h3⟩⟩
theorem cs5 : Tryz.prog.cellsOf 5 = 1 := by kernel_rfl
theorem cs261 : Tryz.prog.cellsOf 261 = 64 := by kernel_rfl
theorem cs38 : Tryz.prog.cellsOf 38 = 1 := by kernel_rfl
theorem cs216 : Tryz.prog.cellsOf 216 = 2 := by kernel_rfl
theorem cs217 : Tryz.prog.cellsOf 217 = 6 := by kernel_rfl
def debTab : List Int := [0, 1, 56, 2, 57, 49, 28, 3, 61, 58, 42, 50, 38, 29, 17, 4, 62, 47, 59, 36, 45, 43, 51, 22, 53, 39, 33, 30, 24, 18, 12, 5, 63, 55, 48, 27, 60, 41, 37, 16, 46, 35, 44, 21, 52, 32, 23, 11, 54, 26, 40, 15, 34, 20, 31, 10, 25, 14, 19, 9, 13, 8, 7, 6]
theorem deb_data : (Rows.laid_math_bits_deBruijn64tab : DataW Unit) = Lib.tabData .u8 debTab := by kernel_rfl
theorem deb_of {cs : Array Value} {p : List MemPlace} (h : DataW.trod (fun _ => ()) Tryz.prog W 0 sp held fuel 261 cs.toList = some (Rows.laid_math_bits_deBruijn64tab, p)) : cs[15]? = some (.int .u8 4) := by
  rw [deb_data] at h
  have := Lib.cells_of_tab Tryz.underlying261 Tryz.underlying5 cs5 cs261 h
  have e : cs = cs.toList.toArray := by simp
  rw [e, this]; rfl
theorem com_row {c0 c1 : Value} {x : DataW Unit × List MemPlace} (h : DataW.trod (fun _ => ()) Tryz.prog W 0 sp held fuel 216 [c0, c1] = some x) :
    ∃ n s, c0 = .int .u32 n ∧ c1 = .string s ∧ x.1 = .agg [.lit (.int .u32 n), .lit (.string s.data.toList)] := by
  obtain ⟨y0, y1, n, hx, _, h0, h1⟩ := trod_struct2 Tryz.underlying216 h
  simp [cs38, Pr.cells9] at h0 h1
  obtain ⟨k, e1, rfl, _⟩ := DataW.trod_int Tryz.underlying38 h0
  obtain ⟨s, e0, rfl, _⟩ := DataW.trod_string Tryz.underlying9 h1
  simp at e0 e1
  exact ⟨k, s, e1, e0, by rw [hx]⟩
theorem list3 {α : Type} (l : List α) (h : l.length = 3) : ∃ a0 a1 a2, l = [a0, a1, a2] := by
  match l, h with
  | [a, b, c], _ => exact ⟨a, b, c, rfl⟩
theorem com_of {cs : Array Value} {p : List MemPlace} (h : DataW.trod (fun _ => ()) Tryz.prog W 0 sp held fuel 217 cs.toList = some (Rows.laid_herald_comm_names, p)) : cs = comCells := by
  obtain ⟨xs, m, rfl, hx, hlen, hn, hel⟩ := DataW.trod_array Tryz.underlying217 h
  obtain ⟨l⟩ := cs
  rw [cs217] at hlen
  rw [cs216] at hel
  simp only [Prod.mk.injEq] at hx
  obtain ⟨hx, _⟩ := hx
  obtain ⟨c0, c1, c2, c3, c4, c5, e⟩ := Pr.list6 l hlen
  have e' : l = [c0, c1, c2, c3, c4, c5] := e
  subst e'
  obtain ⟨x0, x1, x2, e2⟩ := list3 xs hn
  subst e2
  obtain ⟨s0, n0, rfl, rfl, k0⟩ := com_row (x := x0) (hel 0 (by decide))
  obtain ⟨s1, n1, rfl, rfl, k1⟩ := com_row (x := x1) (hel 1 (by decide))
  obtain ⟨s2, n2, rfl, rfl, k2⟩ := com_row (x := x2) (hel 2 (by decide))
  simp only [List.map_cons, List.map_nil, k0, k1, k2, Rows.laid_herald_comm_names, DataW.agg.injEq, List.cons.injEq, DataW.lit.injEq, Lit.string.injEq, Lit.int.injEq, and_true, true_and] at hx
  obtain ⟨⟨rfl, a0⟩, ⟨rfl, a1⟩, ⟨rfl, a2⟩⟩ := hx
  obtain rfl := Pr.bytes_of a0.symm
  obtain rfl := Pr.bytes_of a1.symm
  obtain rfl := Pr.bytes_of a2.symm
  rfl
def debName : String := ((Rows.polcSameRow.laid.map (·.1))[1]?).getD default
def comName : String := ((Rows.polcSameRow.laid.map (·.1))[8]?).getD default
theorem gDeb : Tryz.prog.globalNamed debName = some 7 := by kernel_rfl
theorem gCom : Tryz.prog.globalNamed comName = some 2 := by kernel_rfl
theorem tDeb : (Tryz.prog.globals[7]?).map (·.type) = some 261 := by kernel_rfl
theorem tCom : (Tryz.prog.globals[2]?).map (·.type) = some 217 := by kernel_rfl
theorem two_of {l : List (String × DataW Unit)} (hl : (l.filter fun x => x.1 == debName || x.1 == comName) = [(debName, Rows.laid_math_bits_deBruijn64tab), (comName, Rows.laid_herald_comm_names)])
    (hL : laidMetH Tryz.prog l w) : Deb w ∧ ComAt w := by
  have hF := hL.filter (fun x => x.1 == debName || x.1 == comName)
  rw [hl, MakeChecks.laidMetH_plain _ _ _ (by kernel_rfl)] at hF
  obtain ⟨ps, ⟨g0, t0, cs0, f0, p0, q0, hg0, ht0, hv0, hd0, ⟨g1, t1, cs1, f1, p1, q1, hg1, ht1, hv1, hd1, _, _⟩, _⟩, _, _⟩ := hF
  obtain rfl := Option.some.inj (gDeb.symm.trans hg0)
  obtain rfl := Option.some.inj (gCom.symm.trans hg1)
  obtain rfl := Option.some.inj (tDeb.symm.trans ht0)
  obtain rfl := Option.some.inj (tCom.symm.trans ht1)
  have hc := deb_of hd0
  obtain rfl := com_of hd1
  obtain ⟨t2, fr2, h2⟩ := Pr.heap_of_var gDeb hv0
  exact ⟨by unfold Deb; simp [World.cell?, h2, hc], Pr.heap_of_var gCom hv1⟩
/-- All that the row's list and the world's shape give. -/
theorem env_of {l : List (String × DataW Unit)} (h1 : (l.filter fun x => x.1 == Pr.famName || x.1 == Pr.styName) = [(Pr.famName, Rows.laid_herald_prim_families), (Pr.styName, Rows.laid_herald_prim_styles)])
    (h2 : (l.filter fun x => x.1 == powName || x.1 == rngName || x.1 == synName) = [(powName, Rows.laid_internal_strconv_uint64pow10), (rngName, Rows.laid_strconv_ErrRange), (synName, Rows.laid_strconv_ErrSyntax)])
    (h3 : (l.filter fun x => x.1 == debName || x.1 == comName) = [(debName, Rows.laid_math_bits_deBruijn64tab), (comName, Rows.laid_herald_comm_names)])
    (hL : laidMetH Tryz.prog l w) (hsh : w.ShapedOpen Tryz.prog) : EnvX w :=
  ⟨⟨Pr.tabs_of h1 hL hsh, (three_of h2 hL).1, (two_of h3 hL).1⟩, (two_of h3 hL).2⟩
end Go.Proofs.YthaebbmekonacaaGreatDoor
namespace Go.Proofs.YthaebbmekonacaaGreatDoor
open Go.ChangeShapes Go.WideShapes Go.ChangeAt Go.RowKit Go.Lib Go.Joins Go.Deep Go.WideMaps Go.WideElems
theorem own : ownKnob Tryz.prog.godebug = none := by kernel_rfl
theorem laidOut : laidOutB Tryz.prog = true := by kernel_rfl
theorem looksOff : true = Tryz.pinned.checked.prog.looks [] := by kernel_rfl
theorem st9 : Tryz.prog.wantsStandIn 9 = false := by kernel_rfl
end Go.Proofs.YthaebbmekonacaaGreatDoor
