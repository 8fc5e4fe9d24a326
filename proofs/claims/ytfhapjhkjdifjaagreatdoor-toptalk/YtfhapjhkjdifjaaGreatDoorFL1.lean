/-
  What the row's list of variables gives: the table of sizes lies in its block.
-/
import Derived.Test.YtfhapjhkjdifjaaGreatDoorFZ1
import Derived.Test.YtfhapjhkjdifjaaGreatDoorRows
import Derived.ProofKit
import Derived.OpenShut
import Derived.LaidSub
import Derived.MakeChecks
import Derived.Deep.Strs
import Derived.Lib.SmallJoins
namespace Go.Proofs.YtfhapjhkjdifjaaGreatDoor.Fr
open Go.ChangeShapes Go.WideShapes Go.ChangeAt Go.RowKit Go.Joins Go.Deep Go.WideMaps Go.WideElems
variable {H : Type} {enc : TypeId × Value → H} {W : World} {sp : Nat → Bool} {held : Bool} {fuel : Nat} {x : DataW H × List MemPlace}
theorem cells63 : Tryz.prog.cellsOf 94 = 2 := by kernel_rfl
theorem cells64 : Tryz.prog.cellsOf 95 = 12 := by kernel_rfl
theorem cells3 : Tryz.prog.cellsOf 3 = 1 := by kernel_rfl
theorem sz_row {c0 c1 : Value} (h : DataW.trod enc Tryz.prog W 0 sp held fuel 94 [c0, c1] = some x) :
    ∃ n m, c0 = .int .i64 n ∧ c1 = .int .i64 m ∧ x.1 = .agg [.lit (.int .i64 n), .lit (.int .i64 m)] := by
  obtain ⟨y0, y1, n, hx, _, h0, h1⟩ := trod_struct2 Tryz.underlying94 h
  simp [cells3] at h0 h1
  obtain ⟨k, e0, rfl, _⟩ := DataW.trod_int Tryz.underlying3 h0
  obtain ⟨m, e1, rfl, _⟩ := DataW.trod_int Tryz.underlying3 h1
  simp at e0 e1
  exact ⟨k, m, e0, e1, by rw [hx]⟩
theorem list6 {α : Type} (l : List α) (h : l.length = 6) : ∃ a0 a1 a2 a3 a4 a5, l = [a0, a1, a2, a3, a4, a5] := by
  match l, h with
  | [a0, a1, a2, a3, a4, a5], _ => exact ⟨a0, a1, a2, a3, a4, a5, rfl⟩
theorem list12 {α : Type} (l : List α) (h : l.length = 12) : ∃ a0 a1 a2 a3 a4 a5 a6 a7 a8 a9 a10 a11, l = [a0, a1, a2, a3, a4, a5, a6, a7, a8, a9, a10, a11] := by
  match l, h with
  | [a0, a1, a2, a3, a4, a5, a6, a7, a8, a9, a10, a11], _ => exact ⟨a0, a1, a2, a3, a4, a5, a6, a7, a8, a9, a10, a11, rfl⟩
/-- The cells of the table of sizes. -/
def szCells : Array Value := #[.int .i64 0, .int .i64 0, .int .i64 29, .int .i64 4096, .int .i64 23, .int .i64 4096, .int .i64 21, .int .i64 4096, .int .i64 19, .int .i64 19, .int .i64 23, .int .i64 23]
theorem sz_of {cs : Array Value} {p : List MemPlace} (h : DataW.trod (fun _ => ()) Tryz.prog W 0 sp held fuel 95 cs.toList = some (Rows.laid_herald_frame_sizes, p)) : cs = szCells := by
  obtain ⟨xs, m, rfl, hx, hlen, hn, hel⟩ := DataW.trod_array Tryz.underlying95 h
  obtain ⟨l⟩ := cs
  rw [cells64] at hlen
  rw [cells63] at hel
  simp only [Prod.mk.injEq] at hx
  obtain ⟨hx, _⟩ := hx
  obtain ⟨c0, c1, c2, c3, c4, c5, c6, c7, c8, c9, c10, c11, e⟩ := list12 l hlen
  have e' : l = [c0, c1, c2, c3, c4, c5, c6, c7, c8, c9, c10, c11] := e
  subst e'
  obtain ⟨x0, x1, x2, x3, x4, x5, e2⟩ := list6 xs hn
  subst e2
  obtain ⟨n0, m0, rfl, rfl, k0⟩ := sz_row (x := x0) (hel 0 (by decide))
  obtain ⟨n1, m1, rfl, rfl, k1⟩ := sz_row (x := x1) (hel 1 (by decide))
  obtain ⟨n2, m2, rfl, rfl, k2⟩ := sz_row (x := x2) (hel 2 (by decide))
  obtain ⟨n3, m3, rfl, rfl, k3⟩ := sz_row (x := x3) (hel 3 (by decide))
  obtain ⟨n4, m4, rfl, rfl, k4⟩ := sz_row (x := x4) (hel 4 (by decide))
  obtain ⟨n5, m5, rfl, rfl, k5⟩ := sz_row (x := x5) (hel 5 (by decide))
  simp only [List.map_cons, List.map_nil, k0, k1, k2, k3, k4, k5, Rows.laid_herald_frame_sizes, DataW.agg.injEq, List.cons.injEq, DataW.lit.injEq, Lit.int.injEq, and_true, true_and] at hx
  obtain ⟨⟨rfl, rfl⟩, ⟨rfl, rfl⟩, ⟨rfl, rfl⟩, ⟨rfl, rfl⟩, ⟨rfl, rfl⟩, ⟨rfl, rfl⟩⟩ := hx
  rfl
/-- The name of the table, as the rows list it. -/
def szName : String := ((Rows.topTalkRow.laid.map (·.1))[0]?).getD default
theorem gSz : Tryz.prog.globalNamed szName = some 0 := by kernel_rfl
theorem tSz : (Tryz.prog.globals[0]?).map (·.type) = some 95 := by kernel_rfl
theorem heap_of_var {g : Nat} {n : String} {cs : Array Value} (hg : Tryz.prog.globalNamed n = some g) (h : W.var? Tryz.prog n = some cs) : ∃ t fr, W.heap[g]? = some (.cells cs t fr) := by
  simp only [World.var?, hg, Option.bind_some] at h
  split at h
  · rename_i cs' t fr hh
    cases h
    exact ⟨t, fr, hh⟩
  · cases h
theorem tb_of_sz (h : ∃ t fr, W.heap[0]? = some (.cells szCells t fr)) : SzAt W := by
  obtain ⟨t, fr, h⟩ := h
  constructor <;> simp [World.cell?, h, szCells]
/-- What the row's list gives. -/
theorem tabs_of {l : List (String × DataW Unit)} (hl : (l.filter fun x => x.1 == szName) = [(szName, Rows.laid_herald_frame_sizes)])
    (hL : laidMetH Tryz.prog l W) : SzAt W := by
  have hF := hL.filter (fun x => x.1 == szName)
  rw [hl, MakeChecks.laidMetH_plain _ _ _ (by kernel_rfl)] at hF
  obtain ⟨ps, ⟨g0, t0, cs0, f0, p0, q0, hg0, ht0, hv0, hd0, _, _⟩, _, _⟩ := hF
  obtain rfl := Option.some.inj (gSz.symm.trans hg0)
  obtain rfl := Option.some.inj (tSz.symm.trans ht0)
  obtain rfl := sz_of hd0
  exact tb_of_sz (heap_of_var gSz hv0)
end Go.Proofs.YtfhapjhkjdifjaaGreatDoor.Fr
