/-
  What comes in: paths that are arguments, and the tables that the rows list.
-/
import Derived.Test.YtbdfigfjoiefiaaDoorS1
import Derived.Test.YtbdfigfjoiefiaaDoorRows
import Derived.WalkKit
import Derived.ProofKit
import Derived.OpenShut
import Derived.LaidSub
import Derived.MakeChecks
import Derived.SizedLaws
import Derived.Lib.SmallJoins
import Derived.Deep.SlicePairs
import Derived.Lib.LaidTab
namespace Go.Proofs.YtbdfigfjoiefiaaDoor
open Go.ChangeShapes Go.WideShapes Go.ChangeAt Go.RowKit Go.Joins Go.Deep Go.WideMaps Go.WideElems
theorem cs23 : Tryd.prog.cellsOf 23 = 1 := by kernel_rfl
theorem cs3 : Tryd.prog.cellsOf 3 = 1 := by kernel_rfl
theorem cs31 : Tryd.prog.cellsOf 31 = 1 := by kernel_rfl
theorem cs48 : Tryd.prog.cellsOf 48 = 2 := by kernel_rfl
theorem cs9 : Tryd.prog.cellsOf 9 = 1 := by kernel_rfl
theorem by23 : Tryd.prog.bytesOf 23 = 4 := by kernel_rfl
theorem by48 : Tryd.prog.bytesOf 48 = 32 := by kernel_rfl
theorem add_off (b off i : Nat) : Addr.add ⟨b, off, none⟩ i = ⟨b, off + i, none⟩ := by unfold Addr.add; by_cases e : i = 0 <;> simp [e]
theorem u32_bd {n : Int} (h : (Lit.int .u32 n).wf = true) : ∃ k : Nat, n = k ∧ k < 4294967296 := by
  have hb : 0 ≤ n ∧ n ≤ 4294967295 := by simpa [Lit.wf, IntKind.min, IntKind.max, IntKind.signed, IntKind.bits] using h
  exact ⟨n.toNat, by omega, by omega⟩
/-- Weights are at most the reach. -/
def Small {H : Type} (t : TypeId) (d : DataW H) : Prop := ∀ x ∈ d.weights Tryd.prog t, x ≤ reachBytes
theorem open_as {H : Type} {enc : TypeId × Value → H} {w : World} {sp : Nat → Bool} {held : Bool} {fuel : Nat} {v : Value} {x : DataW H × List MemPlace} (hf : DataW.trod enc Tryd.prog w 0 sp held fuel 31 [v] = some x) (hs : Small 31 x.1) :
    ∃ l, ASAt w v l := by
  rcases open_slice1 Tryd.underlying31 cs23 hf with ⟨hcs, _⟩ | ⟨a, len, cap, m, n, V, D, Pl, hcs, hb, hl, hm, hmm, hx, hel⟩
  · simp at hcs
    subst hcs
    exact ⟨[], none, 0, 0, 0, rfl, Or.inr rfl, by simp, fun j hj => by simp at hj⟩
  · simp at hcs
    subst hcs
    have hw : len ≤ 35184372088832 := by
      have h := hs ((len + (m - len)) * 4) (by rw [hx]; simp [DataW.weights, Tryd.underlying31, by23])
      simp only [reachBytes] at h
      omega
    have each : ∀ i, i < len → ∃ q : Nat, w.cell? (a.add i) = some (.int .u32 (q : Int)) ∧ q < 4294967296 := by
      intro i hi
      obtain ⟨h1, h2⟩ := hel i (by rw [hmm]; split <;> omega)
      obtain ⟨z, e0, _, wf⟩ := DataW.trod_int (k := .u32) Tryd.underlying23 h2
      simp at e0
      obtain ⟨k, rfl, hk⟩ := u32_bd wf
      exact ⟨k, by rw [h1, e0], hk⟩
    obtain ⟨q, hq⟩ := choose_lt each
    by_cases hz : len = 0
    · subst hz
      exact ⟨[], some a, 0, 0, cap, rfl, Or.inr rfl, by simp, fun j hj => by simp at hj⟩
    · obtain ⟨b, off, spot⟩ := a
      have hspot : spot = none := by
        have := (hq 0 (by omega)).1
        simpa [Addr.add] using World.cell?_spot this
      subst hspot
      refine ⟨(List.range len).map q, some ⟨b, off, none⟩, b, off, cap, by simp, Or.inl rfl, by simp; omega, fun j hj => ?_⟩
      have hj' : j < len := by simpa using hj
      have := hq j hj'
      rw [add_off] at this
      simpa using this
theorem small_part {H : Type} {e : TypeId} {ds : List (DataW H)} {d : DataW H} (h : ∀ x ∈ DataW.weightsAll Tryd.prog e ds, x ≤ reachBytes) (hd : d ∈ ds) : Small e d := by
  induction ds with
  | nil => simp at hd
  | cons c ds ih =>
    intro x hx
    rcases List.mem_cons.mp hd with rfl | hd
    · exact h x (by simp only [DataW.weightsAll, List.mem_append]; exact Or.inl hx)
    · exact ih (fun y hy => h y (by simp only [DataW.weightsAll, List.mem_append]; exact Or.inr hy)) hd x hx
theorem open_path {H : Type} {enc : TypeId × Value → H} {w : World} {sp : Nat → Bool} {held : Bool} {fuel : Nat} {v : Value} {x : DataW H × List MemPlace} (hf : DataW.trod enc Tryd.prog w 0 sp held fuel 22 [v] = some x) (hs : Small 22 x.1) :
    ∃ L, PathAt w v L := by
  rcases open_slice_pairs Tryd.underlying22 Tryd.underlying48 cs48 rfl rfl cs3 cs31 hf with ⟨hcs, _⟩ | ⟨a, len, cap, m, n, V0, V1, D0, D1, P0, P1, hcs, hb, hl, hm, hmm, hx, hel⟩
  · simp at hcs
    subst hcs
    exact ⟨[], none, 0, 0, 0, rfl, Or.inr rfl, by simp, fun j hj => by simp at hj⟩
  · simp at hcs
    subst hcs
    have hw : len ≤ 4398046511104 := by
      have h := hs ((len + (m - len)) * 32) (by rw [hx]; simp [DataW.weights, Tryd.underlying22, by48])
      simp only [reachBytes] at h
      omega
    have each : ∀ i, i < len → ∃ s : Sg, w.cell? (a.add (i * 2)) = some (.int .i64 s.1) ∧ ∃ u, w.cell? (a.add (i * 2 + 1)) = some u ∧ ASAt w u s.2 := by
      intro i hi
      obtain ⟨h0, h1, h2, h3⟩ := hel i (by rw [hmm]; split <;> omega)
      obtain ⟨z, e0, _, _⟩ := DataW.trod_int (k := .i64) Tryd.underlying3 h2
      simp at e0
      have hsm : Small 48 (.agg [D0 i, D1 i]) := small_part (ds := (List.range len).map fun i => .agg [D0 i, D1 i]) (fun y hy => hs y (by rw [hx]; simp only [DataW.weights, Tryd.underlying22, List.mem_cons, List.mem_append]; exact Or.inr (Or.inl hy))) (List.mem_map.mpr ⟨i, by simpa using hi, rfl⟩)
      obtain ⟨l, hl⟩ := open_as h3 (fun y hy => hsm y (by simp only [DataW.weights, Tryd.underlying48]; simp [DataW.weightsEach]; exact Or.inr hy))
      exact ⟨(z, l), by rw [h0, e0], V1 i, h1, hl⟩
    obtain ⟨q, hq⟩ := choose_lt each
    by_cases hz : len = 0
    · subst hz
      exact ⟨[], some a, 0, 0, cap, rfl, Or.inr rfl, by simp, fun j hj => by simp at hj⟩
    · obtain ⟨b, off, spot⟩ := a
      have hspot : spot = none := by
        have := (hq 0 (by omega)).1
        simpa [Addr.add] using World.cell?_spot this
      subst hspot
      refine ⟨(List.range len).map q, some ⟨b, off, none⟩, b, off, cap, by simp, Or.inl rfl, by simp; omega, fun j hj => ?_⟩
      have hj' : j < len := by simpa using hj
      obtain ⟨h0, u, h1, h2⟩ := hq j hj'
      rw [add_off] at h0 h1
      refine ⟨by simpa using h0, u, h1, by simpa using h2⟩
/-- The names of the two tables, as the rows list them. -/
def powName : String := ((Rows.pathSameRow.laid.map (·.1))[2]?).getD default
def brName : String := ((Rows.pathSameRow.laid.map (·.1))[3]?).getD default
theorem gPow : Tryd.prog.globalNamed powName = some 1 := by kernel_rfl
theorem gBr : Tryd.prog.globalNamed brName = some 0 := by kernel_rfl
theorem tPow : (Tryd.prog.globals[1]?).map (·.type) = some 120 := by kernel_rfl
theorem tBr : (Tryd.prog.globals[0]?).map (·.type) = some 91 := by kernel_rfl
theorem cs120 : Tryd.prog.cellsOf 120 = 20 := by kernel_rfl
theorem cs91 : Tryd.prog.cellsOf 91 = 5 := by kernel_rfl
theorem cs61 : Tryd.prog.cellsOf 61 = 1 := by kernel_rfl
theorem bytes_of {s : ByteArray} {l : List UInt8} (h : s.data.toList = l) : s = ⟨l.toArray⟩ := by
  subst h; cases s; simp
theorem list5 {α : Type} (l : List α) (h : l.length = 5) : ∃ a0 a1 a2 a3 a4, l = [a0, a1, a2, a3, a4] := by
  obtain _ | ⟨a0, l⟩ := l
  · simp at h
  obtain _ | ⟨a1, l⟩ := l
  · simp at h
  obtain _ | ⟨a2, l⟩ := l
  · simp at h
  obtain _ | ⟨a3, l⟩ := l
  · simp at h
  obtain _ | ⟨a4, l⟩ := l
  · simp at h
  obtain _ | ⟨b, l⟩ := l
  · exact ⟨a0, a1, a2, a3, a4, rfl⟩
  · simp at h
variable {W : World} {sp : Nat → Bool} {held : Bool} {fuel : Nat}
theorem br_of {cs : Array Value} {p : List MemPlace} (h : DataW.trod (fun _ => ()) Tryd.prog W 0 sp held fuel 91 cs.toList = some (Rows.laid_herald_aspath_brackets, p)) : cs = brCells := by
  obtain ⟨xs, m, rfl, hx, hlen, hn, hel⟩ := DataW.trod_array Tryd.underlying91 h
  obtain ⟨l⟩ := cs
  rw [cs91] at hlen
  rw [cs9] at hel
  simp only [Prod.mk.injEq] at hx
  obtain ⟨hx, _⟩ := hx
  obtain ⟨c0, c1, c2, c3, c4, e⟩ := list5 l hlen
  have e' : l = [c0, c1, c2, c3, c4] := e
  subst e'
  obtain ⟨x0, x1, x2, x3, x4, e2⟩ := list5 xs hn
  subst e2
  obtain ⟨s0, r0, k0, _⟩ := DataW.trod_string Tryd.underlying9 (hel 0 (by decide))
  obtain ⟨s1, r1, k1, _⟩ := DataW.trod_string Tryd.underlying9 (hel 1 (by decide))
  obtain ⟨s2, r2, k2, _⟩ := DataW.trod_string Tryd.underlying9 (hel 2 (by decide))
  obtain ⟨s3, r3, k3, _⟩ := DataW.trod_string Tryd.underlying9 (hel 3 (by decide))
  obtain ⟨s4, r4, k4, _⟩ := DataW.trod_string Tryd.underlying9 (hel 4 (by decide))
  simp at r0 r1 r2 r3 r4 k0 k1 k2 k3 k4
  subst r0 r1 r2 r3 r4
  simp only [List.map_cons, List.map_nil, k0, k1, k2, k3, k4, Rows.laid_herald_aspath_brackets, DataW.agg.injEq, List.cons.injEq, DataW.lit.injEq, Lit.string.injEq, and_true] at hx
  obtain ⟨a0, a1, a2, a3, a4⟩ := hx
  obtain rfl := bytes_of a0.symm
  obtain rfl := bytes_of a1.symm
  obtain rfl := bytes_of a2.symm
  obtain rfl := bytes_of a3.symm
  obtain rfl := bytes_of a4.symm
  rfl
theorem pow_data : (Rows.laid_internal_strconv_uint64pow10 : DataW Unit) = Lib.tabData .u64 Lib.pow10Tab := by kernel_rfl
theorem pow_of {cs : Array Value} {p : List MemPlace} (h : DataW.trod (fun _ => ()) Tryd.prog W 0 sp held fuel 120 cs.toList = some (Rows.laid_internal_strconv_uint64pow10, p)) : cs = powCells := by
  rw [pow_data] at h
  have := Lib.cells_of_tab Tryd.underlying120 Tryd.underlying61 cs61 cs120 h
  have e : cs = cs.toList.toArray := by simp
  rw [e, this]; rfl
theorem heap_of_var {g : Nat} {n : String} {cs : Array Value} (hg : Tryd.prog.globalNamed n = some g) (h : W.var? Tryd.prog n = some cs) : ∃ t fr, W.heap[g]? = some (.cells cs t fr) := by
  simp only [World.var?, hg, Option.bind_some] at h
  split at h
  · rename_i cs' t fr hh
    cases h
    exact ⟨t, fr, hh⟩
  · cases h
/-- What the row's list gives. -/
theorem tabs_of {l : List (String × DataW Unit)} (hl : (l.filter fun x => x.1 == powName || x.1 == brName) = [(powName, Rows.laid_internal_strconv_uint64pow10), (brName, Rows.laid_herald_aspath_brackets)])
    (hL : laidMetH Tryd.prog l W) : Tabs W := by
  have hF := hL.filter (fun x => x.1 == powName || x.1 == brName)
  rw [hl, MakeChecks.laidMetH_plain _ _ _ (by kernel_rfl)] at hF
  obtain ⟨ps, ⟨g0, t0, cs0, f0, p0, q0, hg0, ht0, hv0, hd0, ⟨g1, t1, cs1, f1, p1, q1, hg1, ht1, hv1, hd1, _, _⟩, _⟩, _, _⟩ := hF
  obtain rfl := Option.some.inj (gPow.symm.trans hg0)
  obtain rfl := Option.some.inj (gBr.symm.trans hg1)
  obtain rfl := Option.some.inj (tPow.symm.trans ht0)
  obtain rfl := Option.some.inj (tBr.symm.trans ht1)
  obtain rfl := pow_of hd0
  obtain rfl := br_of hd1
  exact ⟨heap_of_var gBr hv1, heap_of_var gPow hv0⟩
end Go.Proofs.YtbdfigfjoiefiaaDoor
