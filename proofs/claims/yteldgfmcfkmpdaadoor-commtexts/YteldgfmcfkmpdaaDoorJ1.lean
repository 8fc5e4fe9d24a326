/-
  What comes in: lists of communities that are arguments, and the tables that the rows list.
-/
import Derived.Test.YteldgfmcfkmpdaaDoorT1
import Derived.Test.YteldgfmcfkmpdaaDoorRows
import Derived.WalkKit
import Derived.ProofKit
import Derived.OpenShut
import Derived.LaidSub
import Derived.MakeChecks
import Derived.SizedLaws
import Derived.Lib.SmallJoins
import Derived.Deep.SlicePairs
import Derived.Lib.LaidTab
namespace Go.Proofs.YteldgfmcfkmpdaaDoor
open Go.ChangeShapes Go.WideShapes Go.ChangeAt Go.RowKit Go.Joins Go.Deep Go.WideMaps Go.WideElems
theorem cs23 : Tryd.prog.cellsOf 23 = 1 := by kernel_rfl
theorem cs42 : Tryd.prog.cellsOf 42 = 1 := by kernel_rfl
theorem cs69 : Tryd.prog.cellsOf 69 = 3 := by kernel_rfl
theorem cs36 : Tryd.prog.cellsOf 36 = 3 := by kernel_rfl
theorem cs74 : Tryd.prog.cellsOf 74 = 2 := by kernel_rfl
theorem cs75 : Tryd.prog.cellsOf 75 = 6 := by kernel_rfl
theorem cs9 : Tryd.prog.cellsOf 9 = 1 := by kernel_rfl
theorem by23 : Tryd.prog.bytesOf 23 = 4 := by kernel_rfl
theorem by42 : Tryd.prog.bytesOf 42 = 8 := by kernel_rfl
theorem by69 : Tryd.prog.bytesOf 69 = 12 := by kernel_rfl
theorem add_off (b off i : Nat) : Addr.add ⟨b, off, none⟩ i = ⟨b, off + i, none⟩ := by unfold Addr.add; by_cases e : i = 0 <;> simp [e]
theorem u32_bd {n : Int} (h : (Lit.int .u32 n).wf = true) : ∃ k : Nat, n = k ∧ k < 4294967296 := by
  have hb : 0 ≤ n ∧ n ≤ 4294967295 := by simpa [Lit.wf, IntKind.min, IntKind.max, IntKind.signed, IntKind.bits] using h
  exact ⟨n.toNat, by omega, by omega⟩
theorem u64_bd {n : Int} (h : (Lit.int .u64 n).wf = true) : ∃ k : Nat, n = k ∧ k < 18446744073709551616 := by
  have hb : 0 ≤ n ∧ n ≤ 18446744073709551615 := by simpa [Lit.wf, IntKind.min, IntKind.max, IntKind.signed, IntKind.bits] using h
  exact ⟨n.toNat, by omega, by omega⟩
/-- Weights are at most the reach. -/
def Small {H : Type} (t : TypeId) (d : DataW H) : Prop := ∀ x ∈ d.weights Tryd.prog t, x ≤ reachBytes
theorem list3 {α : Type} (l : List α) (h : l.length = 3) : ∃ a0 a1 a2, l = [a0, a1, a2] := by
  match l, h with
  | [a0, a1, a2], _ => exact ⟨a0, a1, a2, rfl⟩
variable {H : Type} {enc : TypeId × Value → H} {w : World} {sp : Nat → Bool} {held : Bool} {fuel : Nat}
theorem open_plain {v : Value} {x : DataW H × List MemPlace} (hf : DataW.trod enc Tryd.prog w 0 sp held fuel 22 [v] = some x) (hs : Small 22 x.1) : ∃ l, PlainAt w v l := by
  rcases open_slice1 Tryd.underlying22 cs23 hf with ⟨hcs, _⟩ | ⟨a, len, cap, m, n, V, D, Pl, hcs, hb, hl, hm, hmm, hx, hel⟩
  · simp at hcs
    subst hcs
    exact ⟨[], none, 0, 0, 0, rfl, Or.inr rfl, by simp, fun j hj => by simp at hj⟩
  · simp at hcs
    subst hcs
    have hw : len ≤ 35184372088832 := by
      have h := hs ((len + (m - len)) * 4) (by rw [hx]; simp [DataW.weights, Tryd.underlying22, by23])
      simp only [reachBytes] at h
      omega
    have each : ∀ i, i < len → ∃ q : Nat, w.cell? (a.add i) = some (.int .u32 (q : Int)) ∧ q < 4294967296 := by
      intro i hi
      obtain ⟨h1, h2⟩ := hel i (by rw [hmm]; split <;> omega)
      obtain ⟨z, e0, _, wf⟩ := DataW.trod_int (k := .u32) Tryd.underlying23 h2
      simp at e0
      obtain ⟨k, rfl, hk⟩ := u32_bd wf
      exact ⟨k, by rw [h1, e0], hk⟩
    obtain ⟨q, hq⟩ := choose_lt each
    by_cases hz : len = 0
    · subst hz
      exact ⟨[], some a, 0, 0, cap, rfl, Or.inr rfl, by simp, fun j hj => by simp at hj⟩
    · obtain ⟨b, off, spot⟩ := a
      have hspot : spot = none := by
        have := (hq 0 (by omega)).1
        simpa [Addr.add] using World.cell?_spot this
      subst hspot
      refine ⟨(List.range len).map q, some ⟨b, off, none⟩, b, off, cap, by simp, Or.inl rfl, by simp; omega, fun j hj => ?_⟩
      have hj' : j < len := by simpa using hj
      have := hq j hj'
      rw [add_off] at this
      simpa using this
theorem open_exts {v : Value} {x : DataW H × List MemPlace} (hf : DataW.trod enc Tryd.prog w 0 sp held fuel 33 [v] = some x) (hs : Small 33 x.1) : ∃ l, ExtsAt w v l := by
  rcases open_slice1 Tryd.underlying33 cs42 hf with ⟨hcs, _⟩ | ⟨a, len, cap, m, n, V, D, Pl, hcs, hb, hl, hm, hmm, hx, hel⟩
  · simp at hcs
    subst hcs
    exact ⟨[], none, 0, 0, 0, rfl, Or.inr rfl, by simp, fun j hj => by simp at hj⟩
  · simp at hcs
    subst hcs
    have hw : len ≤ 35184372088832 := by
      have h := hs ((len + (m - len)) * 8) (by rw [hx]; simp [DataW.weights, Tryd.underlying33, by42])
      simp only [reachBytes] at h
      omega
    have each : ∀ i, i < len → ∃ q : Nat, w.cell? (a.add i) = some (.int .u64 (q : Int)) ∧ q < 18446744073709551616 := by
      intro i hi
      obtain ⟨h1, h2⟩ := hel i (by rw [hmm]; split <;> omega)
      obtain ⟨z, e0, _, wf⟩ := DataW.trod_int (k := .u64) Tryd.underlying42 h2
      simp at e0
      obtain ⟨k, rfl, hk⟩ := u64_bd wf
      exact ⟨k, by rw [h1, e0], hk⟩
    obtain ⟨q, hq⟩ := choose_lt each
    by_cases hz : len = 0
    · subst hz
      exact ⟨[], some a, 0, 0, cap, rfl, Or.inr rfl, by simp, fun j hj => by simp at hj⟩
    · obtain ⟨b, off, spot⟩ := a
      have hspot : spot = none := by
        have := (hq 0 (by omega)).1
        simpa [Addr.add] using World.cell?_spot this
      subst hspot
      refine ⟨(List.range len).map q, some ⟨b, off, none⟩, b, off, cap, by simp, Or.inl rfl, by simp; omega, fun j hj => ?_⟩
      have hj' : j < len := by simpa using hj
      have := hq j hj'
      rw [add_off] at this
      simpa using this
theorem open_larges {v : Value} {x : DataW H × List MemPlace} (hf : DataW.trod enc Tryd.prog w 0 sp held fuel 34 [v] = some x) (hs : Small 34 x.1) : ∃ l, LargesAt w v l := by
  rcases open_slice Tryd.underlying34 hf with ⟨hcs, _⟩ | ⟨a, len, cap, m, n, D, Pl, hcs, hb, hl, hm, hmm, hx, hel⟩
  · simp at hcs
    subst hcs
    exact ⟨[], none, 0, 0, 0, rfl, Or.inr rfl, by simp, fun j hj => by simp at hj⟩
  · simp at hcs
    subst hcs
    have hw : len ≤ 35184372088832 := by
      have h := hs ((len + (m - len)) * 12) (by rw [hx]; simp [DataW.weights, Tryd.underlying34, by69])
      simp only [reachBytes] at h
      omega
    have each : ∀ i, i < len → ∃ q : Lg, (w.cell? (a.add (i * 3)) = some (.int .u32 (q.1 : Int)) ∧ w.cell? (a.add (i * 3 + 1)) = some (.int .u32 (q.2.1 : Int)) ∧ w.cell? (a.add (i * 3 + 2)) = some (.int .u32 (q.2.2 : Int))) ∧ q.1 < 4294967296 ∧ q.2.1 < 4294967296 ∧ q.2.2 < 4294967296 := by
      intro i hi
      obtain ⟨cs', h1, h2⟩ := hel i (by rw [hmm]; split <;> omega)
      rw [cs69] at h1
      obtain ⟨_, hlen, hcell⟩ := World.cells?_some h1
      obtain ⟨y0, y1, y2, k, _, _, g0, g1, g2⟩ := trod_struct3 Tryd.underlying69 h2
      obtain ⟨v0, v1, v2, rfl⟩ := list3 cs' hlen
      · simp [cs23] at g0 g1 g2
        obtain ⟨z0, e0, _, wf0⟩ := DataW.trod_int (k := .u32) Tryd.underlying23 g0
        obtain ⟨z1, e1, _, wf1⟩ := DataW.trod_int (k := .u32) Tryd.underlying23 g1
        obtain ⟨z2, e2, _, wf2⟩ := DataW.trod_int (k := .u32) Tryd.underlying23 g2
        simp at e0 e1 e2
        obtain ⟨k0, rfl, hk0⟩ := u32_bd wf0
        obtain ⟨k1, rfl, hk1⟩ := u32_bd wf1
        obtain ⟨k2, rfl, hk2⟩ := u32_bd wf2
        have d0 := hcell 0 (by omega)
        have d1 := hcell 1 (by omega)
        have d2 := hcell 2 (by omega)
        rw [add_add] at d0 d1 d2
        exact ⟨(k0, k1, k2), ⟨by simpa [e0] using d0, by simpa [e1] using d1, by simpa [e2] using d2⟩, hk0, hk1, hk2⟩
    obtain ⟨q, hq⟩ := choose_lt each
    by_cases hz : len = 0
    · subst hz
      exact ⟨[], some a, 0, 0, cap, rfl, Or.inr rfl, by simp, fun j hj => by simp at hj⟩
    · obtain ⟨b, off, spot⟩ := a
      have hspot : spot = none := by
        have := (hq 0 (by omega)).1.1
        simpa [Addr.add] using World.cell?_spot this
      subst hspot
      refine ⟨(List.range len).map q, some ⟨b, off, none⟩, b, off, cap, by simp, Or.inl rfl, by simp; omega, fun j hj => ?_⟩
      have hj' : j < len := by simpa using hj
      have := hq j hj'
      simp only [add_off] at this
      simpa [Nat.add_assoc] using this
/-- The names of the two tables, as the rows list them. -/
def powName : String := ((Rows.commLaysRow.laid.map (·.1))[2]?).getD default
def nmsName : String := ((Rows.commLaysRow.laid.map (·.1))[3]?).getD default
theorem gPow : Tryd.prog.globalNamed powName = some 4 := by kernel_rfl
theorem gNms : Tryd.prog.globalNamed nmsName = some 0 := by kernel_rfl
theorem tPow : (Tryd.prog.globals[4]?).map (·.type) = some 173 := by kernel_rfl
theorem tNms : (Tryd.prog.globals[0]?).map (·.type) = some 75 := by kernel_rfl
theorem cs173 : Tryd.prog.cellsOf 173 = 20 := by kernel_rfl
theorem bytes_of {s : ByteArray} {l : List UInt8} (h : s.data.toList = l) : s = ⟨l.toArray⟩ := by
  subst h; cases s; simp
theorem list6 {α : Type} (l : List α) (h : l.length = 6) : ∃ a0 a1 a2 a3 a4 a5, l = [a0, a1, a2, a3, a4, a5] := by
  match l, h with
  | [a0, a1, a2, a3, a4, a5], _ => exact ⟨a0, a1, a2, a3, a4, a5, rfl⟩
theorem pair_of {u v : Value} {x : DataW Unit × List MemPlace} {n : Nat} (h : DataW.trod (fun _ => ()) Tryd.prog w 0 sp held n 74 [u, v] = some x) : ∃ (z : Int) (s : ByteArray), u = .int .u32 z ∧ v = .string s ∧ x.1 = .agg [.lit (.int .u32 z), .lit (.string s.data.toList)] := by
  obtain ⟨y0, y1, k, hx, _, g0, g1⟩ := trod_struct2 Tryd.underlying74 h
  simp [cs23, cs9] at g0 g1
  obtain ⟨z, e0, r0, _⟩ := DataW.trod_int (k := .u32) Tryd.underlying23 g0
  obtain ⟨s, e1, r1, _⟩ := DataW.trod_string Tryd.underlying9 g1
  simp at e0 e1
  exact ⟨z, s, e0, e1, by rw [hx, r0, r1]⟩
theorem nms_of {cs : Array Value} {p : List MemPlace} (h : DataW.trod (fun _ => ()) Tryd.prog w 0 sp held fuel 75 cs.toList = some (Rows.laid_herald_comm_names, p)) : cs = nameCells := by
  obtain ⟨xs, m, rfl, hx, hlen, hn, hel⟩ := DataW.trod_array Tryd.underlying75 h
  obtain ⟨l⟩ := cs
  rw [cs75] at hlen
  rw [cs74] at hel
  simp only [Prod.mk.injEq] at hx
  obtain ⟨hx, _⟩ := hx
  obtain ⟨c0, c1, c2, c3, c4, c5, e⟩ := list6 l hlen
  have e' : l = [c0, c1, c2, c3, c4, c5] := e
  subst e'
  obtain ⟨x0, x1, x2, e2⟩ := list3 xs hn
  subst e2
  obtain ⟨z0, s0, r0, t0, k0⟩ := pair_of (hel 0 (by decide))
  obtain ⟨z1, s1, r1, t1, k1⟩ := pair_of (hel 1 (by decide))
  obtain ⟨z2, s2, r2, t2, k2⟩ := pair_of (hel 2 (by decide))
  subst r0 r1 r2 t0 t1 t2
  simp only [List.map_cons, List.map_nil, k0, k1, k2, Rows.laid_herald_comm_names, DataW.agg.injEq, List.cons.injEq, DataW.lit.injEq, Lit.string.injEq, Lit.int.injEq, and_true, true_and] at hx
  obtain ⟨⟨a0, b0⟩, ⟨a1, b1⟩, ⟨a2, b2⟩⟩ := hx
  subst a0 a1 a2
  obtain rfl := bytes_of b0.symm
  obtain rfl := bytes_of b1.symm
  obtain rfl := bytes_of b2.symm
  rfl
theorem pow_data : (Rows.laid_internal_strconv_uint64pow10 : DataW Unit) = Lib.tabData .u64 Lib.pow10Tab := by kernel_rfl
theorem pow_of {cs : Array Value} {p : List MemPlace} (h : DataW.trod (fun _ => ()) Tryd.prog w 0 sp held fuel 173 cs.toList = some (Rows.laid_internal_strconv_uint64pow10, p)) : cs = powCells := by
  rw [pow_data] at h
  have := Lib.cells_of_tab Tryd.underlying173 Tryd.underlying42 cs42 cs173 h
  have e : cs = cs.toList.toArray := by simp
  rw [e, this]; rfl
theorem heap_of_var {g : Nat} {n : String} {cs : Array Value} (hg : Tryd.prog.globalNamed n = some g) (h : w.var? Tryd.prog n = some cs) : ∃ t fr, w.heap[g]? = some (.cells cs t fr) := by
  simp only [World.var?, hg, Option.bind_some] at h
  split at h
  · rename_i cs' t fr hh
    cases h
    exact ⟨t, fr, hh⟩
  · cases h
/-- What the row's list gives. -/
theorem tabs_of {l : List (String × DataW Unit)} (hl : (l.filter fun x => x.1 == powName || x.1 == nmsName) = [(powName, Rows.laid_internal_strconv_uint64pow10), (nmsName, Rows.laid_herald_comm_names)])
    (hL : laidMetH Tryd.prog l w) : Tabs w := by
  have hF := hL.filter (fun x => x.1 == powName || x.1 == nmsName)
  rw [hl, MakeChecks.laidMetH_plain _ _ _ (by kernel_rfl)] at hF
  obtain ⟨ps, ⟨g0, t0, cs0, f0, p0, q0, hg0, ht0, hv0, hd0, ⟨g1, t1, cs1, f1, p1, q1, hg1, ht1, hv1, hd1, _, _⟩, _⟩, _, _⟩ := hF
  obtain rfl := Option.some.inj (gPow.symm.trans hg0)
  obtain rfl := Option.some.inj (gNms.symm.trans hg1)
  obtain rfl := Option.some.inj (tPow.symm.trans ht0)
  obtain rfl := Option.some.inj (tNms.symm.trans ht1)
  obtain rfl := pow_of hd0
  obtain rfl := nms_of hd1
  exact ⟨heap_of_var gNms hv1, heap_of_var gPow hv0⟩
end Go.Proofs.YteldgfmcfkmpdaaDoor
