/-
  Arguments that come in: lists of told prefixes, whole numbers, what is told of a family.
-/
import Derived.Test.YtjliopclpjeieaaDoorJC
import Derived.Test.YtjliopclpjeieaaDoorFE1
import Derived.Deep.Strs
namespace Go.Proofs.YtjliopclpjeieaaDoor
open Go.ChangeShapes Go.WideShapes Go.ChangeAt Go.RowKit Go.Joins Go.Deep Go.WideMaps Go.WideElems
theorem zs46 : Tryd.prog.cellsOf 46 = 6 := by kernel_rfl
theorem zs43 : Tryd.prog.cellsOf 43 = 4 := by kernel_rfl
theorem zs44 : Tryd.prog.cellsOf 44 = 1 := by kernel_rfl
theorem zs41 : Tryd.prog.cellsOf 41 = 1 := by kernel_rfl
theorem zs3 : Tryd.prog.cellsOf 3 = 1 := by kernel_rfl
theorem zs9 : Tryd.prog.cellsOf 9 = 1 := by kernel_rfl
theorem zs28 : Tryd.prog.cellsOf 28 = 1 := by kernel_rfl
theorem zs30 : Tryd.prog.cellsOf 30 = 3 := by kernel_rfl
theorem add_off (b off i : Nat) : Addr.add ⟨b, off, none⟩ i = ⟨b, off + i, none⟩ := by unfold Addr.add; by_cases e : i = 0 <;> simp [e]
theorem u32_bd {n : Int} (h : (Lit.int .u32 n).wf = true) : 0 ≤ n ∧ n < 4294967296 := by
  have hb : 0 ≤ n ∧ n ≤ 4294967295 := by simpa [Lit.wf, IntKind.min, IntKind.max, IntKind.signed, IntKind.bits] using h
  omega
theorem u64_bd {n : Int} (h : (Lit.int .u64 n).wf = true) : 0 ≤ n ∧ n < 18446744073709551616 := by
  have hb : 0 ≤ n ∧ n ≤ 18446744073709551615 := by simpa [Lit.wf, IntKind.min, IntKind.max, IntKind.signed, IntKind.bits] using h
  omega
theorem li6 {α : Type} (l : List α) (h : l.length = 6) : ∃ c0 c1 c2 c3 c4 c5, l = [c0, c1, c2, c3, c4, c5] := by
  match l, h with
  | [c0, c1, c2, c3, c4, c5], _ => exact ⟨c0, c1, c2, c3, c4, c5, rfl⟩
theorem array3 {α : Type} {a : Array α} (h : a.size = 3) : ∃ c0 c1 c2, a = #[c0, c1, c2] := by
  obtain ⟨l⟩ := a
  match l, h with
  | [c0, c1, c2], _ => exact ⟨c0, c1, c2, rfl⟩
variable {H : Type} {enc : TypeId × Value → H} {w : World} {sp : Nat → Bool} {held : Bool} {fuel : Nat}
set_option maxRecDepth 100000 in
theorem nl_of {base : Nat} {cs : List Value} {x : DataW H × List MemPlace} (hl : cs.length = 6) (hf : DataW.trod enc Tryd.prog w base sp held fuel 46 cs = some x) : ∃ n : Nl, cs = n.cs ∧ NlWf n := by
  obtain ⟨c0, c1, c2, c3, c4, c5, rfl⟩ := li6 cs hl
  obtain ⟨y0, y1, y2, n, _, _, h0, h1, h2⟩ := trod_struct3 Tryd.underlying46 hf
  simp only [zs43, zs44, List.drop_zero, List.drop_succ_cons, List.take_succ_cons, List.take_zero] at h0 h1 h2
  obtain ⟨x0, x1, x2, x3, m, _, _, g0, g1, g2, g3⟩ := trod_struct4 Tryd.underlying43 h0
  obtain ⟨f, e0, _, _⟩ := DataW.trod_int (k := .i64) Tryd.underlying3 g0
  obtain ⟨rd, e1, _, q1⟩ := DataW.trod_int (k := .u64) Tryd.underlying41 g1
  obtain ⟨s, e2, _, hs⟩ := DataW.trod_string Tryd.underlying9 g2
  obtain ⟨l, e3, _, _⟩ := DataW.trod_int (k := .i64) Tryd.underlying3 g3
  obtain ⟨id, e4, _, q4⟩ := DataW.trod_int (k := .u32) Tryd.underlying44 h1
  obtain ⟨lb, e5, _, q5⟩ := DataW.trod_int (k := .u32) Tryd.underlying44 h2
  rw [zs3] at e0 e3
  rw [zs41] at e1
  rw [zs9] at e2
  simp at e0 e1 e2 e3 e4 e5
  have b1 := u64_bd q1
  have b4 := u32_bd q4
  have b5 := u32_bd q5
  exact ⟨⟨f, rd, s, l, id, lb⟩, by rw [e0, e1, e2, e3, e4, e5]; rfl, ⟨b1.1, b1.2, b4.1, b4.2, b5.1, b5.2, hs⟩⟩
theorem open_nls {v : Value} {x : DataW H × List MemPlace} (hf : DataW.trod enc Tryd.prog w 0 sp held fuel 28 [v] = some x) : ∃ R, NlsAt w v R ∧ ∀ n ∈ R, NlWf n := by
  rcases open_slice Tryd.underlying28 hf with ⟨hcs, _⟩ | ⟨a, len, cap, m, n, D, Pl, hcs, hb, hl, hm, hmm, hx, hel⟩
  · simp at hcs
    subst hcs
    exact ⟨[], ⟨none, 0, 0, 0, rfl, Or.inr rfl, by simp, fun j hj => by simp at hj⟩, fun n hn => by simp at hn⟩
  · simp at hcs
    subst hcs
    have each : ∀ i, i < len → ∃ C : Nl, NlWf C ∧ ∀ j u, C.cs[j]? = some u → w.cell? (a.add (i * 6 + j)) = some u := by
      intro i hi
      obtain ⟨cs', h1, h2⟩ := hel i (by rw [hmm]; split <;> omega)
      rw [zs46] at h1
      obtain ⟨_, hlen, hcell⟩ := World.cells?_some h1
      obtain ⟨C, rfl, hw⟩ := nl_of hlen h2
      refine ⟨C, hw, fun j u hj => ?_⟩
      have hjl : j < C.cs.length := (List.getElem?_eq_some_iff.mp hj).1
      have d := hcell j (by omega)
      rw [add_add] at d
      rw [d]
      exact hj
    have : Inhabited Nl := ⟨⟨0, 0, ⟨#[]⟩, 0, 0, 0⟩⟩
    obtain ⟨q, hq⟩ := choose_lt each
    by_cases hz : len = 0
    · subst hz
      exact ⟨[], ⟨some a, 0, 0, cap, rfl, Or.inr rfl, by simp, fun j hj => by simp at hj⟩, fun n hn => by simp at hn⟩
    · obtain ⟨b, off, spot⟩ := a
      have hspot : spot = none := by
        obtain ⟨h1, h2⟩ := hq 0 (by omega)
        have := h2 0 (.int .i64 (q 0).f) rfl
        simpa [Addr.add] using World.cell?_spot this
      subst hspot
      refine ⟨(List.range len).map q, ⟨some ⟨b, off, none⟩, b, off, cap, by simp, Or.inl rfl, by simpa using hl, fun j hj => ?_⟩, fun n hn => ?_⟩
      · have hj' : j < len := by simpa using hj
        obtain ⟨h1, h2⟩ := hq j hj'
        simp only [add_off] at h2
        have e : ((List.range len).map q)[j] = q j := by simp
        rw [e]
        exact ⟨h2 0 _ rfl, by have := h2 1 _ rfl; rwa [← Nat.add_assoc] at this, by have := h2 2 _ rfl; rwa [← Nat.add_assoc] at this, by have := h2 3 _ rfl; rwa [← Nat.add_assoc] at this, by have := h2 4 _ rfl; rwa [← Nat.add_assoc] at this, by have := h2 5 _ rfl; rwa [← Nat.add_assoc] at this⟩
      · simp only [List.mem_map, List.mem_range] at hn
        obtain ⟨i, hi, rfl⟩ := hn
        exact (hq i hi).1
theorem open_ints {v : Value} {d : DataW H} {ps : List MemPlace} (hd : DataW.Trod enc Tryd.prog w 0 sp held 38 v d ps) (hv : ∃ ad n c, v = .slice ad n c) : ∃ L, IntsAt w v L := by
  obtain ⟨fuel, hf⟩ := hd
  obtain ⟨ad, n, c, rfl⟩ := hv
  have hf' : DataW.trod enc Tryd.prog w 0 sp held fuel 38 [.slice ad n c] = some (d, ps) := by simpa [Value.cells] using hf
  rcases open_slice Tryd.underlying38 hf' with ⟨hcs, _⟩ | ⟨a, len, cap, m, fu, D, Pl, hcs, hb, hl, hm, hmm, hx, hel⟩
  · simp at hcs
    obtain ⟨rfl, rfl, rfl⟩ := hcs
    exact ⟨[], none, 0, 0, 0, rfl, Or.inr rfl, by simp, fun j hj => by simp at hj⟩
  · simp at hcs
    obtain ⟨rfl, rfl, rfl⟩ := hcs
    have each : ∀ i, i < n → ∃ k : Int, w.cell? (a.add i) = some (.int .i64 k) := by
      intro i hi
      obtain ⟨cs', h1, h2⟩ := hel i (by rw [hmm]; split <;> omega)
      rw [zs3, Nat.mul_one] at h1
      obtain ⟨_, hlen, hcell⟩ := World.cells?_some h1
      obtain ⟨k, e, _, _⟩ := DataW.trod_int (k := .i64) Tryd.underlying3 h2
      refine ⟨k, ?_⟩
      have d := hcell 0 (by omega)
      rw [add_add, Nat.add_zero] at d
      rw [d, e]
      rfl
    obtain ⟨q, hq⟩ := choose_lt each
    by_cases hz : n = 0
    · subst hz
      exact ⟨[], some a, 0, 0, c, rfl, Or.inr rfl, by simp, fun j hj => by simp at hj⟩
    · obtain ⟨b, off, spot⟩ := a
      have hspot : spot = none := by
        have := hq 0 (by omega)
        simpa [Addr.add] using World.cell?_spot this
      subst hspot
      refine ⟨(List.range n).map q, some ⟨b, off, none⟩, b, off, c, by simp, Or.inl rfl, by simpa using hl, fun j hj => ?_⟩
      have hj' : j < n := by simpa using hj
      have h1 := hq j hj'
      simp only [add_off] at h1
      simpa using h1
set_option maxRecDepth 100000 in
theorem open_told {b0 : Nat} {r : Reach} {v : Value} {d : DataW H} {ps : List MemPlace} (hval : Value.okWide Tryd.prog w r b0 30 v) (hd : DataW.Trod enc Tryd.prog w 0 sp held 30 v d ps) :
    ∃ (f : Int) (nx : List UInt8) (vl : Value) (R : List Nl), v = .agg #[.int .i64 f, .string ⟨nx.toArray⟩, vl] ∧ NlsAt w vl R ∧ ∀ n ∈ R, NlWf n := by
  obtain ⟨cs, rfl, hc⟩ := okWide_struct Tryd.underlying30 hval
  rw [zs30] at hc
  obtain ⟨c0, c1, c2, rfl⟩ := array3 hc
  obtain ⟨fuel, hf⟩ := hd
  obtain ⟨y0, y1, y2, n, _, _, h0, h1, h2⟩ := trod_struct3 Tryd.underlying30 hf
  simp only [zs3, zs9, zs28, Value.cells, List.drop_zero, List.drop_succ_cons, List.take_succ_cons, List.take_zero] at h0 h1 h2
  obtain ⟨f, e0, _, _⟩ := DataW.trod_int (k := .i64) Tryd.underlying3 h0
  obtain ⟨s, e1, _, hs⟩ := DataW.trod_string Tryd.underlying9 h1
  obtain ⟨R, hR, hw⟩ := open_nls h2
  simp at e0 e1
  exact ⟨f, s.data.toList, c2, R, by rw [e0, e1], hR, hw⟩
end Go.Proofs.YtjliopclpjeieaaDoor
