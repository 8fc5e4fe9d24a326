/-
  Told prefixes that come in.
-/
import Derived.Test.YtfhbgpepkplbaaaGreatDoorJC
import Derived.Test.YtfhbgpepkplbaaaGreatDoorE3
import Derived.Test.YtfhbgpepkplbaaaGreatDoorS9
import Derived.Deep.Strs
namespace Go.Proofs.YtfhbgpepkplbaaaGreatDoor
open Go.ChangeShapes Go.WideShapes Go.ChangeAt Go.RowKit Go.Lib Go.Joins Go.Deep
theorem zs27 : Tryz.prog.cellsOf 27 = 6 := by kernel_rfl
theorem zs24 : Tryz.prog.cellsOf 24 = 4 := by kernel_rfl
theorem zs25 : Tryz.prog.cellsOf 25 = 1 := by kernel_rfl
theorem zs22 : Tryz.prog.cellsOf 22 = 1 := by kernel_rfl
theorem zs3 : Tryz.prog.cellsOf 3 = 1 := by kernel_rfl
theorem zs9 : Tryz.prog.cellsOf 9 = 1 := by kernel_rfl
theorem st27 : Tryz.prog.wantsStandIn 27 = false := by kernel_rfl
theorem u32_bd {n : Int} (h : (Lit.int .u32 n).wf = true) : 0 ≤ n ∧ n < 4294967296 := by
  have hb : 0 ≤ n ∧ n ≤ 4294967295 := by simpa [Lit.wf, IntKind.min, IntKind.max, IntKind.signed, IntKind.bits] using h
  omega
theorem u64_bd {n : Int} (h : (Lit.int .u64 n).wf = true) : 0 ≤ n ∧ n < 18446744073709551616 := by
  have hb : 0 ≤ n ∧ n ≤ 18446744073709551615 := by simpa [Lit.wf, IntKind.min, IntKind.max, IntKind.signed, IntKind.bits] using h
  omega
theorem array6 {α : Type} {a : Array α} (h : a.size = 6) : ∃ c0 c1 c2 c3 c4 c5, a = #[c0, c1, c2, c3, c4, c5] := by
  obtain ⟨l⟩ := a
  match l, h with
  | [c0, c1, c2, c3, c4, c5], _ => exact ⟨c0, c1, c2, c3, c4, c5, rfl⟩
set_option maxRecDepth 100000 in
theorem open_nlri {H : Type} {enc : TypeId × Value → H} {w : World} {base b0 : Nat} {sp : Nat → Bool} {held : Bool} {r : Reach} {v : Value} {d : DataW H} {ps : List MemPlace}
    (hval : Value.okWide Tryz.prog w r b0 27 v) (hd : DataW.Trod enc Tryz.prog w base sp held 27 v d ps) :
    ∃ n : Nl, v = .agg #[.int .i64 n.f, .int .u64 n.r, .string n.s, .int .i64 n.l, .int .u32 n.id, .int .u32 n.lb] ∧ NlWf n := by
  obtain ⟨cs, rfl, hc⟩ := okWide_struct Tryz.underlying27 hval
  rw [zs27] at hc
  obtain ⟨c0, c1, c2, c3, c4, c5, rfl⟩ := array6 hc
  obtain ⟨fuel, hf⟩ := hd
  obtain ⟨y0, y1, y2, n, _, _, h0, h1, h2⟩ := trod_struct3 Tryz.underlying27 hf
  simp only [zs24, zs25, Value.cells, List.drop_zero, List.drop_succ_cons, List.take_succ_cons, List.take_zero] at h0 h1 h2
  obtain ⟨x0, x1, x2, x3, m, _, _, g0, g1, g2, g3⟩ := trod_struct4 Tryz.underlying24 h0
  obtain ⟨f, e0, _, _⟩ := DataW.trod_int (k := .i64) Tryz.underlying3 g0
  obtain ⟨rd, e1, _, q1⟩ := DataW.trod_int (k := .u64) Tryz.underlying22 g1
  obtain ⟨s, e2, _, hs⟩ := DataW.trod_string Tryz.underlying9 g2
  obtain ⟨l, e3, _, _⟩ := DataW.trod_int (k := .i64) Tryz.underlying3 g3
  obtain ⟨id, e4, _, q4⟩ := DataW.trod_int (k := .u32) Tryz.underlying25 h1
  obtain ⟨lb, e5, _, q5⟩ := DataW.trod_int (k := .u32) Tryz.underlying25 h2
  rw [zs3] at e0 e3
  rw [zs22] at e1
  rw [zs9] at e2
  simp at e0 e1 e2 e3 e4 e5
  have b1 := u64_bd q1
  have b4 := u32_bd q4
  have b5 := u32_bd q5
  exact ⟨⟨f, rd, s, l, id, lb⟩, by rw [e0, e1, e2, e3, e4, e5], ⟨b1.1, b1.2, b4.1, b4.2, b5.1, b5.2, hs⟩⟩
end Go.Proofs.YtfhbgpepkplbaaaGreatDoor
namespace Go.Proofs.YtfhbgpepkplbaaaGreatDoor
open Go.ChangeShapes Go.WideShapes Go.ChangeAt Go.RowKit Go.Joins Go.Deep Go.WideMaps Go.WideElems
theorem st37 : Tryz.prog.wantsStandIn 37 = false := by kernel_rfl
theorem zf3 : Tryz.prog.cellsOf 3 = 1 := by kernel_rfl
theorem zf4 : Tryz.prog.cellsOf 4 = 1 := by kernel_rfl
theorem zf37 : Tryz.prog.cellsOf 37 = 2 := by kernel_rfl
theorem array2f {α : Type} {a : Array α} (h : a.size = 2) : ∃ c0 c1, a = #[c0, c1] := by
  obtain ⟨l⟩ := a
  match l, h with
  | [c0, c1], _ => exact ⟨c0, c1, rfl⟩
variable {H : Type} {enc : TypeId × Value → H} {w : World} {sp : Nat → Bool} {held : Bool} {fuel : Nat}
set_option maxRecDepth 100000 in
theorem open_form {b0 : Nat} {r : Reach} {v : Value} {d : DataW H} {ps : List MemPlace} (hval : Value.okWide Tryz.prog w r b0 37 v) (hd : DataW.Trod enc Tryz.prog w 0 sp held 37 v d ps) :
    ∃ (k : Int) (s : Bool), v = .agg #[.int .i64 k, .bool s] := by
  obtain ⟨cs, rfl, hc⟩ := okWide_struct Tryz.underlying37 hval
  rw [zf37] at hc
  obtain ⟨c0, c1, rfl⟩ := array2f hc
  obtain ⟨fuel, hf⟩ := hd
  obtain ⟨y0, y1, n, _, _, h0, h1⟩ := trod_struct2 Tryz.underlying37 hf
  simp only [zf3, zf4, Value.cells, List.drop_zero, List.drop_succ_cons, List.take_succ_cons, List.take_zero] at h0 h1
  obtain ⟨f, e0, _, _⟩ := DataW.trod_int (k := .i64) Tryz.underlying3 h0
  obtain ⟨s, e1, _⟩ := DataW.trod_bool Tryz.underlying4 h1
  simp at e0 e1
  exact ⟨f, s, by rw [e0, e1]⟩
end Go.Proofs.YtfhbgpepkplbaaaGreatDoor
namespace Go.Proofs.YtfhbgpepkplbaaaGreatDoor
open Go.ChangeShapes Go.WideShapes Go.ChangeAt Go.RowKit Go.Lib Go.Joins Go.Deep Go.WideMaps Go.WideElems
theorem st35 : Tryz.prog.wantsStandIn 35 = false := by kernel_rfl
variable {H : Type} {enc : TypeId × Value → H} {w : World} {sp : Nat → Bool} {held : Bool} {fuel : Nat}
set_option maxRecDepth 100000 in
theorem nl_of {base : Nat} {cs : List Value} {x : DataW H × List MemPlace} (hl : cs.length = 6) (h : DataW.trod enc Tryz.prog w base sp held fuel 27 cs = some x) : ∃ n : Nl, cs = n.cs ∧ NlWf n := by
  match cs, hl with
  | [c0, c1, c2, c3, c4, c5], _ =>
    obtain ⟨y0, y1, y2, n, _, _, h0, h1, h2⟩ := trod_struct3 Tryz.underlying27 h
    simp only [zs24, zs25, List.drop_zero, List.drop_succ_cons, List.take_succ_cons, List.take_zero] at h0 h1 h2
    obtain ⟨x0, x1, x2, x3, m, _, _, g0, g1, g2, g3⟩ := trod_struct4 Tryz.underlying24 h0
    obtain ⟨f, e0, _, _⟩ := DataW.trod_int (k := .i64) Tryz.underlying3 g0
    obtain ⟨rd, e1, _, q1⟩ := DataW.trod_int (k := .u64) Tryz.underlying22 g1
    obtain ⟨s, e2, _, hs⟩ := DataW.trod_string Tryz.underlying9 g2
    obtain ⟨l, e3, _, _⟩ := DataW.trod_int (k := .i64) Tryz.underlying3 g3
    obtain ⟨id, e4, _, q4⟩ := DataW.trod_int (k := .u32) Tryz.underlying25 h1
    obtain ⟨lb, e5, _, q5⟩ := DataW.trod_int (k := .u32) Tryz.underlying25 h2
    rw [zs3] at e0 e3
    rw [zs22] at e1
    rw [zs9] at e2
    simp at e0 e1 e2 e3 e4 e5
    have b1 := u64_bd q1
    have b4 := u32_bd q4
    have b5 := u32_bd q5
    exact ⟨⟨f, rd, s, l, id, lb⟩, by rw [e0, e1, e2, e3, e4, e5]; rfl, ⟨b1.1, b1.2, b4.1, b4.2, b5.1, b5.2, hs⟩⟩
theorem open_nls {v : Value} {x : DataW H × List MemPlace} (hf : DataW.trod enc Tryz.prog w 0 sp held fuel 35 [v] = some x) : ∃ R, ArgN w v R := by
  rcases open_slice Tryz.underlying35 hf with ⟨hcs, _⟩ | ⟨a, len, cap, m, n, D, Pl, hcs, hb, hl, hm, hmm, hx, hel⟩
  · simp at hcs
    subst hcs
    exact ⟨[], ⟨none, 0, 0, 0, rfl, Or.inr rfl, Nat.le_refl _, fun j hj => by simp at hj⟩, by simp, Nat.zero_le _⟩
  · simp at hcs
    subst hcs
    have each : ∀ i, i < len → ∃ C : Nl, NlWf C ∧ ∀ j u, C.cs[j]? = some u → w.cell? (a.add (i * 6 + j)) = some u := by
      intro i hi
      obtain ⟨cs', h1, h2⟩ := hel i (by rw [hmm]; split <;> omega)
      rw [zs27] at h1
      obtain ⟨_, hlen, hcell⟩ := World.cells?_some h1
      obtain ⟨C, rfl, hw⟩ := nl_of hlen h2
      refine ⟨C, hw, fun j u hj => ?_⟩
      have hjl : j < C.cs.length := (List.getElem?_eq_some_iff.mp hj).1
      have d := hcell j (by omega)
      rw [add_add] at d
      rw [d]
      exact hj
    haveI : Inhabited Nl := nlInh
    obtain ⟨q, hq⟩ := choose_lt each
    by_cases hz : len = 0
    · subst hz
      exact ⟨[], ⟨some a, 0, 0, cap, rfl, Or.inr rfl, Nat.zero_le _, fun j hj => by simp at hj⟩, by simp, Nat.zero_le _⟩
    · obtain ⟨b, off, spot⟩ := a
      have hspot : spot = none := by
        obtain ⟨h1, h2⟩ := hq 0 (by omega)
        have := h2 0 _ rfl
        simpa [Addr.add] using World.cell?_spot this
      subst hspot
      refine ⟨(List.range len).map q, ⟨some ⟨b, off, none⟩, b, off, cap, by simp, Or.inl rfl, by simpa using hl, fun j hj => ?_⟩, fun n hn => ?_, by simpa using Nat.le_trans hl hm⟩
      · have hj' : j < len := by simpa using hj
        obtain ⟨h1, h2⟩ := hq j hj'
        simp only [addr_add] at h2
        simp only [List.getElem_map, List.getElem_range]
        exact ⟨h2 0 _ rfl, by rw [Nat.add_assoc]; exact h2 1 _ rfl, by rw [Nat.add_assoc]; exact h2 2 _ rfl, by rw [Nat.add_assoc]; exact h2 3 _ rfl, by rw [Nat.add_assoc]; exact h2 4 _ rfl, by rw [Nat.add_assoc]; exact h2 5 _ rfl⟩
      · obtain ⟨i, hi, rfl⟩ := List.mem_map.1 hn
        exact (hq i (by simpa using hi)).1
end Go.Proofs.YtfhbgpepkplbaaaGreatDoor
