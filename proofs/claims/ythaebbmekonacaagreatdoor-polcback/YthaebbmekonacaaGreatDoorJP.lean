/-
  Terms and policies that come in.
-/
import Derived.Test.YthaebbmekonacaaGreatDoorJEC
import Derived.Test.YthaebbmekonacaaGreatDoorS6
import Derived.SizedLaws
set_option linter.unusedVariables false
set_option linter.unusedSimpArgs false
namespace Go.Proofs.YthaebbmekonacaaGreatDoor
open Go.ChangeShapes Go.WideShapes Go.ChangeAt Go.RowKit Go.Lib Go.Joins Go.Deep Go.WideMaps Go.WideElems
variable {H : Type} {enc : TypeId × Value → H} {w : World} {sp : Nat → Bool} {held : Bool} {fuel : Nat}
/-- What it weighs is within reach. -/
def Light (t : TypeId) (d : DataW H) : Prop := ∀ x ∈ d.weights Tryz.prog t, x ≤ reachBytes
theorem light_each {ts : List TypeId} {ds : List (DataW H)} (h : (DataW.weightsEach Tryz.prog ts ds).all (· ≤ reachBytes) = true) (j : Nat) (t : TypeId) (d : DataW H) (ht : ts[j]? = some t) (hd : ds[j]? = some d) : Light t d := by
  induction ts generalizing ds j with
  | nil => simp at ht
  | cons t0 ts ih =>
    cases ds with
    | nil => simp at hd
    | cons d0 ds =>
      simp only [DataW.weightsEach, List.all_append, Bool.and_eq_true] at h
      cases j with
      | zero =>
        simp at ht hd
        subst ht hd
        intro x hx
        have := List.all_eq_true.mp h.1 x hx
        simpa using this
      | succ j => exact ih h.2 j (by simpa using ht) (by simpa using hd)
theorem by37 : Tryz.prog.bytesOf 37 = 40 := by kernel_rfl
theorem by40 : Tryz.prog.bytesOf 40 = 48 := by kernel_rfl
theorem by63 : Tryz.prog.bytesOf 63 = 48 := by kernel_rfl
theorem weigh_mem {P : Program} {e : TypeId} {d : DataW H} {y : Nat} : ∀ {l : List (DataW H)}, d ∈ l → y ∈ d.weights P e → y ∈ DataW.weightsAll P e l
  | c :: l, h, hy => by
    rw [DataW.weightsAll]
    rcases List.mem_cons.mp h with h | h
    · subst h; exact List.mem_append_left _ hy
    · exact List.mem_append_right _ (weigh_mem h hy)
theorem len_bound {t e : TypeId} {k n : Nat} (ht : Tryz.prog.underlying t = some (.slice e)) (hb : Tryz.prog.bytesOf e = k) {v : Value} {x : DataW H × List MemPlace} (hf : DataW.trod enc Tryz.prog w 0 sp held fuel t [v] = some x) (hs : Light t x.1) (hv : ∃ ad c, v = .slice ad n c) : n * k ≤ reachBytes := by
  obtain ⟨ad, c, rfl⟩ := hv
  rcases open_slice ht hf with ⟨hcs, _⟩ | ⟨a, len, cap, m, fu, D, Pl, hcs, _, hl, hm, hmm, hx, hel⟩
  · simp at hcs
    obtain ⟨_, rfl, _⟩ := hcs
    simp
  · simp at hcs
    obtain ⟨_, rfl, _⟩ := hcs
    have h := hs ((n + (m - n)) * k) (by rw [hx]; simp [DataW.weights, ht, hb])
    exact Nat.le_trans (Nat.mul_le_mul_right k (by omega)) h
theorem u32_bd {n : Int} (h : (Lit.int .u32 n).wf = true) : ∃ k : Nat, n = k ∧ k < 4294967296 := by
  have hb : 0 ≤ n ∧ n ≤ 4294967295 := by simpa [Lit.wf, IntKind.min, IntKind.max, IntKind.signed, IntKind.bits] using h
  exact ⟨n.toNat, by omega, by omega⟩
theorem li4 {α : Type} (l : List α) (h : l.length = 4) : ∃ c0 c1 c2 c3, l = [c0, c1, c2, c3] := by
  match l, h with
  | [c0, c1, c2, c3], _ => exact ⟨c0, c1, c2, c3, rfl⟩
theorem li2 {α : Type} (l : List α) (h : l.length = 2) : ∃ c0 c1, l = [c0, c1] := by
  match l, h with
  | [c0, c1], _ => exact ⟨c0, c1, rfl⟩
theorem open_conds {v : Value} {x : DataW H × List MemPlace} (hf : DataW.trod enc Tryz.prog w 0 sp held fuel 60 [v] = some x) (hv : ∃ ad n c, v = .slice ad n c) : ∃ L, CdAt w v L ∧ ∀ c ∈ L, c.nm.size ≤ maxLen := by
  obtain ⟨ad, n, c, rfl⟩ := hv
  rcases open_slice Tryz.underlying60 hf with ⟨hcs, _⟩ | ⟨a, len, cap, m, fu, D, Pl, hcs, hb, hl, hm, hmm, hx, hel⟩
  · simp at hcs
    obtain ⟨rfl, rfl, rfl⟩ := hcs
    exact ⟨[], ⟨none, 0, 0, 0, rfl, Or.inr rfl, by simp, fun j hj => by simp at hj⟩, fun a h => by cases h⟩
  · simp at hcs
    obtain ⟨rfl, rfl, rfl⟩ := hcs
    have each : ∀ i, i < n → ∃ k : Cd, k.nm.size ≤ maxLen ∧ w.cell? (a.add (i * 4)) = some (.int .i64 k.k) ∧ w.cell? (a.add (i * 4 + 1)) = some (.bool k.nt) ∧ w.cell? (a.add (i * 4 + 2)) = some (.string k.nm) ∧ w.cell? (a.add (i * 4 + 3)) = some (.int .i64 k.n) := by
      intro i hi
      obtain ⟨cs', h1, h2⟩ := hel i (by rw [hmm]; split <;> omega)
      rw [zs37] at h1
      obtain ⟨_, hlen, hcell⟩ := World.cells?_some h1
      obtain ⟨c0, c1, c2, c3, rfl⟩ := li4 cs' hlen
      obtain ⟨y0, y1, y2, y3, nn, _, _, g0, g1, g2, g3⟩ := trod_struct4 Tryz.underlying37 h2
      simp only [zs3, zs4, zs9, List.drop_zero, List.drop_succ_cons, List.take_succ_cons, List.take_zero] at g0 g1 g2 g3
      obtain ⟨f0, e0, _, _⟩ := DataW.trod_int (k := .i64) Tryz.underlying3 g0
      obtain ⟨f1, e1, _⟩ := DataW.trod_bool Tryz.underlying4 g1
      obtain ⟨f2, e2, _, hs2⟩ := DataW.trod_string Tryz.underlying9 g2
      obtain ⟨f3, e3, _, _⟩ := DataW.trod_int (k := .i64) Tryz.underlying3 g3
      simp at e0 e1 e2 e3
      subst e0 e1 e2 e3
      have d0 := hcell 0 (by omega)
      have d1 := hcell 1 (by omega)
      have d2 := hcell 2 (by omega)
      have d3 := hcell 3 (by omega)
      rw [add_add] at d0 d1 d2 d3
      exact ⟨⟨f0, f1, f2, f3⟩, hs2, by simpa using d0, by simpa using d1, by simpa using d2, by simpa using d3⟩
    have : Inhabited Cd := ⟨⟨0, false, ⟨#[]⟩, 0⟩⟩
    obtain ⟨q, hq⟩ := choose_lt each
    by_cases hz : n = 0
    · subst hz
      exact ⟨[], ⟨some a, 0, 0, c, rfl, Or.inr rfl, by simp, fun j hj => by simp at hj⟩, fun a h => by cases h⟩
    · obtain ⟨b, off, spot⟩ := a
      have hspot : spot = none := by
        have := (hq 0 (by omega)).2.1
        simpa [Addr.add] using World.cell?_spot this
      subst hspot
      refine ⟨(List.range n).map q, ⟨some ⟨b, off, none⟩, b, off, c, by simp, Or.inl rfl, by simpa using hl, fun j hj => ?_⟩, fun x hx => ?_⟩
      · have hj' : j < n := by simpa using hj
        have h1 := (hq j hj').2
        simp only [add_off] at h1
        have e : ((List.range n).map q)[j] = q j := by simp
        rw [e]
        exact ⟨h1.1, by have := h1.2.1; rwa [← Nat.add_assoc] at this, by have := h1.2.2.1; rwa [← Nat.add_assoc] at this, by have := h1.2.2.2; rwa [← Nat.add_assoc] at this⟩
      · obtain ⟨i, hi, rfl⟩ := List.mem_map.1 hx
        exact (hq i (List.mem_range.1 hi)).1
theorem open_acts {v : Value} {x : DataW H × List MemPlace} (hf : DataW.trod enc Tryz.prog w 0 sp held fuel 61 [v] = some x) (hv : ∃ ad n c, v = .slice ad n c) : ∃ L, AcAt w v L ∧ ∀ c ∈ L, c.nm.size ≤ maxLen ∧ c.ad.size ≤ maxLen ∧ c.n < 4294967296 := by
  obtain ⟨ad, n, c, rfl⟩ := hv
  rcases open_slice Tryz.underlying61 hf with ⟨hcs, _⟩ | ⟨a, len, cap, m, fu, D, Pl, hcs, hb, hl, hm, hmm, hx, hel⟩
  · simp at hcs
    obtain ⟨rfl, rfl, rfl⟩ := hcs
    exact ⟨[], ⟨none, 0, 0, 0, rfl, Or.inr rfl, by simp, fun j hj => by simp at hj⟩, fun a h => by cases h⟩
  · simp at hcs
    obtain ⟨rfl, rfl, rfl⟩ := hcs
    have each : ∀ i, i < n → ∃ k : Ac, (k.nm.size ≤ maxLen ∧ k.ad.size ≤ maxLen ∧ k.n < 4294967296) ∧ w.cell? (a.add (i * 4)) = some (.int .i64 k.k) ∧ w.cell? (a.add (i * 4 + 1)) = some (.string k.nm) ∧ w.cell? (a.add (i * 4 + 2)) = some (.int .u32 (k.n : Int)) ∧ w.cell? (a.add (i * 4 + 3)) = some (.string k.ad) := by
      intro i hi
      obtain ⟨cs', h1, h2⟩ := hel i (by rw [hmm]; split <;> omega)
      rw [zs40] at h1
      obtain ⟨_, hlen, hcell⟩ := World.cells?_some h1
      obtain ⟨c0, c1, c2, c3, rfl⟩ := li4 cs' hlen
      obtain ⟨y0, y1, y2, y3, nn, _, _, g0, g1, g2, g3⟩ := trod_struct4 Tryz.underlying40 h2
      simp only [zs3, zs38, zs9, List.drop_zero, List.drop_succ_cons, List.take_succ_cons, List.take_zero] at g0 g1 g2 g3
      obtain ⟨f0, e0, _, _⟩ := DataW.trod_int (k := .i64) Tryz.underlying3 g0
      obtain ⟨f1, e1, _, hs1⟩ := DataW.trod_string Tryz.underlying9 g1
      obtain ⟨f2, e2, _, q2⟩ := DataW.trod_int (k := .u32) Tryz.underlying38 g2
      obtain ⟨f3, e3, _, hs3⟩ := DataW.trod_string Tryz.underlying9 g3
      simp at e0 e1 e2 e3
      subst e0 e1 e2 e3
      obtain ⟨k2, rfl, hk2⟩ := u32_bd q2
      have d0 := hcell 0 (by omega)
      have d1 := hcell 1 (by omega)
      have d2 := hcell 2 (by omega)
      have d3 := hcell 3 (by omega)
      rw [add_add] at d0 d1 d2 d3
      exact ⟨⟨f0, f1, k2, f3⟩, ⟨hs1, hs3, hk2⟩, by simpa using d0, by simpa using d1, by simpa using d2, by simpa using d3⟩
    have : Inhabited Ac := ⟨⟨0, ⟨#[]⟩, 0, ⟨#[]⟩⟩⟩
    obtain ⟨q, hq⟩ := choose_lt each
    by_cases hz : n = 0
    · subst hz
      exact ⟨[], ⟨some a, 0, 0, c, rfl, Or.inr rfl, by simp, fun j hj => by simp at hj⟩, fun a h => by cases h⟩
    · obtain ⟨b, off, spot⟩ := a
      have hspot : spot = none := by
        have := (hq 0 (by omega)).2.1
        simpa [Addr.add] using World.cell?_spot this
      subst hspot
      refine ⟨(List.range n).map q, ⟨some ⟨b, off, none⟩, b, off, c, by simp, Or.inl rfl, by simpa using hl, fun j hj => ?_⟩, fun x hx => ?_⟩
      · have hj' : j < n := by simpa using hj
        have h1 := (hq j hj').2
        simp only [add_off] at h1
        have e : ((List.range n).map q)[j] = q j := by simp
        rw [e]
        exact ⟨h1.1, by have := h1.2.1; rwa [← Nat.add_assoc] at this, by have := h1.2.2.1; rwa [← Nat.add_assoc] at this, by have := h1.2.2.2; rwa [← Nat.add_assoc] at this⟩
      · obtain ⟨i, hi, rfl⟩ := List.mem_map.1 hx
        exact (hq i (List.mem_range.1 hi)).1
theorem slice_of {t e : TypeId} (ht : Tryz.prog.underlying t = some (.slice e)) {v : Value} {x : DataW H × List MemPlace} (hf : DataW.trod enc Tryz.prog w 0 sp held fuel t [v] = some x) : ∃ ad n c, v = .slice ad n c := by
  rcases open_slice ht hf with ⟨hcs, _⟩ | ⟨a, len, cap, m, fu, D, Pl, hcs, _⟩
  · simp at hcs; exact ⟨_, _, _, hcs⟩
  · simp at hcs; exact ⟨_, _, _, hcs⟩
/-- What is known of a term that came in. -/
structure FineT (T : Tm) : Prop where
  sm : SmT T
  rm : RoomT T
  nn : ∀ a ∈ T.acs, a.n < 4294967296
theorem FineT.len {T : Tm} (h : FineT T) : LenT T := ⟨h.sm.lc, h.sm.la⟩
theorem open_term {c0 c1 : Value} {x : DataW H × List MemPlace} (hf : DataW.trod enc Tryz.prog w 0 sp held fuel 63 [c0, c1] = some x) (hs : Light 63 x.1) : ∃ T : Tm, CdAt w c0 T.cs ∧ AcAt w c1 T.acs ∧ FineT T := by
  obtain ⟨y0, y1, nn, hx, _, g0, g1⟩ := trod_struct2 Tryz.underlying63 hf
  simp only [zs60, zs61, List.drop_zero, List.drop_succ_cons, List.take_succ_cons, List.take_zero] at g0 g1
  have z0 : Light 60 y0.1 := fun y hy => hs y (by rw [hx]; simp only [DataW.weights, Tryz.underlying63]; simp [DataW.weightsEach]; simp [hy])
  have z1 : Light 61 y1.1 := fun y hy => hs y (by rw [hx]; simp only [DataW.weights, Tryz.underlying63]; simp [DataW.weightsEach]; simp [hy])
  obtain ⟨L, hL, hLs⟩ := open_conds g0 (slice_of Tryz.underlying60 g0)
  obtain ⟨M, hM, hMs⟩ := open_acts g1 (slice_of Tryz.underlying61 g1)
  have n0 := len_bound (n := L.length) Tryz.underlying60 by37 g0 z0 (by obtain ⟨a, c, e⟩ := hL.len; exact ⟨a, c, e⟩)
  have n1 := len_bound (n := M.length) Tryz.underlying61 by40 g1 z1 (by obtain ⟨a, c, e⟩ := hM.len; exact ⟨a, c, e⟩)
  have hrb := reachBytes_lt
  refine ⟨⟨L, M⟩, hL, hM, ⟨⟨hLs, fun a h => ⟨(hMs a h).1, (hMs a h).2.1⟩, ?_, ?_⟩, ⟨?_, ?_⟩, fun a h => (hMs a h).2.2⟩⟩
  · show L.length ≤ _; omega
  · show M.length ≤ _; omega
  · show L.length * 40 ≤ _; omega
  · show M.length * 48 ≤ _; omega
theorem open_terms {v : Value} {x : DataW H × List MemPlace} (hf : DataW.trod enc Tryz.prog w 0 sp held fuel 22 [v] = some x) (hs : Light 22 x.1) (hv : ∃ ad n c, v = .slice ad n c) : ∃ L, TsAt w v L ∧ ∀ t ∈ L, FineT t := by
  obtain ⟨ad, n, c, rfl⟩ := hv
  rcases open_slice Tryz.underlying22 hf with ⟨hcs, _⟩ | ⟨a, len, cap, m, fu, D, Pl, hcs, hb, hl, hm, hmm, hx, hel⟩
  · simp at hcs
    obtain ⟨rfl, rfl, rfl⟩ := hcs
    exact ⟨[], ⟨none, 0, 0, 0, rfl, Or.inr rfl, by simp, fun j hj => by simp at hj⟩, fun a h => by cases h⟩
  · simp at hcs
    obtain ⟨rfl, rfl, rfl⟩ := hcs
    have each : ∀ i, i < n → ∃ T : Tm, FineT T ∧ ∃ vc va, w.cell? (a.add (i * 2)) = some vc ∧ w.cell? (a.add (i * 2 + 1)) = some va ∧ CdAt w vc T.cs ∧ AcAt w va T.acs := by
      intro i hi
      obtain ⟨cs', h1, h2⟩ := hel i (by rw [hmm]; split <;> omega)
      rw [zs63] at h1
      obtain ⟨_, hlen, hcell⟩ := World.cells?_some h1
      obtain ⟨c0, c1, rfl⟩ := li2 cs' hlen
      have hl2 : Light 63 (D i) := fun y hy => hs y (by
        rw [hx]
        simp only [DataW.weights, Tryz.underlying22]
        refine List.mem_cons_of_mem _ (List.mem_append_left _ ?_)
        exact weigh_mem (List.mem_map.2 ⟨i, List.mem_range.2 hi, rfl⟩) hy)
      obtain ⟨T, hc, ha, hfn⟩ := open_term h2 hl2
      have d0 := hcell 0 (by omega)
      have d1 := hcell 1 (by omega)
      rw [add_add] at d0 d1
      exact ⟨T, hfn, c0, c1, by simpa using d0, by simpa using d1, hc, ha⟩
    have : Inhabited Tm := ⟨⟨[], []⟩⟩
    obtain ⟨q, hq⟩ := choose_lt each
    by_cases hz : n = 0
    · subst hz
      exact ⟨[], ⟨some a, 0, 0, c, rfl, Or.inr rfl, by simp, fun j hj => by simp at hj⟩, fun a h => by cases h⟩
    · obtain ⟨b, off, spot⟩ := a
      have hspot : spot = none := by
        obtain ⟨_, _, _, this, _⟩ := hq 0 (by omega)
        simpa [Addr.add] using World.cell?_spot this
      subst hspot
      refine ⟨(List.range n).map q, ⟨some ⟨b, off, none⟩, b, off, c, by simp, Or.inl rfl, by simpa using hl, fun j hj => ?_⟩, fun x hx => ?_⟩
      · have hj' : j < n := by simpa using hj
        obtain ⟨_, vc, va, h1, h2, h3, h4⟩ := hq j hj'
        simp only [add_off] at h1 h2
        have e : ((List.range n).map q)[j] = q j := by simp
        rw [e]
        exact ⟨vc, va, h1, by rwa [← Nat.add_assoc] at h2, h3, h4⟩
      · obtain ⟨i, hi, rfl⟩ := List.mem_map.1 hx
        exact (hq i (List.mem_range.1 hi)).1
theorem array3 {cs : Array Value} (h : cs.size = 3) : ∃ a b c, cs = #[a, b, c] := by
  obtain ⟨l⟩ := cs
  match l, h with
  | [a, b, c], _ => exact ⟨a, b, c, rfl⟩
set_option maxRecDepth 100000 in
theorem open_policy {b0 : Nat} {r : Reach} {v : Value} {d : DataW H} {ps : List MemPlace} (hval : Value.okWide Tryz.prog w r b0 24 v) (hd : DataW.Trod enc Tryz.prog w 0 sp held 24 v d ps) (hz : Light 24 d) :
    ∃ p : Po, PoAt w v p ∧ LenP p ∧ RoomP p := by
  obtain ⟨cs, rfl, hc⟩ := okWide_struct Tryz.underlying24 hval
  rw [zs24] at hc
  obtain ⟨c0, c1, c2, rfl⟩ := array3 hc
  obtain ⟨fuel, hf⟩ := hd
  obtain ⟨y0, y1, y2, nn, hx, _, g0, g1, g2⟩ := trod_struct3 Tryz.underlying24 (by simpa [Value.cells] using hf)
  simp only [zs9, zs22, zs4, List.drop_zero, List.drop_succ_cons, List.take_succ_cons, List.take_zero] at g0 g1 g2
  obtain ⟨f0, e0, _, _⟩ := DataW.trod_string Tryz.underlying9 g0
  obtain ⟨f2, e2, _⟩ := DataW.trod_bool Tryz.underlying4 g2
  simp at e0 e2
  subst e0 e2
  have hdx := (Prod.mk.inj hx).1
  have z1 : Light 22 y1.1 := fun y hy => hz y (by rw [hdx]; simp only [DataW.weights, Tryz.underlying24]; simp [DataW.weightsEach]; simp [hy])
  obtain ⟨L, hL, hLf⟩ := open_terms g1 z1 (slice_of Tryz.underlying22 g1)
  have n1 := len_bound (n := L.length) Tryz.underlying22 by63 g1 z1 (by obtain ⟨a, c, e⟩ := hL.len; exact ⟨a, c, e⟩)
  have hrb := reachBytes_lt
  refine ⟨⟨f0, L, f2⟩, ⟨c1, rfl, hL⟩, ⟨?_, fun t ht => (hLf t ht).len⟩, ⟨?_, fun t ht => (hLf t ht).rm⟩⟩
  · show L.length ≤ _; omega
  · show L.length * 48 ≤ _; omega
end Go.Proofs.YthaebbmekonacaaGreatDoor
