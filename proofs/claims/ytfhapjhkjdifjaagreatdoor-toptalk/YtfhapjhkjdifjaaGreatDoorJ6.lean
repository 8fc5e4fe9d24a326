/-
  Arguments that come in: a talk.
-/
import Derived.Test.YtfhapjhkjdifjaaGreatDoorJC
import Derived.Test.YtfhapjhkjdifjaaGreatDoorT5
import Derived.Deep.Strs
import Derived.SizedLaws
namespace Go.Proofs.YtfhapjhkjdifjaaGreatDoor
open Go.ChangeShapes Go.WideShapes Go.ChangeAt Go.RowKit Go.Joins Go.Deep Go.WideMaps Go.WideElems
theorem zs3 : Tryz.prog.cellsOf 3 = 1 := by kernel_rfl
theorem zs4 : Tryz.prog.cellsOf 4 = 1 := by kernel_rfl
theorem zs22 : Tryz.prog.cellsOf 46 = 1 := by kernel_rfl
theorem zs23 : Tryz.prog.cellsOf 24 = 1 := by kernel_rfl
theorem zs24 : Tryz.prog.cellsOf 47 = 1 := by kernel_rfl
theorem zs25 : Tryz.prog.cellsOf 48 = 1 := by kernel_rfl
theorem zs27 : Tryz.prog.cellsOf 50 = 11 := by kernel_rfl
theorem zs69 : Tryz.prog.cellsOf 129 = 2 := by kernel_rfl
theorem zs71 : Tryz.prog.cellsOf 108 = 3 := by kernel_rfl
theorem add_off (b off i : Nat) : Addr.add ⟨b, off, none⟩ i = ⟨b, off + i, none⟩ := by unfold Addr.add; by_cases e : i = 0 <;> simp [e]
theorem u32_bd {n : Int} (h : (Lit.int .u32 n).wf = true) : 0 ≤ n ∧ n < 4294967296 := by
  have hb : 0 ≤ n ∧ n ≤ 4294967295 := by simpa [Lit.wf, IntKind.min, IntKind.max, IntKind.signed, IntKind.bits] using h
  omega
theorem li2 {α : Type} (l : List α) (h : l.length = 2) : ∃ c0 c1, l = [c0, c1] := by
  match l, h with
  | [c0, c1], _ => exact ⟨c0, c1, rfl⟩
theorem li3 {α : Type} (l : List α) (h : l.length = 3) : ∃ c0 c1 c2, l = [c0, c1, c2] := by
  match l, h with
  | [c0, c1, c2], _ => exact ⟨c0, c1, c2, rfl⟩

variable {H : Type} {enc : TypeId × Value → H} {w : World} {sp : Nat → Bool} {held : Bool} {fuel : Nat}
theorem open_ints {v : Value} {x : DataW H × List MemPlace} (hf : DataW.trod enc Tryz.prog w 0 sp held fuel 24 [v] = some x) : ∃ L, IntsAt w v L := by
  rcases open_slice Tryz.underlying24 hf with ⟨hcs, _⟩ | ⟨a, n, cap, m, fu, D, Pl, hcs, hb, hl, hm, hmm, hx, hel⟩
  · simp at hcs
    subst hcs
    exact ⟨[], none, 0, 0, 0, rfl, Or.inr rfl, by simp, fun j hj => by simp at hj⟩
  · simp at hcs
    subst hcs
    have each : ∀ i, i < n → ∃ k : Int, w.cell? (a.add i) = some (.int .i64 k) := by
      intro i hi
      obtain ⟨cs', h1, h2⟩ := hel i (by rw [hmm]; split <;> omega)
      rw [zs3, Nat.mul_one] at h1
      obtain ⟨_, hlen, hcell⟩ := World.cells?_some h1
      obtain ⟨k, e, _, _⟩ := DataW.trod_int (k := .i64) Tryz.underlying3 h2
      refine ⟨k, ?_⟩
      have d := hcell 0 (by omega)
      rw [add_add, Nat.add_zero] at d
      rw [d, e]
      rfl
    obtain ⟨q, hq⟩ := choose_lt each
    by_cases hz : n = 0
    · subst hz
      exact ⟨[], some a, 0, 0, cap, rfl, Or.inr rfl, by simp, fun j hj => by simp at hj⟩
    · obtain ⟨b, off, spot⟩ := a
      have hspot : spot = none := by
        have := hq 0 (by omega)
        simpa [Addr.add] using World.cell?_spot this
      subst hspot
      refine ⟨(List.range n).map q, some ⟨b, off, none⟩, b, off, cap, by simp, Or.inl rfl, by simpa using hl, fun j hj => ?_⟩
      have hj' : j < n := by simpa using hj
      have h1 := hq j hj'
      simp only [add_off] at h1
      simpa using h1
theorem open_adds {v : Value} {x : DataW H × List MemPlace} (hf : DataW.trod enc Tryz.prog w 0 sp held fuel 47 [v] = some x) : ∃ L, AddsAt w v L := by
  rcases open_slice Tryz.underlying47 hf with ⟨hcs, _⟩ | ⟨a, n, cap, m, fu, D, Pl, hcs, hb, hl, hm, hmm, hx, hel⟩
  · simp at hcs
    subst hcs
    exact ⟨[], none, 0, 0, 0, rfl, Or.inr rfl, by simp, fun j hj => by simp at hj⟩
  · simp at hcs
    subst hcs
    have each : ∀ i, i < n → ∃ k : Ad, w.cell? (a.add (i * 3)) = some (.int .i64 k.f) ∧ w.cell? (a.add (i * 3 + 1)) = some (.bool k.s) ∧ w.cell? (a.add (i * 3 + 2)) = some (.bool k.t) := by
      intro i hi
      obtain ⟨cs', h1, h2⟩ := hel i (by rw [hmm]; split <;> omega)
      rw [zs71] at h1
      obtain ⟨_, hlen, hcell⟩ := World.cells?_some h1
      obtain ⟨c0, c1, c2, rfl⟩ := li3 cs' hlen
      obtain ⟨y0, y1, y2, nn, _, _, g0, g1, g2⟩ := trod_struct3 Tryz.underlying108 h2
      simp only [zs3, zs4, List.drop_zero, List.drop_succ_cons, List.take_succ_cons, List.take_zero] at g0 g1 g2
      obtain ⟨f, e0, _, _⟩ := DataW.trod_int (k := .i64) Tryz.underlying3 g0
      obtain ⟨s, e1, _⟩ := DataW.trod_bool Tryz.underlying4 g1
      obtain ⟨t, e2, _⟩ := DataW.trod_bool Tryz.underlying4 g2
      simp at e0 e1 e2
      subst e0 e1 e2
      have d0 := hcell 0 (by omega)
      have d1 := hcell 1 (by omega)
      have d2 := hcell 2 (by omega)
      rw [add_add] at d0 d1 d2
      exact ⟨⟨f, s, t⟩, by simpa using d0, by simpa using d1, by simpa using d2⟩
    have : Inhabited Ad := ⟨⟨0, false, false⟩⟩
    obtain ⟨q, hq⟩ := choose_lt each
    by_cases hz : n = 0
    · subst hz
      exact ⟨[], some a, 0, 0, cap, rfl, Or.inr rfl, by simp, fun j hj => by simp at hj⟩
    · obtain ⟨b, off, spot⟩ := a
      have hspot : spot = none := by
        have := (hq 0 (by omega)).1
        simpa [Addr.add] using World.cell?_spot this
      subst hspot
      refine ⟨(List.range n).map q, some ⟨b, off, none⟩, b, off, cap, by simp, Or.inl rfl, by simpa using hl, fun j hj => ?_⟩
      have hj' : j < n := by simpa using hj
      have h1 := hq j hj'
      simp only [add_off] at h1
      have e : ((List.range n).map q)[j] = q j := by simp
      rw [e]
      exact ⟨h1.1, by have := h1.2.1; rwa [← Nat.add_assoc] at this, by have := h1.2.2; rwa [← Nat.add_assoc] at this⟩
theorem open_kept {v : Value} {x : DataW H × List MemPlace} (hf : DataW.trod enc Tryz.prog w 0 sp held fuel 48 [v] = some x) : ∃ L, KeptsAt w v L := by
  rcases open_slice Tryz.underlying48 hf with ⟨hcs, _⟩ | ⟨a, n, cap, m, fu, D, Pl, hcs, hb, hl, hm, hmm, hx, hel⟩
  · simp at hcs
    subst hcs
    exact ⟨[], none, 0, 0, 0, rfl, Or.inr rfl, by simp, fun j hj => by simp at hj⟩
  · simp at hcs
    subst hcs
    have each : ∀ i, i < n → ∃ k : Kp, w.cell? (a.add (i * 2)) = some (.int .i64 k.f) ∧ w.cell? (a.add (i * 2 + 1)) = some (.bool k.k) := by
      intro i hi
      obtain ⟨cs', h1, h2⟩ := hel i (by rw [hmm]; split <;> omega)
      rw [zs69] at h1
      obtain ⟨_, hlen, hcell⟩ := World.cells?_some h1
      obtain ⟨c0, c1, rfl⟩ := li2 cs' hlen
      obtain ⟨y0, y1, nn, _, _, g0, g1⟩ := trod_struct2 Tryz.underlying129 h2
      simp only [zs3, zs4, List.drop_zero, List.drop_succ_cons, List.take_succ_cons, List.take_zero] at g0 g1
      obtain ⟨f, e0, _, _⟩ := DataW.trod_int (k := .i64) Tryz.underlying3 g0
      obtain ⟨s, e1, _⟩ := DataW.trod_bool Tryz.underlying4 g1
      simp at e0 e1
      subst e0 e1
      have d0 := hcell 0 (by omega)
      have d1 := hcell 1 (by omega)
      rw [add_add] at d0 d1
      exact ⟨⟨f, s⟩, by simpa using d0, by simpa using d1⟩
    have : Inhabited Kp := ⟨⟨0, false⟩⟩
    obtain ⟨q, hq⟩ := choose_lt each
    by_cases hz : n = 0
    · subst hz
      exact ⟨[], some a, 0, 0, cap, rfl, Or.inr rfl, by simp, fun j hj => by simp at hj⟩
    · obtain ⟨b, off, spot⟩ := a
      have hspot : spot = none := by
        have := (hq 0 (by omega)).1
        simpa [Addr.add] using World.cell?_spot this
      subst hspot
      refine ⟨(List.range n).map q, some ⟨b, off, none⟩, b, off, cap, by simp, Or.inl rfl, by simpa using hl, fun j hj => ?_⟩
      have hj' : j < n := by simpa using hj
      have h1 := hq j hj'
      simp only [add_off] at h1
      have e : ((List.range n).map q)[j] = q j := by simp
      rw [e]
      exact ⟨h1.1, by have := h1.2; rwa [← Nat.add_assoc] at this⟩
set_option maxRecDepth 100000 in
theorem open_cells {cs : List Value} {y : DataW H × List MemPlace} (hcl : cs.length = 11) (hf : DataW.trod enc Tryz.prog w 0 sp held fuel 50 cs = some y) :
    ∃ (o : Opn) (vf va vk : Value), cs = (opC o vf va vk).toList ∧ ListsAt w o vf va vk ∧ OpnWf o := by
  obtain ⟨c0, c1, c2, c3, c4, c5, c6, c7, c8, c9, c10, rfl⟩ : ∃ c0 c1 c2 c3 c4 c5 c6 c7 c8 c9 c10, cs = [c0, c1, c2, c3, c4, c5, c6, c7, c8, c9, c10] := by
    match cs, hcl with
    | [c0, c1, c2, c3, c4, c5, c6, c7, c8, c9, c10], _ => exact ⟨c0, c1, c2, c3, c4, c5, c6, c7, c8, c9, c10, rfl⟩
  obtain ⟨xs, n, hr, _, hl, hlen, hfs⟩ := DataW.trod_struct Tryz.underlying50 hf
  obtain ⟨y0, y1, y2, y3, y4, y5, y6, y7, y8, y9, y10, rfl⟩ : ∃ y0 y1 y2 y3 y4 y5 y6 y7 y8 y9 y10, xs = [y0, y1, y2, y3, y4, y5, y6, y7, y8, y9, y10] := by
    match xs, hlen with
    | [y0, y1, y2, y3, y4, y5, y6, y7, y8, y9, y10], _ => exact ⟨y0, y1, y2, y3, y4, y5, y6, y7, y8, y9, y10, rfl⟩
  have h0 : DataW.trod enc Tryz.prog w 0 sp held n 46 [c0] = some y0 := by have h : DataW.trod enc Tryz.prog w 0 sp held n 46 (([c0, c1, c2, c3, c4, c5, c6, c7, c8, c9, c10].drop 0).take (Tryz.prog.cellsOf 46)) = some y0 := hfs 0 _ rfl; rw [zs22] at h; exact h
  have h1 : DataW.trod enc Tryz.prog w 0 sp held n 3 [c1] = some y1 := by have h : DataW.trod enc Tryz.prog w 0 sp held n 3 (([c0, c1, c2, c3, c4, c5, c6, c7, c8, c9, c10].drop 1).take (Tryz.prog.cellsOf 3)) = some y1 := hfs 1 _ rfl; rw [zs3] at h; exact h
  have h2 : DataW.trod enc Tryz.prog w 0 sp held n 46 [c2] = some y2 := by have h : DataW.trod enc Tryz.prog w 0 sp held n 46 (([c0, c1, c2, c3, c4, c5, c6, c7, c8, c9, c10].drop 2).take (Tryz.prog.cellsOf 46)) = some y2 := hfs 2 _ rfl; rw [zs22] at h; exact h
  have h3 : DataW.trod enc Tryz.prog w 0 sp held n 24 [c3] = some y3 := by have h : DataW.trod enc Tryz.prog w 0 sp held n 24 (([c0, c1, c2, c3, c4, c5, c6, c7, c8, c9, c10].drop 3).take (Tryz.prog.cellsOf 24)) = some y3 := hfs 3 _ rfl; rw [zs23] at h; exact h
  have h4 : DataW.trod enc Tryz.prog w 0 sp held n 4 [c4] = some y4 := by have h : DataW.trod enc Tryz.prog w 0 sp held n 4 (([c0, c1, c2, c3, c4, c5, c6, c7, c8, c9, c10].drop 4).take (Tryz.prog.cellsOf 4)) = some y4 := hfs 4 _ rfl; rw [zs4] at h; exact h
  have h5 : DataW.trod enc Tryz.prog w 0 sp held n 4 [c5] = some y5 := by have h : DataW.trod enc Tryz.prog w 0 sp held n 4 (([c0, c1, c2, c3, c4, c5, c6, c7, c8, c9, c10].drop 5).take (Tryz.prog.cellsOf 4)) = some y5 := hfs 5 _ rfl; rw [zs4] at h; exact h
  have h6 : DataW.trod enc Tryz.prog w 0 sp held n 47 [c6] = some y6 := by have h : DataW.trod enc Tryz.prog w 0 sp held n 47 (([c0, c1, c2, c3, c4, c5, c6, c7, c8, c9, c10].drop 6).take (Tryz.prog.cellsOf 47)) = some y6 := hfs 6 _ rfl; rw [zs24] at h; exact h
  have h7 : DataW.trod enc Tryz.prog w 0 sp held n 4 [c7] = some y7 := by have h : DataW.trod enc Tryz.prog w 0 sp held n 4 (([c0, c1, c2, c3, c4, c5, c6, c7, c8, c9, c10].drop 7).take (Tryz.prog.cellsOf 4)) = some y7 := hfs 7 _ rfl; rw [zs4] at h; exact h
  have h8 : DataW.trod enc Tryz.prog w 0 sp held n 4 [c8] = some y8 := by have h : DataW.trod enc Tryz.prog w 0 sp held n 4 (([c0, c1, c2, c3, c4, c5, c6, c7, c8, c9, c10].drop 8).take (Tryz.prog.cellsOf 4)) = some y8 := hfs 8 _ rfl; rw [zs4] at h; exact h
  have h9 : DataW.trod enc Tryz.prog w 0 sp held n 3 [c9] = some y9 := by have h : DataW.trod enc Tryz.prog w 0 sp held n 3 (([c0, c1, c2, c3, c4, c5, c6, c7, c8, c9, c10].drop 9).take (Tryz.prog.cellsOf 3)) = some y9 := hfs 9 _ rfl; rw [zs3] at h; exact h
  have h10 : DataW.trod enc Tryz.prog w 0 sp held n 48 [c10] = some y10 := by have h : DataW.trod enc Tryz.prog w 0 sp held n 48 (([c0, c1, c2, c3, c4, c5, c6, c7, c8, c9, c10].drop 10).take (Tryz.prog.cellsOf 48)) = some y10 := hfs 10 _ rfl; rw [zs25] at h; exact h
  obtain ⟨asn, e0, _, q0⟩ := DataW.trod_int (k := .u32) Tryz.underlying46 h0
  obtain ⟨hold, e1, _, _⟩ := DataW.trod_int (k := .i64) Tryz.underlying3 h1
  obtain ⟨id, e2, _, q2⟩ := DataW.trod_int (k := .u32) Tryz.underlying46 h2
  obtain ⟨L3, g3⟩ := open_ints h3
  obtain ⟨four, e4, _⟩ := DataW.trod_bool Tryz.underlying4 h4
  obtain ⟨refr, e5, _⟩ := DataW.trod_bool Tryz.underlying4 h5
  obtain ⟨L6, g6⟩ := open_adds h6
  obtain ⟨gr, e7, _⟩ := DataW.trod_bool Tryz.underlying4 h7
  obtain ⟨again, e8, _⟩ := DataW.trod_bool Tryz.underlying4 h8
  obtain ⟨time, e9, _, _⟩ := DataW.trod_int (k := .i64) Tryz.underlying3 h9
  obtain ⟨L10, g10⟩ := open_kept h10
  simp at e0 e1 e2 e4 e5 e7 e8 e9
  subst e0 e1 e2 e4 e5 e7 e8 e9
  have b0 := u32_bd q0
  have b2 := u32_bd q2
  exact ⟨⟨asn, hold, id, L3, four, refr, L6, gr, again, time, L10⟩, c3, c6, c10, rfl, ⟨g3, g6, g10⟩, ⟨b0.1, b0.2, b2.1, b2.2⟩⟩
theorem u8_natT {n : Int} (h : (Lit.int .u8 n).wf = true) : ∃ m : Nat, n = (m : Int) ∧ m < 256 := by
  have hb : 0 ≤ n ∧ n ≤ 255 := by simpa [Lit.wf, IntKind.min, IntKind.max, IntKind.signed, IntKind.bits] using h
  exact ⟨n.toNat, by omega, by omega⟩
theorem zs5 : Tryz.prog.cellsOf 5 = 1 := by kernel_rfl
theorem zs9 : Tryz.prog.cellsOf 9 = 1 := by kernel_rfl
theorem zs55 : Tryz.prog.cellsOf 55 = 3 := by kernel_rfl
theorem zs50 : Tryz.prog.cellsOf 50 = 11 := by kernel_rfl
theorem zz22 : Tryz.prog.cellsOf 22 = 1 := by kernel_rfl
theorem zz23 : Tryz.prog.cellsOf 23 = 1 := by kernel_rfl
theorem zz24 : Tryz.prog.cellsOf 24 = 1 := by kernel_rfl
theorem zz25 : Tryz.prog.cellsOf 25 = 1 := by kernel_rfl
theorem zz27 : Tryz.prog.cellsOf 27 = 4 := by kernel_rfl
theorem open_u8s {v : Value} {x : DataW H × List MemPlace} (hf : DataW.trod enc Tryz.prog w 0 sp held fuel 25 [v] = some x) : ∃ L, Fr.U8sAt w v L ∧ ∀ n ∈ L, n < 256 := by
  rcases open_slice Tryz.underlying25 hf with ⟨hcs, _⟩ | ⟨a, len, cap, m, fu, D, Pl, hcs, hb, hl, hm, hmm, hx, hel⟩
  · simp at hcs
    subst hcs
    exact ⟨[], ⟨none, 0, 0, 0, rfl, Or.inr rfl, by simp, fun j hj => by simp at hj⟩, fun s hs => by simp at hs⟩
  · simp at hcs
    subst hcs
    have each : ∀ i, i < len → ∃ s : Nat, s < 256 ∧ w.cell? (a.add i) = some (.int .u8 (s : Int)) := by
      intro i hi
      obtain ⟨cs', h1, h2⟩ := hel i (by rw [hmm]; split <;> omega)
      rw [zs5, Nat.mul_one] at h1
      obtain ⟨_, hlen, hcell⟩ := World.cells?_some h1
      obtain ⟨s, e, _, q⟩ := DataW.trod_int (k := .u8) Tryz.underlying5 h2
      obtain ⟨s', rfl, hs⟩ := u8_natT q
      refine ⟨s', hs, ?_⟩
      have d := hcell 0 (by omega)
      rw [add_add, Nat.add_zero] at d
      rw [d, e]
      rfl
    obtain ⟨q, hq⟩ := choose_lt each
    by_cases hz : len = 0
    · subst hz
      exact ⟨[], ⟨some a, 0, 0, cap, rfl, Or.inr rfl, by simp, fun j hj => by simp at hj⟩, fun s hs => by simp at hs⟩
    · obtain ⟨b, off, spot⟩ := a
      have hspot : spot = none := by
        have := (hq 0 (by omega)).2
        simpa [Addr.add] using World.cell?_spot this
      subst hspot
      refine ⟨(List.range len).map q, ⟨some ⟨b, off, none⟩, b, off, cap, by simp, Or.inl rfl, by simpa using hl, fun j hj => ?_⟩, fun s hs => ?_⟩
      · have hj' : j < len := by simpa using hj
        have h1 := (hq j hj').2
        simp only [add_off] at h1
        simpa using h1
      · simp only [List.mem_map, List.mem_range] at hs
        obtain ⟨i, hi, rfl⟩ := hs
        exact (hq i hi).1
/-- What it weighs is within reach. -/
def Small (t : TypeId) (d : DataW H) : Prop := ∀ x ∈ d.weights Tryz.prog t, x ≤ reachBytes
theorem small_part {e : TypeId} {ds : List (DataW H)} {d : DataW H} (h : ∀ x ∈ DataW.weightsAll Tryz.prog e ds, x ≤ reachBytes) (hd : d ∈ ds) : Small e d := by
  induction ds with
  | nil => simp at hd
  | cons c ds ih =>
    intro x hx
    rcases List.mem_cons.mp hd with rfl | hd
    · exact h x (by simp only [DataW.weightsAll, List.mem_append]; exact Or.inl hx)
    · exact ih (fun y hy => h y (by simp only [DataW.weightsAll, List.mem_append]; exact Or.inr hy)) hd x hx
theorem small_each {ts : List TypeId} {ds : List (DataW H)} (h : (DataW.weightsEach Tryz.prog ts ds).all (· ≤ reachBytes) = true) (j : Nat) (t : TypeId) (d : DataW H) (ht : ts[j]? = some t) (hd : ds[j]? = some d) : Small t d := by
  induction ts generalizing ds j with
  | nil => simp at ht
  | cons t0 ts ih =>
    cases ds with
    | nil => simp at hd
    | cons d0 ds =>
      simp only [DataW.weightsEach, List.all_append, Bool.and_eq_true] at h
      cases j with
      | zero =>
        simp at ht hd
        subst ht hd
        intro x hx
        have := List.all_eq_true.mp h.1 x hx
        simpa using this
      | succ j => exact ih h.2 j (by simpa using ht) (by simpa using hd)
theorem open_opens {v : Value} {x : DataW H × List MemPlace} (hf : DataW.trod enc Tryz.prog w 0 sp held fuel 22 [v] = some x) : ∃ L, OpensAt w v L := by
  rcases open_slice Tryz.underlying22 hf with ⟨hcs, _⟩ | ⟨a, n, cap, m, fu, D, Pl, hcs, hb, hl, hm, hmm, hx, hel⟩
  · simp at hcs
    subst hcs
    exact ⟨[], none, 0, 0, 0, rfl, Or.inr rfl, fun j hj => by simp at hj⟩
  · simp at hcs
    subst hcs
    have each : ∀ i, i < n → ∃ o : Opn, OpnWf o ∧ ∃ vf va vk, (∀ j v, (opC o vf va vk).toList[j]? = some v → w.cell? (a.add (i * 11 + j)) = some v) ∧ ListsAt w o vf va vk := by
      intro i hi
      obtain ⟨cs', h1, h2⟩ := hel i (by rw [hmm]; split <;> omega)
      rw [zs50] at h1
      obtain ⟨_, hlen, hcell⟩ := World.cells?_some h1
      obtain ⟨o, vf, va, vk, rfl, hL, hw⟩ := open_cells hlen h2
      refine ⟨o, hw, vf, va, vk, fun j v hj => ?_, hL⟩
      have hj' : j < 11 := by have := (List.getElem?_eq_some_iff.1 hj).1; rw [hlen] at this; exact this
      have d := hcell j hj'
      rw [add_add] at d
      rw [d, hj]
    have : Inhabited Opn := ⟨⟨0, 0, 0, [], false, false, [], false, false, 0, []⟩⟩
    obtain ⟨q, hq⟩ := choose_lt each
    by_cases hz : n = 0
    · subst hz
      exact ⟨[], some a, 0, 0, cap, rfl, Or.inr rfl, fun j hj => by simp at hj⟩
    · obtain ⟨b, off, spot⟩ := a
      have hspot : spot = none := by
        obtain ⟨_, vf, va, vk, hc, _⟩ := hq 0 (by omega)
        have := hc 0 _ rfl
        simpa [Addr.add] using World.cell?_spot this
      subst hspot
      refine ⟨(List.range n).map q, some ⟨b, off, none⟩, b, off, cap, by simp, Or.inl rfl, fun j hj => ?_⟩
      have hj' : j < n := by simpa using hj
      obtain ⟨h0, vf, va, vk, h1, h2⟩ := hq j hj'
      have e : ((List.range n).map q)[j] = q j := by simp
      rw [e]
      refine ⟨h0, vf, va, vk, fun k v hk => ?_, h2⟩
      have h3 := h1 k v hk
      rw [add_off] at h3
      rw [Nat.add_assoc]
      exact h3
theorem open_notes {v : Value} {x : DataW H × List MemPlace} (hf : DataW.trod enc Tryz.prog w 0 sp held fuel 23 [v] = some x) (hs : Small 23 x.1) : ∃ L, NotesAt w v L := by
  rcases open_slice Tryz.underlying23 hf with ⟨hcs, _⟩ | ⟨a, n, cap, m, fu, D, Pl, hcs, hb, hl, hm, hmm, hx, hel⟩
  · simp at hcs
    subst hcs
    exact ⟨[], none, 0, 0, 0, rfl, Or.inr rfl, fun j hj => by simp at hj⟩
  · simp at hcs
    subst hcs
    have each : ∀ i, i < n → ∃ k : Nt, (k.c < 256 ∧ k.s < 256 ∧ k.d.length ≤ 281474976710656) ∧ w.cell? (a.add (i * 3)) = some (.int .u8 (k.c : Int)) ∧ w.cell? (a.add (i * 3 + 1)) = some (.int .u8 (k.s : Int)) ∧ w.cell? (a.add (i * 3 + 2)) = some (.string ⟨k.d.toArray⟩) := by
      intro i hi
      obtain ⟨cs', h1, h2⟩ := hel i (by rw [hmm]; split <;> omega)
      have hsm : Small 55 (D i) := small_part (ds := (List.range n).map D) (fun y hy => hs y (by rw [hx]; simp only [DataW.weights, Tryz.underlying23, List.mem_cons, List.mem_append]; exact Or.inr (Or.inl hy))) (List.mem_map.mpr ⟨i, by simpa using hi, rfl⟩)
      rw [zs55] at h1
      obtain ⟨_, hlen, hcell⟩ := World.cells?_some h1
      obtain ⟨c0, c1, c2, rfl⟩ := li3 cs' hlen
      obtain ⟨y0, y1, y2, nn, hy, _, g0, g1, g2⟩ := trod_struct3 Tryz.underlying55 h2
      simp only [zs5, zs9, List.drop_zero, List.drop_succ_cons, List.take_succ_cons, List.take_zero] at g0 g1 g2
      obtain ⟨f, e0, _, q0⟩ := DataW.trod_int (k := .u8) Tryz.underlying5 g0
      obtain ⟨s, e1, _, q1⟩ := DataW.trod_int (k := .u8) Tryz.underlying5 g1
      obtain ⟨t, e2, hyt, _⟩ := DataW.trod_string Tryz.underlying9 g2
      have hw : t.data.toList.length ≤ reachBytes := by
        refine hsm _ ?_
        rw [(Prod.mk.inj hy).1, hyt]
        simp only [DataW.weights, Tryz.underlying55]
        simp [DataW.weightsEach, DataW.weights]
      obtain ⟨f', rfl, hf'⟩ := u8_natT q0
      obtain ⟨s', rfl, hs'⟩ := u8_natT q1
      simp at e0 e1 e2
      subst e0 e1 e2
      have d0 := hcell 0 (by omega)
      have d1 := hcell 1 (by omega)
      have d2 := hcell 2 (by omega)
      rw [add_add] at d0 d1 d2
      refine ⟨⟨f', s', t.data.toList⟩, ⟨hf', hs', ?_⟩, by simpa using d0, by simpa using d1, ?_⟩
      · have := reachBytes_lt
        show t.data.toList.length ≤ _
        omega
      · have e : (⟨t.data.toList.toArray⟩ : ByteArray) = t := by cases t; simp
        rw [e]; simpa using d2
    have : Inhabited Nt := ⟨⟨0, 0, []⟩⟩
    obtain ⟨q, hq⟩ := choose_lt each
    by_cases hz : n = 0
    · subst hz
      exact ⟨[], some a, 0, 0, cap, rfl, Or.inr rfl, fun j hj => by simp at hj⟩
    · obtain ⟨b, off, spot⟩ := a
      have hspot : spot = none := by
        have := (hq 0 (by omega)).2.1
        simpa [Addr.add] using World.cell?_spot this
      subst hspot
      refine ⟨(List.range n).map q, some ⟨b, off, none⟩, b, off, cap, by simp, Or.inl rfl, fun j hj => ?_⟩
      have hj' : j < n := by simpa using hj
      have h1 := hq j hj'
      simp only [add_off] at h1
      have e : ((List.range n).map q)[j] = q j := by simp
      rw [e]
      exact ⟨h1.1, h1.2.1, by have := h1.2.2.1; rwa [← Nat.add_assoc] at this, by have := h1.2.2.2; rwa [← Nat.add_assoc] at this⟩
set_option maxRecDepth 100000 in
theorem open_talk {b0 : Nat} {r : Reach} {v : Value} {d : DataW H} {ps : List MemPlace} (hval : Value.okWide Tryz.prog w r b0 27 v) (hd : DataW.Trod enc Tryz.prog w 0 sp held 27 v d ps) (hz : Small 27 d) :
    ∃ (OL : List Opn) (NL : List Nt) (FL : List Int) (C : List Nat) (vo vn vf vc : Value), v = .agg #[vo, vn, vf, vc] ∧ OpensAt w vo OL ∧ NotesAt w vn NL ∧ IntsAt w vf FL ∧ Fr.U8sAt w vc C ∧ ∀ n ∈ C, n < 256 := by
  obtain ⟨cs, rfl, hc⟩ := okWide_struct Tryz.underlying27 hval
  rw [zz27] at hc
  obtain ⟨c0, c1, c2, c3, rfl⟩ : ∃ c0 c1 c2 c3, cs = #[c0, c1, c2, c3] := by
    obtain ⟨l⟩ := cs
    match l, hc with
    | [c0, c1, c2, c3], _ => exact ⟨c0, c1, c2, c3, rfl⟩
  obtain ⟨fuel, hf⟩ := hd
  obtain ⟨xs, n, _, hdx, hl, hlen, hfs⟩ := DataW.trod_struct Tryz.underlying27 hf
  obtain ⟨y0, y1, y2, y3, rfl⟩ : ∃ y0 y1 y2 y3, xs = [y0, y1, y2, y3] := by
    match xs, hlen with
    | [y0, y1, y2, y3], _ => exact ⟨y0, y1, y2, y3, rfl⟩
  have h0 : DataW.trod enc Tryz.prog w 0 sp held n 22 [c0] = some y0 := by have h : DataW.trod enc Tryz.prog w 0 sp held n 22 (([c0, c1, c2, c3].drop 0).take (Tryz.prog.cellsOf 22)) = some y0 := hfs 0 _ rfl; rw [zz22] at h; exact h
  have h1 : DataW.trod enc Tryz.prog w 0 sp held n 23 [c1] = some y1 := by have h : DataW.trod enc Tryz.prog w 0 sp held n 23 (([c0, c1, c2, c3].drop 1).take (Tryz.prog.cellsOf 23)) = some y1 := hfs 1 _ rfl; rw [zz23] at h; exact h
  have h2 : DataW.trod enc Tryz.prog w 0 sp held n 24 [c2] = some y2 := by have h : DataW.trod enc Tryz.prog w 0 sp held n 24 (([c0, c1, c2, c3].drop 2).take (Tryz.prog.cellsOf 24)) = some y2 := hfs 2 _ rfl; rw [zz24] at h; exact h
  have h3 : DataW.trod enc Tryz.prog w 0 sp held n 25 [c3] = some y3 := by have h : DataW.trod enc Tryz.prog w 0 sp held n 25 (([c0, c1, c2, c3].drop 3).take (Tryz.prog.cellsOf 25)) = some y3 := hfs 3 _ rfl; rw [zz25] at h; exact h
  have hz1 : Small 23 y1.1 := fun y hy => hz y (by
    have e := (Prod.mk.inj hdx).1
    rw [e]
    simp only [DataW.weights, Tryz.underlying27]
    simp [DataW.weightsEach]
    exact Or.inr (Or.inl hy))
  obtain ⟨OL, hO⟩ := open_opens h0
  obtain ⟨NL, hN⟩ := open_notes h1 hz1
  obtain ⟨FL, hF⟩ := open_ints h2
  obtain ⟨C, hC, hC8⟩ := open_u8s h3
  exact ⟨OL, NL, FL, C, c0, c1, c2, c3, rfl, hO, hN, hF, hC, hC8⟩
end Go.Proofs.YtfhapjhkjdifjaaGreatDoor
