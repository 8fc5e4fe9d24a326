/-
  Opens that come in as arguments.
-/
import Derived.Test.YtlhnfejgkhilkaaGreatDoorKJ
import Derived.Test.YtlhnfejgkhilkaaGreatDoorP4
import Derived.Deep.Strs
import Derived.Test.YtlhnfejgkhilkaaGreatDoorOa
import Derived.SizedLaws
namespace Go.Proofs.YtlhnfejgkhilkaaGreatDoor
open Go.ChangeShapes Go.WideShapes Go.ChangeAt Go.RowKit Go.Joins Go.Deep Go.WideMaps Go.WideElems
theorem zs3 : Tryz.prog.cellsOf 3 = 1 := by kernel_rfl
theorem zs4 : Tryz.prog.cellsOf 4 = 1 := by kernel_rfl
theorem zs22 : Tryz.prog.cellsOf 22 = 1 := by kernel_rfl
theorem zs23 : Tryz.prog.cellsOf 23 = 1 := by kernel_rfl
theorem zs24 : Tryz.prog.cellsOf 24 = 1 := by kernel_rfl
theorem zs25 : Tryz.prog.cellsOf 25 = 1 := by kernel_rfl
theorem zs27 : Tryz.prog.cellsOf 27 = 11 := by kernel_rfl
theorem zs69 : Tryz.prog.cellsOf 40 = 2 := by kernel_rfl
theorem zs71 : Tryz.prog.cellsOf 52 = 3 := by kernel_rfl
theorem add_off (b off i : Nat) : Addr.add ⟨b, off, none⟩ i = ⟨b, off + i, none⟩ := by unfold Addr.add; by_cases e : i = 0 <;> simp [e]
theorem u32_bd {n : Int} (h : (Lit.int .u32 n).wf = true) : 0 ≤ n ∧ n < 4294967296 := by
  have hb : 0 ≤ n ∧ n ≤ 4294967295 := by simpa [Lit.wf, IntKind.min, IntKind.max, IntKind.signed, IntKind.bits] using h
  omega
theorem li2 {α : Type} (l : List α) (h : l.length = 2) : ∃ c0 c1, l = [c0, c1] := by
  match l, h with
  | [c0, c1], _ => exact ⟨c0, c1, rfl⟩
theorem li3 {α : Type} (l : List α) (h : l.length = 3) : ∃ c0 c1 c2, l = [c0, c1, c2] := by
  match l, h with
  | [c0, c1, c2], _ => exact ⟨c0, c1, c2, rfl⟩
theorem array11 {α : Type} {a : Array α} (h : a.size = 11) : ∃ c0 c1 c2 c3 c4 c5 c6 c7 c8 c9 c10, a = #[c0, c1, c2, c3, c4, c5, c6, c7, c8, c9, c10] := by
  obtain ⟨l⟩ := a
  match l, h with
  | [c0, c1, c2, c3, c4, c5, c6, c7, c8, c9, c10], _ => exact ⟨c0, c1, c2, c3, c4, c5, c6, c7, c8, c9, c10, rfl⟩
variable {H : Type} {enc : TypeId × Value → H} {w : World} {sp : Nat → Bool} {held : Bool} {fuel : Nat}
theorem open_ints {v : Value} {x : DataW H × List MemPlace} (hf : DataW.trod enc Tryz.prog w 0 sp held fuel 23 [v] = some x) : ∃ L, IntsAt w v L := by
  rcases open_slice Tryz.underlying23 hf with ⟨hcs, _⟩ | ⟨a, n, cap, m, fu, D, Pl, hcs, hb, hl, hm, hmm, hx, hel⟩
  · simp at hcs
    subst hcs
    exact ⟨[], none, 0, 0, 0, rfl, Or.inr rfl, by simp, fun j hj => by simp at hj⟩
  · simp at hcs
    subst hcs
    have each : ∀ i, i < n → ∃ k : Int, w.cell? (a.add i) = some (.int .i64 k) := by
      intro i hi
      obtain ⟨cs', h1, h2⟩ := hel i (by rw [hmm]; split <;> omega)
      rw [zs3, Nat.mul_one] at h1
      obtain ⟨_, hlen, hcell⟩ := World.cells?_some h1
      obtain ⟨k, e, _, _⟩ := DataW.trod_int (k := .i64) Tryz.underlying3 h2
      refine ⟨k, ?_⟩
      have d := hcell 0 (by omega)
      rw [add_add, Nat.add_zero] at d
      rw [d, e]
      rfl
    obtain ⟨q, hq⟩ := choose_lt each
    by_cases hz : n = 0
    · subst hz
      exact ⟨[], some a, 0, 0, cap, rfl, Or.inr rfl, by simp, fun j hj => by simp at hj⟩
    · obtain ⟨b, off, spot⟩ := a
      have hspot : spot = none := by
        have := hq 0 (by omega)
        simpa [Addr.add] using World.cell?_spot this
      subst hspot
      refine ⟨(List.range n).map q, some ⟨b, off, none⟩, b, off, cap, by simp, Or.inl rfl, by simpa using hl, fun j hj => ?_⟩
      have hj' : j < n := by simpa using hj
      have h1 := hq j hj'
      simp only [add_off] at h1
      simpa using h1
theorem open_adds {v : Value} {x : DataW H × List MemPlace} (hf : DataW.trod enc Tryz.prog w 0 sp held fuel 24 [v] = some x) : ∃ L, AddsAt w v L := by
  rcases open_slice Tryz.underlying24 hf with ⟨hcs, _⟩ | ⟨a, n, cap, m, fu, D, Pl, hcs, hb, hl, hm, hmm, hx, hel⟩
  · simp at hcs
    subst hcs
    exact ⟨[], none, 0, 0, 0, rfl, Or.inr rfl, by simp, fun j hj => by simp at hj⟩
  · simp at hcs
    subst hcs
    have each : ∀ i, i < n → ∃ k : Ad, w.cell? (a.add (i * 3)) = some (.int .i64 k.f) ∧ w.cell? (a.add (i * 3 + 1)) = some (.bool k.s) ∧ w.cell? (a.add (i * 3 + 2)) = some (.bool k.t) := by
      intro i hi
      obtain ⟨cs', h1, h2⟩ := hel i (by rw [hmm]; split <;> omega)
      rw [zs71] at h1
      obtain ⟨_, hlen, hcell⟩ := World.cells?_some h1
      obtain ⟨c0, c1, c2, rfl⟩ := li3 cs' hlen
      obtain ⟨y0, y1, y2, nn, _, _, g0, g1, g2⟩ := trod_struct3 Tryz.underlying52 h2
      simp only [zs3, zs4, List.drop_zero, List.drop_succ_cons, List.take_succ_cons, List.take_zero] at g0 g1 g2
      obtain ⟨f, e0, _, _⟩ := DataW.trod_int (k := .i64) Tryz.underlying3 g0
      obtain ⟨s, e1, _⟩ := DataW.trod_bool Tryz.underlying4 g1
      obtain ⟨t, e2, _⟩ := DataW.trod_bool Tryz.underlying4 g2
      simp at e0 e1 e2
      subst e0 e1 e2
      have d0 := hcell 0 (by omega)
      have d1 := hcell 1 (by omega)
      have d2 := hcell 2 (by omega)
      rw [add_add] at d0 d1 d2
      exact ⟨⟨f, s, t⟩, by simpa using d0, by simpa using d1, by simpa using d2⟩
    have : Inhabited Ad := ⟨⟨0, false, false⟩⟩
    obtain ⟨q, hq⟩ := choose_lt each
    by_cases hz : n = 0
    · subst hz
      exact ⟨[], some a, 0, 0, cap, rfl, Or.inr rfl, by simp, fun j hj => by simp at hj⟩
    · obtain ⟨b, off, spot⟩ := a
      have hspot : spot = none := by
        have := (hq 0 (by omega)).1
        simpa [Addr.add] using World.cell?_spot this
      subst hspot
      refine ⟨(List.range n).map q, some ⟨b, off, none⟩, b, off, cap, by simp, Or.inl rfl, by simpa using hl, fun j hj => ?_⟩
      have hj' : j < n := by simpa using hj
      have h1 := hq j hj'
      simp only [add_off] at h1
      have e : ((List.range n).map q)[j] = q j := by simp
      rw [e]
      exact ⟨h1.1, by have := h1.2.1; rwa [← Nat.add_assoc] at this, by have := h1.2.2; rwa [← Nat.add_assoc] at this⟩
theorem open_kept {v : Value} {x : DataW H × List MemPlace} (hf : DataW.trod enc Tryz.prog w 0 sp held fuel 25 [v] = some x) : ∃ L, KeptsAt w v L := by
  rcases open_slice Tryz.underlying25 hf with ⟨hcs, _⟩ | ⟨a, n, cap, m, fu, D, Pl, hcs, hb, hl, hm, hmm, hx, hel⟩
  · simp at hcs
    subst hcs
    exact ⟨[], none, 0, 0, 0, rfl, Or.inr rfl, by simp, fun j hj => by simp at hj⟩
  · simp at hcs
    subst hcs
    have each : ∀ i, i < n → ∃ k : Kp, w.cell? (a.add (i * 2)) = some (.int .i64 k.f) ∧ w.cell? (a.add (i * 2 + 1)) = some (.bool k.k) := by
      intro i hi
      obtain ⟨cs', h1, h2⟩ := hel i (by rw [hmm]; split <;> omega)
      rw [zs69] at h1
      obtain ⟨_, hlen, hcell⟩ := World.cells?_some h1
      obtain ⟨c0, c1, rfl⟩ := li2 cs' hlen
      obtain ⟨y0, y1, nn, _, _, g0, g1⟩ := trod_struct2 Tryz.underlying40 h2
      simp only [zs3, zs4, List.drop_zero, List.drop_succ_cons, List.take_succ_cons, List.take_zero] at g0 g1
      obtain ⟨f, e0, _, _⟩ := DataW.trod_int (k := .i64) Tryz.underlying3 g0
      obtain ⟨s, e1, _⟩ := DataW.trod_bool Tryz.underlying4 g1
      simp at e0 e1
      subst e0 e1
      have d0 := hcell 0 (by omega)
      have d1 := hcell 1 (by omega)
      rw [add_add] at d0 d1
      exact ⟨⟨f, s⟩, by simpa using d0, by simpa using d1⟩
    have : Inhabited Kp := ⟨⟨0, false⟩⟩
    obtain ⟨q, hq⟩ := choose_lt each
    by_cases hz : n = 0
    · subst hz
      exact ⟨[], some a, 0, 0, cap, rfl, Or.inr rfl, by simp, fun j hj => by simp at hj⟩
    · obtain ⟨b, off, spot⟩ := a
      have hspot : spot = none := by
        have := (hq 0 (by omega)).1
        simpa [Addr.add] using World.cell?_spot this
      subst hspot
      refine ⟨(List.range n).map q, some ⟨b, off, none⟩, b, off, cap, by simp, Or.inl rfl, by simpa using hl, fun j hj => ?_⟩
      have hj' : j < n := by simpa using hj
      have h1 := hq j hj'
      simp only [add_off] at h1
      have e : ((List.range n).map q)[j] = q j := by simp
      rw [e]
      exact ⟨h1.1, by have := h1.2; rwa [← Nat.add_assoc] at this⟩
set_option maxRecDepth 100000 in
theorem open_open {b0 : Nat} {r : Reach} {v : Value} {d : DataW H} {ps : List MemPlace} (hval : Value.okWide Tryz.prog w r b0 27 v) (hd : DataW.Trod enc Tryz.prog w 0 sp held 27 v d ps) :
    ∃ (o : Opn) (vf va vk : Value), v = opV o vf va vk ∧ ListsAt w o vf va vk ∧ OpnWf o := by
  obtain ⟨cs, rfl, hc⟩ := okWide_struct Tryz.underlying27 hval
  rw [zs27] at hc
  obtain ⟨c0, c1, c2, c3, c4, c5, c6, c7, c8, c9, c10, rfl⟩ := array11 hc
  obtain ⟨fuel, hf⟩ := hd
  obtain ⟨xs, n, hr, _, hl, hlen, hfs⟩ := DataW.trod_struct Tryz.underlying27 hf
  obtain ⟨y0, y1, y2, y3, y4, y5, y6, y7, y8, y9, y10, rfl⟩ : ∃ y0 y1 y2 y3 y4 y5 y6 y7 y8 y9 y10, xs = [y0, y1, y2, y3, y4, y5, y6, y7, y8, y9, y10] := by
    match xs, hlen with
    | [y0, y1, y2, y3, y4, y5, y6, y7, y8, y9, y10], _ => exact ⟨y0, y1, y2, y3, y4, y5, y6, y7, y8, y9, y10, rfl⟩
  have h0 : DataW.trod enc Tryz.prog w 0 sp held n 22 [c0] = some y0 := by have h : DataW.trod enc Tryz.prog w 0 sp held n 22 (([c0, c1, c2, c3, c4, c5, c6, c7, c8, c9, c10].drop 0).take (Tryz.prog.cellsOf 22)) = some y0 := hfs 0 _ rfl; rw [zs22] at h; exact h
  have h1 : DataW.trod enc Tryz.prog w 0 sp held n 3 [c1] = some y1 := by have h : DataW.trod enc Tryz.prog w 0 sp held n 3 (([c0, c1, c2, c3, c4, c5, c6, c7, c8, c9, c10].drop 1).take (Tryz.prog.cellsOf 3)) = some y1 := hfs 1 _ rfl; rw [zs3] at h; exact h
  have h2 : DataW.trod enc Tryz.prog w 0 sp held n 22 [c2] = some y2 := by have h : DataW.trod enc Tryz.prog w 0 sp held n 22 (([c0, c1, c2, c3, c4, c5, c6, c7, c8, c9, c10].drop 2).take (Tryz.prog.cellsOf 22)) = some y2 := hfs 2 _ rfl; rw [zs22] at h; exact h
  have h3 : DataW.trod enc Tryz.prog w 0 sp held n 23 [c3] = some y3 := by have h : DataW.trod enc Tryz.prog w 0 sp held n 23 (([c0, c1, c2, c3, c4, c5, c6, c7, c8, c9, c10].drop 3).take (Tryz.prog.cellsOf 23)) = some y3 := hfs 3 _ rfl; rw [zs23] at h; exact h
  have h4 : DataW.trod enc Tryz.prog w 0 sp held n 4 [c4] = some y4 := by have h : DataW.trod enc Tryz.prog w 0 sp held n 4 (([c0, c1, c2, c3, c4, c5, c6, c7, c8, c9, c10].drop 4).take (Tryz.prog.cellsOf 4)) = some y4 := hfs 4 _ rfl; rw [zs4] at h; exact h
  have h5 : DataW.trod enc Tryz.prog w 0 sp held n 4 [c5] = some y5 := by have h : DataW.trod enc Tryz.prog w 0 sp held n 4 (([c0, c1, c2, c3, c4, c5, c6, c7, c8, c9, c10].drop 5).take (Tryz.prog.cellsOf 4)) = some y5 := hfs 5 _ rfl; rw [zs4] at h; exact h
  have h6 : DataW.trod enc Tryz.prog w 0 sp held n 24 [c6] = some y6 := by have h : DataW.trod enc Tryz.prog w 0 sp held n 24 (([c0, c1, c2, c3, c4, c5, c6, c7, c8, c9, c10].drop 6).take (Tryz.prog.cellsOf 24)) = some y6 := hfs 6 _ rfl; rw [zs24] at h; exact h
  have h7 : DataW.trod enc Tryz.prog w 0 sp held n 4 [c7] = some y7 := by have h : DataW.trod enc Tryz.prog w 0 sp held n 4 (([c0, c1, c2, c3, c4, c5, c6, c7, c8, c9, c10].drop 7).take (Tryz.prog.cellsOf 4)) = some y7 := hfs 7 _ rfl; rw [zs4] at h; exact h
  have h8 : DataW.trod enc Tryz.prog w 0 sp held n 4 [c8] = some y8 := by have h : DataW.trod enc Tryz.prog w 0 sp held n 4 (([c0, c1, c2, c3, c4, c5, c6, c7, c8, c9, c10].drop 8).take (Tryz.prog.cellsOf 4)) = some y8 := hfs 8 _ rfl; rw [zs4] at h; exact h
  have h9 : DataW.trod enc Tryz.prog w 0 sp held n 3 [c9] = some y9 := by have h : DataW.trod enc Tryz.prog w 0 sp held n 3 (([c0, c1, c2, c3, c4, c5, c6, c7, c8, c9, c10].drop 9).take (Tryz.prog.cellsOf 3)) = some y9 := hfs 9 _ rfl; rw [zs3] at h; exact h
  have h10 : DataW.trod enc Tryz.prog w 0 sp held n 25 [c10] = some y10 := by have h : DataW.trod enc Tryz.prog w 0 sp held n 25 (([c0, c1, c2, c3, c4, c5, c6, c7, c8, c9, c10].drop 10).take (Tryz.prog.cellsOf 25)) = some y10 := hfs 10 _ rfl; rw [zs25] at h; exact h
  obtain ⟨asn, e0, _, q0⟩ := DataW.trod_int (k := .u32) Tryz.underlying22 h0
  obtain ⟨hold, e1, _, _⟩ := DataW.trod_int (k := .i64) Tryz.underlying3 h1
  obtain ⟨id, e2, _, q2⟩ := DataW.trod_int (k := .u32) Tryz.underlying22 h2
  obtain ⟨L3, g3⟩ := open_ints h3
  obtain ⟨four, e4, _⟩ := DataW.trod_bool Tryz.underlying4 h4
  obtain ⟨refr, e5, _⟩ := DataW.trod_bool Tryz.underlying4 h5
  obtain ⟨L6, g6⟩ := open_adds h6
  obtain ⟨gr, e7, _⟩ := DataW.trod_bool Tryz.underlying4 h7
  obtain ⟨again, e8, _⟩ := DataW.trod_bool Tryz.underlying4 h8
  obtain ⟨time, e9, _, _⟩ := DataW.trod_int (k := .i64) Tryz.underlying3 h9
  obtain ⟨L10, g10⟩ := open_kept h10
  simp at e0 e1 e2 e4 e5 e7 e8 e9
  subst e0 e1 e2 e4 e5 e7 e8 e9
  have b0 := u32_bd q0
  have b2 := u32_bd q2
  exact ⟨⟨asn, hold, id, L3, four, refr, L6, gr, again, time, L10⟩, c3, c6, c10, rfl, ⟨g3, g6, g10⟩, ⟨b0.1, b0.2, b2.1, b2.2⟩⟩
end Go.Proofs.YtlhnfejgkhilkaaGreatDoor

namespace Go.Proofs.YtlhnfejgkhilkaaGreatDoor
open Go.ChangeShapes Go.WideShapes Go.ChangeAt Go.RowKit Go.Joins Go.Deep Go.WideMaps Go.WideElems
variable {H : Type} {enc : TypeId × Value → H} {w : World} {sp : Nat → Bool} {held : Bool} {fuel : Nat}
/-- What it weighs is within reach. -/
def Small (t : TypeId) (d : DataW H) : Prop := ∀ x ∈ d.weights Tryz.prog t, x ≤ reachBytes
theorem small_each {ts : List TypeId} {ds : List (DataW H)} (h : (DataW.weightsEach Tryz.prog ts ds).all (· ≤ reachBytes) = true) (j : Nat) (t : TypeId) (d : DataW H) (ht : ts[j]? = some t) (hd : ds[j]? = some d) : Small t d := by
  induction ts generalizing ds j with
  | nil => simp at ht
  | cons t0 ts ih =>
    cases ds with
    | nil => simp at hd
    | cons d0 ds =>
      simp only [DataW.weightsEach, List.all_append, Bool.and_eq_true] at h
      cases j with
      | zero =>
        simp at ht hd
        subst ht hd
        intro x hx
        have := List.all_eq_true.mp h.1 x hx
        simpa using this
      | succ j => exact ih h.2 j (by simpa using ht) (by simpa using hd)
theorem by3 : Tryz.prog.bytesOf 3 = 8 := by kernel_rfl
theorem by71 : Tryz.prog.bytesOf 52 = 16 := by kernel_rfl
theorem by69 : Tryz.prog.bytesOf 40 = 16 := by kernel_rfl
theorem len_bound {t e : TypeId} {k n : Nat} (ht : Tryz.prog.underlying t = some (.slice e)) (hb : Tryz.prog.bytesOf e = k) {v : Value} {x : DataW H × List MemPlace} (hf : DataW.trod enc Tryz.prog w 0 sp held fuel t [v] = some x) (hs : Small t x.1) (hv : ∃ ad c, v = .slice ad n c) : n * k ≤ reachBytes := by
  obtain ⟨ad, c, rfl⟩ := hv
  rcases open_slice ht hf with ⟨hcs, _⟩ | ⟨a, len, cap, m, fu, D, Pl, hcs, _, hl, hm, hmm, hx, hel⟩
  · simp at hcs
    obtain ⟨_, rfl, _⟩ := hcs
    simp
  · simp at hcs
    obtain ⟨_, rfl, _⟩ := hcs
    have h := hs ((n + (m - n)) * k) (by rw [hx]; simp [DataW.weights, ht, hb])
    exact Nat.le_trans (Nat.mul_le_mul_right k (by omega)) h
set_option maxRecDepth 100000 in
theorem open_openS {b0 : Nat} {r : Reach} {v : Value} {d : DataW H} {ps : List MemPlace} (hval : Value.okWide Tryz.prog w r b0 27 v) (hd : DataW.Trod enc Tryz.prog w 0 sp held 27 v d ps) (hz : Small 27 d) :
    ∃ (o : Opn) (vf va vk : Value), v = opV o vf va vk ∧ ListsAt w o vf va vk ∧ OpnWf o ∧ Bnd o := by
  obtain ⟨cs, rfl, hc⟩ := okWide_struct Tryz.underlying27 hval
  rw [zs27] at hc
  obtain ⟨c0, c1, c2, c3, c4, c5, c6, c7, c8, c9, c10, rfl⟩ := array11 hc
  obtain ⟨fuel, hf⟩ := hd
  obtain ⟨xs, n, hr, hdx, hl, hlen, hfs⟩ := DataW.trod_struct Tryz.underlying27 hf
  obtain ⟨y0, y1, y2, y3, y4, y5, y6, y7, y8, y9, y10, rfl⟩ : ∃ y0 y1 y2 y3 y4 y5 y6 y7 y8 y9 y10, xs = [y0, y1, y2, y3, y4, y5, y6, y7, y8, y9, y10] := by
    match xs, hlen with
    | [y0, y1, y2, y3, y4, y5, y6, y7, y8, y9, y10], _ => exact ⟨y0, y1, y2, y3, y4, y5, y6, y7, y8, y9, y10, rfl⟩
  have h0 : DataW.trod enc Tryz.prog w 0 sp held n 22 [c0] = some y0 := by have h : DataW.trod enc Tryz.prog w 0 sp held n 22 (([c0, c1, c2, c3, c4, c5, c6, c7, c8, c9, c10].drop 0).take (Tryz.prog.cellsOf 22)) = some y0 := hfs 0 _ rfl; rw [zs22] at h; exact h
  have h1 : DataW.trod enc Tryz.prog w 0 sp held n 3 [c1] = some y1 := by have h : DataW.trod enc Tryz.prog w 0 sp held n 3 (([c0, c1, c2, c3, c4, c5, c6, c7, c8, c9, c10].drop 1).take (Tryz.prog.cellsOf 3)) = some y1 := hfs 1 _ rfl; rw [zs3] at h; exact h
  have h2 : DataW.trod enc Tryz.prog w 0 sp held n 22 [c2] = some y2 := by have h : DataW.trod enc Tryz.prog w 0 sp held n 22 (([c0, c1, c2, c3, c4, c5, c6, c7, c8, c9, c10].drop 2).take (Tryz.prog.cellsOf 22)) = some y2 := hfs 2 _ rfl; rw [zs22] at h; exact h
  have h3 : DataW.trod enc Tryz.prog w 0 sp held n 23 [c3] = some y3 := by have h : DataW.trod enc Tryz.prog w 0 sp held n 23 (([c0, c1, c2, c3, c4, c5, c6, c7, c8, c9, c10].drop 3).take (Tryz.prog.cellsOf 23)) = some y3 := hfs 3 _ rfl; rw [zs23] at h; exact h
  have h4 : DataW.trod enc Tryz.prog w 0 sp held n 4 [c4] = some y4 := by have h : DataW.trod enc Tryz.prog w 0 sp held n 4 (([c0, c1, c2, c3, c4, c5, c6, c7, c8, c9, c10].drop 4).take (Tryz.prog.cellsOf 4)) = some y4 := hfs 4 _ rfl; rw [zs4] at h; exact h
  have h5 : DataW.trod enc Tryz.prog w 0 sp held n 4 [c5] = some y5 := by have h : DataW.trod enc Tryz.prog w 0 sp held n 4 (([c0, c1, c2, c3, c4, c5, c6, c7, c8, c9, c10].drop 5).take (Tryz.prog.cellsOf 4)) = some y5 := hfs 5 _ rfl; rw [zs4] at h; exact h
  have h6 : DataW.trod enc Tryz.prog w 0 sp held n 24 [c6] = some y6 := by have h : DataW.trod enc Tryz.prog w 0 sp held n 24 (([c0, c1, c2, c3, c4, c5, c6, c7, c8, c9, c10].drop 6).take (Tryz.prog.cellsOf 24)) = some y6 := hfs 6 _ rfl; rw [zs24] at h; exact h
  have h7 : DataW.trod enc Tryz.prog w 0 sp held n 4 [c7] = some y7 := by have h : DataW.trod enc Tryz.prog w 0 sp held n 4 (([c0, c1, c2, c3, c4, c5, c6, c7, c8, c9, c10].drop 7).take (Tryz.prog.cellsOf 4)) = some y7 := hfs 7 _ rfl; rw [zs4] at h; exact h
  have h8 : DataW.trod enc Tryz.prog w 0 sp held n 4 [c8] = some y8 := by have h : DataW.trod enc Tryz.prog w 0 sp held n 4 (([c0, c1, c2, c3, c4, c5, c6, c7, c8, c9, c10].drop 8).take (Tryz.prog.cellsOf 4)) = some y8 := hfs 8 _ rfl; rw [zs4] at h; exact h
  have h9 : DataW.trod enc Tryz.prog w 0 sp held n 3 [c9] = some y9 := by have h : DataW.trod enc Tryz.prog w 0 sp held n 3 (([c0, c1, c2, c3, c4, c5, c6, c7, c8, c9, c10].drop 9).take (Tryz.prog.cellsOf 3)) = some y9 := hfs 9 _ rfl; rw [zs3] at h; exact h
  have h10 : DataW.trod enc Tryz.prog w 0 sp held n 25 [c10] = some y10 := by have h : DataW.trod enc Tryz.prog w 0 sp held n 25 (([c0, c1, c2, c3, c4, c5, c6, c7, c8, c9, c10].drop 10).take (Tryz.prog.cellsOf 25)) = some y10 := hfs 10 _ rfl; rw [zs25] at h; exact h
  obtain ⟨asn, e0, _, q0⟩ := DataW.trod_int (k := .u32) Tryz.underlying22 h0
  obtain ⟨hold, e1, _, _⟩ := DataW.trod_int (k := .i64) Tryz.underlying3 h1
  obtain ⟨id, e2, _, q2⟩ := DataW.trod_int (k := .u32) Tryz.underlying22 h2
  obtain ⟨L3, g3⟩ := open_ints h3
  obtain ⟨four, e4, _⟩ := DataW.trod_bool Tryz.underlying4 h4
  obtain ⟨refr, e5, _⟩ := DataW.trod_bool Tryz.underlying4 h5
  obtain ⟨L6, g6⟩ := open_adds h6
  obtain ⟨gr, e7, _⟩ := DataW.trod_bool Tryz.underlying4 h7
  obtain ⟨again, e8, _⟩ := DataW.trod_bool Tryz.underlying4 h8
  obtain ⟨time, e9, _, _⟩ := DataW.trod_int (k := .i64) Tryz.underlying3 h9
  obtain ⟨L10, g10⟩ := open_kept h10
  simp at e0 e1 e2 e4 e5 e7 e8 e9
  subst e0 e1 e2 e4 e5 e7 e8 e9
  have b0 := u32_bd q0
  have b2 := u32_bd q2
  have hdx' := (Prod.mk.inj hdx).1
  have z3 : Small 23 y3.1 := fun y hy => hz y (by rw [hdx']; simp only [DataW.weights, Tryz.underlying27]; simp [DataW.weightsEach]; simp [hy])
  have z6 : Small 24 y6.1 := fun y hy => hz y (by rw [hdx']; simp only [DataW.weights, Tryz.underlying27]; simp [DataW.weightsEach]; simp [hy])
  have z10 : Small 25 y10.1 := fun y hy => hz y (by rw [hdx']; simp only [DataW.weights, Tryz.underlying27]; simp [DataW.weightsEach]; simp [hy])
  have n3 := len_bound Tryz.underlying23 by3 h3 z3 (by obtain ⟨a, _, _, c, e, _⟩ := g3; exact ⟨a, c, e⟩)
  have n6 := len_bound Tryz.underlying24 by71 h6 z6 (by obtain ⟨a, _, _, c, e, _⟩ := g6; exact ⟨a, c, e⟩)
  have n10 := len_bound Tryz.underlying25 by69 h10 z10 (by obtain ⟨a, _, _, c, e, _⟩ := g10; exact ⟨a, c, e⟩)
  have hrb := reachBytes_lt
  exact ⟨⟨asn, hold, id, L3, four, refr, L6, gr, again, time, L10⟩, c3, c6, c10, rfl, ⟨g3, g6, g10⟩, ⟨b0.1, b0.2, b2.1, b2.2⟩, ⟨by show L3.length * 8 ≤ _; omega, by show L6.length * 16 ≤ _; omega, by show L10.length * 16 ≤ _; omega⟩⟩
end Go.Proofs.YtlhnfejgkhilkaaGreatDoor

namespace Go.Proofs.YtlhnfejgkhilkaaGreatDoor
open Go.ChangeShapes Go.WideShapes Go.ChangeAt Go.RowKit Go.Joins Go.Deep Go.WideMaps Go.WideElems
variable {H : Type} {enc : TypeId × Value → H} {w : World} {sp : Nat → Bool} {held : Bool} {fuel : Nat}
theorem zs28 : Tryz.prog.cellsOf 28 = 2 := by kernel_rfl
theorem st28 : Tryz.prog.wantsStandIn 28 = false := by kernel_rfl
theorem arr2 {cs : Array Value} (h : cs.size = 2) : ∃ a b, cs = #[a, b] := by
  obtain ⟨l⟩ := cs
  match l, h with
  | [a, b], _ => exact ⟨a, b, rfl⟩
set_option maxRecDepth 100000 in
theorem okWide_two {r : Reach} {b0 : Nat} {v : Value} (h : Value.okWide Tryz.prog w r b0 28 v) : ∃ cs, v = .agg cs ∧ cs.size = 2 := by
  simp only [Value.okWide, Tryz.underlying28] at h
  obtain ⟨cs, h1, h2, _⟩ := h
  rw [zs28] at h2
  exact ⟨cs, h1, h2⟩
set_option maxRecDepth 100000 in
theorem open_two {b0 : Nat} {r : Reach} {v : Value} {d : DataW H} {ps : List MemPlace} (hval : Value.okWide Tryz.prog w r b0 28 v) (hd : DataW.Trod enc Tryz.prog w 0 sp held 28 v d ps) :
    ∃ (x0 x1 : Int), v = .agg #[.int .u32 x0, .int .u32 x1] := by
  obtain ⟨cs, rfl, hc⟩ := okWide_two hval
  obtain ⟨c0, c1, rfl⟩ := arr2 hc
  obtain ⟨fuel, hf⟩ := hd
  obtain ⟨xs, m, _, hx, hlen, hn, hel⟩ := DataW.trod_array Tryz.underlying28 hf
  rw [zs22] at hel
  have h0 := hel 0 (by decide)
  have h1 := hel 1 (by decide)
  obtain ⟨y0, hy0⟩ : ∃ y0, xs[0]? = some y0 := ⟨_, List.getElem?_eq_getElem (by omega)⟩
  obtain ⟨y1, hy1⟩ : ∃ y1, xs[1]? = some y1 := ⟨_, List.getElem?_eq_getElem (by omega)⟩
  rw [hy0] at h0
  rw [hy1] at h1
  obtain ⟨a, e0, _, q0⟩ := DataW.trod_int (k := .u32) Tryz.underlying22 h0
  obtain ⟨b, e1, _, q1⟩ := DataW.trod_int (k := .u32) Tryz.underlying22 h1
  simp [Value.cells] at e0 e1
  exact ⟨a, b, by rw [e0, e1]⟩
end Go.Proofs.YtlhnfejgkhilkaaGreatDoor
