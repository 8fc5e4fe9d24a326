/-
  Arguments that come in: told messages, small numbers, two of them.
-/
import Derived.Test.YtlinoklgchfedaaDoorJ6
import Derived.Test.YtlinoklgchfedaaDoorF3
import Derived.Deep.Strs
namespace Go.Proofs.YtlinoklgchfedaaDoor
open Go.ChangeShapes Go.WideShapes Go.ChangeAt Go.RowKit Go.Joins Go.Deep Go.WideMaps Go.WideElems
variable {H : Type} {enc : TypeId × Value → H} {w : World} {sp : Nat → Bool} {held : Bool} {fuel : Nat}
theorem add_off2 (b off i : Nat) : Addr.add ⟨b, off, none⟩ i = ⟨b, off + i, none⟩ := by unfold Addr.add; by_cases e : i = 0 <;> simp [e]
theorem zs5 : Tryd.prog.cellsOf 5 = 1 := by kernel_rfl
theorem zs59 : Tryd.prog.cellsOf 59 = 3 := by kernel_rfl
theorem zs47 : Tryd.prog.cellsOf 47 = 2 := by kernel_rfl
theorem u8_bd {n : Int} (h : (Lit.int .u8 n).wf = true) : 0 ≤ n ∧ n < 256 := by
  have hb : 0 ≤ n ∧ n ≤ 255 := by simpa [Lit.wf, IntKind.min, IntKind.max, IntKind.signed, IntKind.bits] using h
  omega
theorem li3 {α : Type} (l : List α) (h : l.length = 3) : ∃ c0 c1 c2, l = [c0, c1, c2] := by
  match l, h with
  | [c0, c1, c2], _ => exact ⟨c0, c1, c2, rfl⟩
theorem u8_nat {n : Int} (h : 0 ≤ n ∧ n < 256) : ∃ m : Nat, n = (m : Int) ∧ m < 256 := by
  obtain ⟨m, rfl⟩ := Int.eq_ofNat_of_zero_le h.1
  exact ⟨m, rfl, by omega⟩
def Tl.cs (t : Tl) : List Value := [.int .u8 (t.k : Int), .int .u8 (t.m : Int), .int .u8 (t.f : Int)]
set_option maxRecDepth 100000 in
theorem tl_of {base : Nat} {cs : List Value} {x : DataW H × List MemPlace} (hl : cs.length = 3) (hf : DataW.trod enc Tryd.prog w base sp held fuel 59 cs = some x) : ∃ t : Tl, cs = t.cs ∧ TlOk t := by
  obtain ⟨c0, c1, c2, rfl⟩ := li3 cs hl
  obtain ⟨y0, y1, y2, n, _, _, h0, h1, h2⟩ := trod_struct3 Tryd.underlying59 hf
  simp only [zs5, List.drop_zero, List.drop_succ_cons, List.take_succ_cons, List.take_zero] at h0 h1 h2
  obtain ⟨a, e0, _, q0⟩ := DataW.trod_int (k := .u8) Tryd.underlying5 h0
  obtain ⟨b, e1, _, q1⟩ := DataW.trod_int (k := .u8) Tryd.underlying5 h1
  obtain ⟨c, e2, _, q2⟩ := DataW.trod_int (k := .u8) Tryd.underlying5 h2
  simp at e0 e1 e2
  obtain ⟨a', rfl, ha⟩ := u8_nat (u8_bd q0)
  obtain ⟨b', rfl, hb⟩ := u8_nat (u8_bd q1)
  obtain ⟨c', rfl, hc⟩ := u8_nat (u8_bd q2)
  exact ⟨⟨a', b', c'⟩, by rw [e0, e1, e2]; rfl, ⟨ha, hb, hc⟩⟩
theorem open_tolds {v : Value} {d : DataW H} {ps : List MemPlace} (hd : DataW.Trod enc Tryd.prog w 0 sp held 42 v d ps) (hv : ∃ ad n c, v = .slice ad n c) : ∃ R, TlsAt w v R ∧ ∀ t ∈ R, TlOk t := by
  obtain ⟨fuel, hf⟩ := hd
  obtain ⟨ad, n, c, rfl⟩ := hv
  have hf' : DataW.trod enc Tryd.prog w 0 sp held fuel 42 [.slice ad n c] = some (d, ps) := by simpa [Value.cells] using hf
  rcases open_slice Tryd.underlying42 hf' with ⟨hcs, _⟩ | ⟨a, len, cap, m, fu, D, Pl, hcs, hb, hl, hm, hmm, hx, hel⟩
  · simp at hcs
    obtain ⟨rfl, rfl, rfl⟩ := hcs
    exact ⟨[], ⟨none, 0, 0, 0, rfl, Or.inr rfl, by simp, fun j hj => by simp at hj⟩, fun n hn => by simp at hn⟩
  · simp at hcs
    obtain ⟨rfl, rfl, rfl⟩ := hcs
    have each : ∀ i, i < n → ∃ C : Tl, TlOk C ∧ ∀ j u, C.cs[j]? = some u → w.cell? (a.add (i * 3 + j)) = some u := by
      intro i hi
      obtain ⟨cs', h1, h2⟩ := hel i (by rw [hmm]; split <;> omega)
      rw [zs59] at h1
      obtain ⟨_, hlen, hcell⟩ := World.cells?_some h1
      obtain ⟨C, rfl, hw⟩ := tl_of hlen h2
      refine ⟨C, hw, fun j u hj => ?_⟩
      have hjl : j < C.cs.length := (List.getElem?_eq_some_iff.mp hj).1
      have d := hcell j (by omega)
      rw [add_add] at d
      rw [d]
      exact hj
    have : Inhabited Tl := ⟨⟨0, 0, 0⟩⟩
    obtain ⟨q, hq⟩ := choose_lt each
    by_cases hz : n = 0
    · subst hz
      exact ⟨[], ⟨some a, 0, 0, c, rfl, Or.inr rfl, by simp, fun j hj => by simp at hj⟩, fun n hn => by simp at hn⟩
    · obtain ⟨b, off, spot⟩ := a
      have hspot : spot = none := by
        obtain ⟨h1, h2⟩ := hq 0 (by omega)
        have := h2 0 (.int .u8 ((q 0).k : Int)) rfl
        simpa [Addr.add] using World.cell?_spot this
      subst hspot
      refine ⟨(List.range n).map q, ⟨some ⟨b, off, none⟩, b, off, c, by simp, Or.inl rfl, by simpa using hl, fun j hj => ?_⟩, fun t ht => ?_⟩
      · have hj' : j < n := by simpa using hj
        obtain ⟨h1, h2⟩ := hq j hj'
        simp only [add_off2] at h2
        have e : ((List.range n).map q)[j] = q j := by simp
        rw [e]
        exact ⟨h2 0 _ rfl, by have := h2 1 _ rfl; rwa [← Nat.add_assoc] at this, by have := h2 2 _ rfl; rwa [← Nat.add_assoc] at this⟩
      · simp only [List.mem_map, List.mem_range] at ht
        obtain ⟨i, hi, rfl⟩ := ht
        exact (hq i hi).1
theorem open_u8s {v : Value} {d : DataW H} {ps : List MemPlace} (hd : DataW.Trod enc Tryd.prog w 0 sp held 43 v d ps) (hv : ∃ ad n c, v = .slice ad n c) : ∃ L, U8sAt w v L ∧ ∀ n ∈ L, n < 256 := by
  obtain ⟨fuel, hf⟩ := hd
  obtain ⟨ad, n, c, rfl⟩ := hv
  have hf' : DataW.trod enc Tryd.prog w 0 sp held fuel 43 [.slice ad n c] = some (d, ps) := by simpa [Value.cells] using hf
  rcases open_slice Tryd.underlying43 hf' with ⟨hcs, _⟩ | ⟨a, len, cap, m, fu, D, Pl, hcs, hb, hl, hm, hmm, hx, hel⟩
  · simp at hcs
    obtain ⟨rfl, rfl, rfl⟩ := hcs
    exact ⟨[], ⟨none, 0, 0, 0, rfl, Or.inr rfl, by simp, fun j hj => by simp at hj⟩, fun s hs => by simp at hs⟩
  · simp at hcs
    obtain ⟨rfl, rfl, rfl⟩ := hcs
    have each : ∀ i, i < n → ∃ s : Nat, s < 256 ∧ w.cell? (a.add i) = some (.int .u8 (s : Int)) := by
      intro i hi
      obtain ⟨cs', h1, h2⟩ := hel i (by rw [hmm]; split <;> omega)
      rw [zs5, Nat.mul_one] at h1
      obtain ⟨_, hlen, hcell⟩ := World.cells?_some h1
      obtain ⟨s, e, _, q⟩ := DataW.trod_int (k := .u8) Tryd.underlying5 h2
      obtain ⟨s', rfl, hs⟩ := u8_nat (u8_bd q)
      refine ⟨s', hs, ?_⟩
      have d := hcell 0 (by omega)
      rw [add_add, Nat.add_zero] at d
      rw [d, e]
      rfl
    obtain ⟨q, hq⟩ := choose_lt each
    by_cases hz : n = 0
    · subst hz
      exact ⟨[], ⟨some a, 0, 0, c, rfl, Or.inr rfl, by simp, fun j hj => by simp at hj⟩, fun s hs => by simp at hs⟩
    · obtain ⟨b, off, spot⟩ := a
      have hspot : spot = none := by
        have := (hq 0 (by omega)).2
        simpa [Addr.add] using World.cell?_spot this
      subst hspot
      refine ⟨(List.range n).map q, ⟨some ⟨b, off, none⟩, b, off, c, by simp, Or.inl rfl, by simpa using hl, fun j hj => ?_⟩, fun s hs => ?_⟩
      · have hj' : j < n := by simpa using hj
        have h1 := (hq j hj').2
        simp only [add_off2] at h1
        simpa using h1
      · simp only [List.mem_map, List.mem_range] at hs
        obtain ⟨i, hi, rfl⟩ := hs
        exact (hq i hi).1
end Go.Proofs.YtlinoklgchfedaaDoor
