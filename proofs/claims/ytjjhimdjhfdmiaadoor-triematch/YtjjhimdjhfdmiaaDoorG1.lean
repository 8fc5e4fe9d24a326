/-
  Spots that come in, opened.
-/
import Derived.Test.YtjjhimdjhfdmiaaDoorT3
import Derived.Test.YtjjhimdjhfdmiaaDoorL1
import Derived.Test.YtjjhimdjhfdmiaaDoorF2
import Derived.Test.YtjjhimdjhfdmiaaDoorF3
import Derived.Lib.SmallJoins
import Derived.ShutString
import Derived.ChangeOld
import Derived.Below
import Derived.Carry
import Derived.Deep.SlicePairs
namespace Go.Proofs.YtjjhimdjhfdmiaaDoor
open Go.ChangeShapes Go.WideShapes Go.ChangeAt Go.RowKit Go.Lib Go.Joins Go.Deep
theorem own : ownKnob Tryd.prog.godebug = none := by kernel_rfl
theorem laidOut : laidOutB Tryd.prog = true := by kernel_rfl
theorem cs33 : Tryd.prog.cellsOf 33 = 4 := by kernel_rfl
theorem cs5 : Tryd.prog.cellsOf 5 = 1 := by kernel_rfl
theorem cs31 : Tryd.prog.cellsOf 31 = 1 := by kernel_rfl
theorem u8_bd {n : Int} (h : (Lit.int .u8 n).wf = true) : ∃ k : Nat, n = k ∧ k < 256 := by
  have hb : 0 ≤ n ∧ n ≤ 255 := by simpa [Lit.wf, IntKind.min, IntKind.max, IntKind.signed, IntKind.bits] using h
  exact ⟨n.toNat, by omega, by omega⟩
/-- The cells of a spot, by its type. -/
theorem spot_cells {H : Type} {enc : TypeId × Value → H} {w : World} {base : Nat} {sp : Nat → Bool} {held : Bool} {fuel : Nat} {c0 c1 c2 c3 : Value} {x : DataW H × List MemPlace} (h : DataW.trod enc Tryd.prog w base sp held fuel 33 [c0, c1, c2, c3] = some x) :
    ∃ (fm a ln : Nat) (v : Int), c0 = .int .u8 fm ∧ c1 = .int .u8 a ∧ c2 = .int .u8 ln ∧ c3 = .int .i16 v ∧ fm < 256 ∧ a < 256 ∧ ln < 256 := by
  obtain ⟨y0, y1, y2, y3, n, _, _, h0, h1, h2, h3⟩ := trod_struct4 Tryd.underlying33 h
  simp [cs5, cs31] at h0 h1 h2 h3
  obtain ⟨n0, e0, _, w0⟩ := DataW.trod_int (k := .u8) Tryd.underlying5 h0
  obtain ⟨n1, e1, _, w1⟩ := DataW.trod_int (k := .u8) Tryd.underlying5 h1
  obtain ⟨n2, e2, _, w2⟩ := DataW.trod_int (k := .u8) Tryd.underlying5 h2
  obtain ⟨n3, e3, _, _⟩ := DataW.trod_int (k := .i16) Tryd.underlying31 h3
  simp at e0 e1 e2 e3
  obtain ⟨k0, rfl, g0⟩ := u8_bd w0
  obtain ⟨k1, rfl, g1⟩ := u8_bd w1
  obtain ⟨k2, rfl, g2⟩ := u8_bd w2
  exact ⟨k0, k1, k2, n3, e0, e1, e2, e3, g0, g1, g2⟩
set_option maxRecDepth 100000 in
/-- A spot that is an argument. -/
theorem open_spot {H : Type} {enc : TypeId × Value → H} {w : World} {base b0 : Nat} {sp : Nat → Bool} {held : Bool} {r : Reach} {v : Value} {d : DataW H} {ps : List MemPlace}
    (hval : Value.okWide Tryd.prog w r b0 33 v) (hd : DataW.Trod enc Tryd.prog w base sp held 33 v d ps) :
    ∃ (fm a ln : Nat) (x : Int), v = .agg #[.int .u8 fm, .int .u8 a, .int .u8 ln, .int .i16 x] ∧ fm < 256 ∧ a < 256 ∧ ln < 256 := by
  obtain ⟨cs, rfl, hc⟩ := okWide_struct Tryd.underlying33 hval
  rw [cs33] at hc
  obtain ⟨c0, c1, c2, c3, rfl⟩ := array4 hc
  obtain ⟨fuel, hf⟩ := hd
  obtain ⟨fm, a, ln, x, e0, e1, e2, e3, g⟩ := spot_cells (c0 := c0) (c1 := c1) (c2 := c2) (c3 := c3) (by simpa [Value.cells] using hf)
  exact ⟨fm, a, ln, x, by rw [e0, e1, e2, e3], g⟩
theorem list4 {α : Type} (l : List α) (h : l.length = 4) : ∃ a0 a1 a2 a3, l = [a0, a1, a2, a3] := by
  obtain _ | ⟨a0, l⟩ := l
  · simp at h
  obtain _ | ⟨a1, l⟩ := l
  · simp at h
  obtain _ | ⟨a2, l⟩ := l
  · simp at h
  obtain _ | ⟨a3, l⟩ := l
  · simp at h
  obtain _ | ⟨b, l⟩ := l
  · exact ⟨a0, a1, a2, a3, rfl⟩
  · simp at h
theorem add_off (b off i : Nat) : Addr.add ⟨b, off, none⟩ i = ⟨b, off + i, none⟩ := by unfold Addr.add; by_cases e : i = 0 <;> simp [e]
theorem lt_of_cell' {w : World} {a : Addr} {v : Value} (h : w.cell? a = some v) : a.block < w.heap.size := by
  by_cases e : a.block < w.heap.size
  · exact e
  · rw [World.cell?] at h
    simp [Array.getElem?_eq_none (Nat.le_of_not_lt e)] at h
/-- A list of spots that is an argument: where its cells lie. -/
theorem open_spots {H : Type} {enc : TypeId × Value → H} {w : World} {sp : Nat → Bool} {held : Bool} {fuel : Nat} {ad : Option Addr} {len cap : Nat} {x : DataW H × List MemPlace} (hf : DataW.trod enc Tryd.prog w 0 sp held fuel 22 [.slice ad len cap] = some x) (hw : 0 < w.heap.size) :
    ∃ (b off : Nat) (F A L : Nat → Nat) (V : Nat → Int), (ad = some ⟨b, off, none⟩ ∨ len = 0) ∧ b < w.heap.size ∧ (∀ i, i < len → SpotAt w b (off + i * 4) (F i) (A i) (L i) (V i)) ∧ (∀ i, i < len → F i < 256 ∧ A i < 256 ∧ L i < 256) := by
  rcases open_slice Tryd.underlying22 hf with ⟨hcs, _⟩ | ⟨a, len', cap', m, n, D, Pl, hcs, hb, hl, hm, hmm, _, hx⟩
  · simp at hcs
    obtain ⟨rfl, rfl, rfl⟩ := hcs
    exact ⟨0, 0, fun _ => 0, fun _ => 0, fun _ => 0, fun _ => 0, Or.inr rfl, hw, fun i h => by omega, fun i h => by omega⟩
  · simp at hcs
    obtain ⟨rfl, rfl, rfl⟩ := hcs
    by_cases hz : len = 0
    · exact ⟨0, 0, fun _ => 0, fun _ => 0, fun _ => 0, fun _ => 0, Or.inr hz, hw, fun i h => by omega, fun i h => by omega⟩
    have each : ∀ i, i < len → ∃ q : Nat × Nat × Nat × Int, w.cell? (a.add (i * 4)) = some (.int .u8 q.1) ∧ w.cell? (a.add (i * 4 + 1)) = some (.int .u8 q.2.1) ∧ w.cell? (a.add (i * 4 + 2)) = some (.int .u8 q.2.2.1) ∧ w.cell? (a.add (i * 4 + 3)) = some (.int .i16 q.2.2.2) ∧ q.1 < 256 ∧ q.2.1 < 256 ∧ q.2.2.1 < 256 := by
      intro i hi
      obtain ⟨cs', h1, h2⟩ := hx i (by rw [hmm]; split <;> omega)
      rw [cs33] at h1
      obtain ⟨_, hlen, hcell⟩ := World.cells?_some h1
      obtain ⟨c0, c1, c2, c3, rfl⟩ := list4 cs' hlen
      obtain ⟨fm, aa, ln, v, rfl, rfl, rfl, rfl, g⟩ := spot_cells h2
      have e0 := hcell 0 (by omega)
      have e1 := hcell 1 (by omega)
      have e2 := hcell 2 (by omega)
      have e3 := hcell 3 (by omega)
      rw [add_add] at e0 e1 e2 e3
      exact ⟨(fm, aa, ln, v), by simpa using e0, by simpa using e1, by simpa using e2, by simpa using e3, g⟩
    obtain ⟨q, hq⟩ := choose_lt each
    obtain ⟨b, off, spot⟩ := a
    have hspot : spot = none := by
      have := (hq 0 (by omega)).1
      simpa [Addr.add] using World.cell?_spot this
    subst hspot
    refine ⟨b, off, fun i => (q i).1, fun i => (q i).2.1, fun i => (q i).2.2.1, fun i => (q i).2.2.2, Or.inl rfl, ?_, fun i hi => ?_, fun i hi => (hq i hi).2.2.2.2⟩
    · exact lt_of_cell' (hq 0 (by omega)).1
    · obtain ⟨h0, h1, h2, h3, _⟩ := hq i hi
      rw [add_off] at h0 h1 h2 h3
      exact ⟨h0, by rw [Nat.add_assoc]; exact h1, by rw [Nat.add_assoc]; exact h2, by rw [Nat.add_assoc]; exact h3⟩
theorem tm_any (ad : Option Addr) (b off len cap : Nat) (F A L : Nat → Nat) (V : Nat → Int) (fx ax lx : Nat) (vx : Int) (fy ay ly : Nat) (vy : Int) (w : World) (hT : Tabs w)
    (had : ad = some ⟨b, off, none⟩ ∨ len = 0) (hb : b < w.heap.size) (hS : ∀ i, i < len → SpotAt w b (off + i * 4) (F i) (A i) (L i) (V i)) (hF : ∀ i, i < len → F i < 256 ∧ A i < 256 ∧ L i < 256)
    (hx : fx < 256 ∧ ax < 256 ∧ lx < 256) (hy : fy < 256 ∧ ay < 256 ∧ ly < 256) :
    Calls Tryd.prog 4 #[.slice ad len cap, .agg #[.int .u8 fx, .int .u8 ax, .int .u8 lx, .int .i16 vx], .agg #[.int .u8 fy, .int .u8 ay, .int .u8 ly, .int .i16 vy]] w fun e w' => e = .returned (.bool true) ∧ Below w.heap.size w w' := by
  by_cases h : len ≤ 60
  · exact tm_less ad b off len cap F A L V fx ax lx vx fy ay ly vy w hT h had hb hS hF hx hy
  · exact tm_more ad b off len cap F A L V fx ax lx vx fy ay ly vy w hT (by omega) had hb hS hF hx hy
end Go.Proofs.YtjjhimdjhfdmiaaDoor
