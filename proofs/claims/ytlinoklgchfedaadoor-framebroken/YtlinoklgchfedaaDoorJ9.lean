/-
  Arguments that come in: an array of two small numbers.
-/
import Derived.Test.YtlinoklgchfedaaDoorJ8
import Derived.Test.YtlinoklgchfedaaDoorG2
namespace Go.Proofs.YtlinoklgchfedaaDoor
open Go.ChangeShapes Go.WideShapes Go.ChangeAt Go.RowKit Go.Joins Go.Deep Go.WideMaps Go.WideElems
variable {H : Type} {enc : TypeId × Value → H} {w : World} {sp : Nat → Bool} {held : Bool} {fuel : Nat}
theorem okWide_two {r : Reach} {b0 : Nat} {v : Value} (h : Value.okWide Tryd.prog w r b0 47 v) : ∃ cs, v = .agg cs ∧ cs.size = 2 := by
  simp only [Value.okWide, Tryd.underlying47] at h
  obtain ⟨cs, h1, h2, _⟩ := h
  rw [zs47] at h2
  exact ⟨cs, h1, h2⟩
set_option maxRecDepth 100000 in
theorem open_two {b0 : Nat} {r : Reach} {v : Value} {d : DataW H} {ps : List MemPlace} (hval : Value.okWide Tryd.prog w r b0 47 v) (hd : DataW.Trod enc Tryd.prog w 0 sp held 47 v d ps) :
    ∃ (x0 x1 : Nat), v = .agg #[.int .u8 (x0 : Int), .int .u8 (x1 : Int)] ∧ x0 < 256 ∧ x1 < 256 := by
  obtain ⟨cs, rfl, hc⟩ := okWide_two hval
  obtain ⟨c0, c1, rfl⟩ := array2 hc
  obtain ⟨fuel, hf⟩ := hd
  obtain ⟨xs, m, _, hx, hlen, hn, hel⟩ := DataW.trod_array Tryd.underlying47 hf
  rw [zs5] at hel
  have h0 := hel 0 (by decide)
  have h1 := hel 1 (by decide)
  obtain ⟨y0, hy0⟩ : ∃ y0, xs[0]? = some y0 := ⟨_, List.getElem?_eq_getElem (by omega)⟩
  obtain ⟨y1, hy1⟩ : ∃ y1, xs[1]? = some y1 := ⟨_, List.getElem?_eq_getElem (by omega)⟩
  rw [hy0] at h0
  rw [hy1] at h1
  obtain ⟨a, e0, _, q0⟩ := DataW.trod_int (k := .u8) Tryd.underlying5 h0
  obtain ⟨b, e1, _, q1⟩ := DataW.trod_int (k := .u8) Tryd.underlying5 h1
  simp [Value.cells] at e0 e1
  obtain ⟨a', rfl, ha⟩ := u8_nat (u8_bd q0)
  obtain ⟨b', rfl, hb⟩ := u8_nat (u8_bd q1)
  exact ⟨a', b', by rw [e0, e1], ha, hb⟩
end Go.Proofs.YtlinoklgchfedaaDoor
