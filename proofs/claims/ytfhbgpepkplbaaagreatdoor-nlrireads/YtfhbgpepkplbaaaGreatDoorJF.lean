/-
  Arguments that come in: a form.
-/
import Derived.Test.YtfhbgpepkplbaaaGreatDoorJC
namespace Go.Proofs.YtfhbgpepkplbaaaGreatDoor
open Go.ChangeShapes Go.WideShapes Go.ChangeAt Go.RowKit Go.Joins Go.Deep Go.WideMaps Go.WideElems
theorem st37 : Tryz.prog.wantsStandIn 37 = false := by kernel_rfl
theorem zf3 : Tryz.prog.cellsOf 3 = 1 := by kernel_rfl
theorem zf4 : Tryz.prog.cellsOf 4 = 1 := by kernel_rfl
theorem zf37 : Tryz.prog.cellsOf 37 = 2 := by kernel_rfl
theorem array2f {α : Type} {a : Array α} (h : a.size = 2) : ∃ c0 c1, a = #[c0, c1] := by
  obtain ⟨l⟩ := a
  match l, h with
  | [c0, c1], _ => exact ⟨c0, c1, rfl⟩
variable {H : Type} {enc : TypeId × Value → H} {w : World} {sp : Nat → Bool} {held : Bool} {fuel : Nat}
set_option maxRecDepth 100000 in
theorem open_form {b0 : Nat} {r : Reach} {v : Value} {d : DataW H} {ps : List MemPlace} (hval : Value.okWide Tryz.prog w r b0 37 v) (hd : DataW.Trod enc Tryz.prog w 0 sp held 37 v d ps) :
    ∃ (k : Int) (s : Bool), v = .agg #[.int .i64 k, .bool s] := by
  obtain ⟨cs, rfl, hc⟩ := okWide_struct Tryz.underlying37 hval
  rw [zf37] at hc
  obtain ⟨c0, c1, rfl⟩ := array2f hc
  obtain ⟨fuel, hf⟩ := hd
  obtain ⟨y0, y1, n, _, _, h0, h1⟩ := trod_struct2 Tryz.underlying37 hf
  simp only [zf3, zf4, Value.cells, List.drop_zero, List.drop_succ_cons, List.take_succ_cons, List.take_zero] at h0 h1
  obtain ⟨f, e0, _, _⟩ := DataW.trod_int (k := .i64) Tryz.underlying3 h0
  obtain ⟨s, e1, _⟩ := DataW.trod_bool Tryz.underlying4 h1
  simp at e0 e1
  exact ⟨f, s, by rw [e0, e1]⟩
end Go.Proofs.YtfhbgpepkplbaaaGreatDoor
