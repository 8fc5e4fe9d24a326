/-
  What the row's list gives of the table of trailing noughts.
-/
import Derived.Test.YtfhbgpepkplbaaaGreatDoorL1
import Derived.Test.YtfhbgpepkplbaaaGreatDoorKB
namespace Go.Proofs.YtfhbgpepkplbaaaGreatDoor
open Go.ChangeShapes Go.WideShapes Go.ChangeAt Go.RowKit Go.Joins Go.Deep Go.WideMaps Go.WideElems
variable {W : World}
def debName : String := ((Rows.nlriKnownRow.laid.map (·.1))[1]?).getD default
theorem gDeb : Tryz.prog.globalNamed debName = some 7 := by kernel_rfl
theorem tDeb : (Tryz.prog.globals[7]?).map (·.type) = some 183 := by kernel_rfl
theorem cells183 : Tryz.prog.cellsOf 183 = 64 := by kernel_rfl
theorem cells5' : Tryz.prog.cellsOf 5 = 1 := by kernel_rfl
theorem deb_of {l : List (String × DataW Unit)} (hl : (l.filter fun x => x.1 == debName) = [(debName, Rows.laid_math_bits_deBruijn64tab)]) (hL : laidMetH Tryz.prog l W) : Deb W := by
  have hF := hL.filter (fun x => x.1 == debName)
  rw [hl, MakeChecks.laidMetH_plain _ _ _ (by kernel_rfl)] at hF
  obtain ⟨ps, ⟨g0, t0, cs0, f0, p0, q0, hg0, ht0, hv0, hd0, _, _⟩, _, _⟩ := hF
  obtain rfl := Option.some.inj (gDeb.symm.trans hg0)
  obtain rfl := Option.some.inj (tDeb.symm.trans ht0)
  obtain ⟨xs, m, _, hx, hlen, hn, hel⟩ := DataW.trod_array Tryz.underlying183 hd0
  obtain ⟨t, fr, hh⟩ := heap_of_var gDeb hv0
  rw [cells183] at hlen
  rw [cells5'] at hel
  have h15 := hel 15 (by decide)
  rw [List.getElem?_eq_getElem (by omega)] at h15
  obtain ⟨n, e, _, wf⟩ := DataW.trod_int (k := .u8) Tryz.underlying5 h15
  have hb : 0 ≤ n ∧ n ≤ 255 := by simpa [Lit.wf, IntKind.min, IntKind.max, IntKind.signed, IntKind.bits] using wf
  refine ⟨n.toNat, by omega, ?_⟩
  rw [show ((n.toNat : Nat) : Int) = n by omega, cell_of_row W 7 15 cs0 t fr hh]
  have h2 := congrArg (fun l : List Value => l[0]?) e
  simp only [Nat.mul_one, List.getElem?_cons_zero] at h2
  rw [List.getElem?_take_of_lt (by decide), List.getElem?_drop] at h2
  simpa using h2
end Go.Proofs.YtfhbgpepkplbaaaGreatDoor
