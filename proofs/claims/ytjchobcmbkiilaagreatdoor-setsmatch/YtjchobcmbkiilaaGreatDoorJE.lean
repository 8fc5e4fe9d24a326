/-
  The powers of ten and the two errors, out of the row's list.
-/
import Derived.Test.YtjchobcmbkiilaaGreatDoorJL
import Derived.Test.YtjchobcmbkiilaaGreatDoorW3
namespace Go.Proofs.YtjchobcmbkiilaaGreatDoor
open Go.ChangeShapes Go.WideShapes Go.ChangeAt Go.RowKit Go.Joins Go.Deep Go.WideMaps Go.WideElems
variable {w W : World} {sp : Nat → Bool} {held : Bool} {fuel : Nat}
theorem cs61 : Tryz.prog.cellsOf 27 = 1 := by kernel_rfl
theorem cs120 : Tryz.prog.cellsOf 166 = 20 := by kernel_rfl
theorem pow_data : (Rows.laid_internal_strconv_uint64pow10 : DataW Unit) = Lib.tabData .u64 Lib.pow10Tab := by kernel_rfl
theorem pow_of {cs : Array Value} {p : List MemPlace} (h : DataW.trod (fun _ => ()) Tryz.prog W 0 sp held fuel 166 cs.toList = some (Rows.laid_internal_strconv_uint64pow10, p)) : cs = powCells := by
  rw [pow_data] at h
  have := Lib.cells_of_tab Tryz.underlying166 Tryz.underlying27 cs61 cs120 h
  have e : cs = cs.toList.toArray := by simp
  rw [e, this]; rfl
def powName : String := ((Rows.setsStarsRow.laid.map (·.1))[2]?).getD default
def rngName : String := ((Rows.setsStarsRow.laid.map (·.1))[4]?).getD default
def synName : String := ((Rows.setsStarsRow.laid.map (·.1))[5]?).getD default
theorem gPow : Tryz.prog.globalNamed powName = some 3 := by kernel_rfl
theorem gRng : Tryz.prog.globalNamed rngName = some 5 := by kernel_rfl
theorem gSyn : Tryz.prog.globalNamed synName = some 4 := by kernel_rfl
theorem tPow : (Tryz.prog.globals[3]?).map (·.type) = some 166 := by kernel_rfl
theorem tRng : (Tryz.prog.globals[5]?).map (·.type) = some 121 := by kernel_rfl
theorem tSyn : (Tryz.prog.globals[4]?).map (·.type) = some 121 := by kernel_rfl
theorem iface_gen {P : Program} {t : TypeId} {ms : Array (String × TypeId)} (hu : P.underlying t = some (.interface ms)) {l : List Value} {nm : String} {d : DataW Unit} {p : List MemPlace} (h : DataW.trod (fun _ => ()) P w 0 sp held fuel t l = some (.iface nm d, p)) : ∃ u v, l = [.iface u v] := by
  cases fuel with
  | zero => simp [DataW.trod] at h
  | succ n =>
    unfold DataW.trod at h
    rw [hu] at h
    split at h <;> simp_all
theorem iface_of {cs : Array Value} {nm : String} {d : DataW Unit} {p : List MemPlace} (h : DataW.trod (fun _ => ()) Tryz.prog w 0 sp held fuel 121 cs.toList = some (.iface nm d, p)) : ∃ u v, cs = #[.iface u v] := by
  obtain ⟨u, v, e⟩ := iface_gen Tryz.underlying121 h
  exact ⟨u, v, by cases cs; simp_all⟩
theorem three_of {l : List (String × DataW Unit)} (hl : (l.filter fun x => x.1 == powName || x.1 == rngName || x.1 == synName) = [(powName, Rows.laid_internal_strconv_uint64pow10), (rngName, Rows.laid_strconv_ErrRange), (synName, Rows.laid_strconv_ErrSyntax)])
    (hL : laidMetH Tryz.prog l w) : PowAt w ∧ ErrsAt w := by
  have hF := hL.filter (fun x => x.1 == powName || x.1 == rngName || x.1 == synName)
  rw [hl, MakeChecks.laidMetH_plain _ _ _ (by kernel_rfl)] at hF
  obtain ⟨ps, ⟨gx, tx, csx, fx, px, qx, hgx, htx, hvx, hdx, ⟨g0, t0, cs0, f0, p0, q0, hg0, ht0, hv0, hd0, ⟨g1, t1, cs1, f1, p1, q1, hg1, ht1, hv1, hd1, _, _⟩, _⟩, _⟩, _, _⟩ := hF
  obtain rfl := Option.some.inj (gPow.symm.trans hgx)
  obtain rfl := Option.some.inj (tPow.symm.trans htx)
  obtain rfl := Option.some.inj (gRng.symm.trans hg0)
  obtain rfl := Option.some.inj (gSyn.symm.trans hg1)
  obtain rfl := Option.some.inj (tRng.symm.trans ht0)
  obtain rfl := Option.some.inj (tSyn.symm.trans ht1)
  obtain rfl := pow_of hdx
  obtain ⟨u0, x0, rfl⟩ := iface_of hd0
  obtain ⟨u1, x1, rfl⟩ := iface_of hd1
  obtain ⟨t2, fr2, h2⟩ := Pr.heap_of_var gSyn hv1
  obtain ⟨t3, fr3, h3⟩ := Pr.heap_of_var gRng hv0
  exact ⟨Pr.heap_of_var gPow hvx, ⟨u1, x1, t2, fr2, h2⟩, ⟨u0, x0, t3, fr3, h3⟩⟩
/-- All that the row's list and the world's shape give. -/
theorem env_of {l : List (String × DataW Unit)} (h1 : (l.filter fun x => x.1 == Pr.famName || x.1 == Pr.styName) = [(Pr.famName, Rows.laid_herald_prim_families), (Pr.styName, Rows.laid_herald_prim_styles)])
    (h2 : (l.filter fun x => x.1 == powName || x.1 == rngName || x.1 == synName) = [(powName, Rows.laid_internal_strconv_uint64pow10), (rngName, Rows.laid_strconv_ErrRange), (synName, Rows.laid_strconv_ErrSyntax)])
    (hL : laidMetH Tryz.prog l w) (hsh : w.ShapedOpen Tryz.prog) : Env w :=
  ⟨Pr.tabs_of h1 hL hsh, (three_of h2 hL).1, (three_of h2 hL).2⟩
end Go.Proofs.YtjchobcmbkiilaaGreatDoor
