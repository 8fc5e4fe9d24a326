/-
  The two variables that hold ParseUint's errors; numbers and texts that come in.
-/
import Derived.Test.YteldgfmcfkmpdaaDoorJC
import Derived.Test.YteldgfmcfkmpdaaDoorP3
import Derived.Shelf.Strings.Shaped
namespace Go.Proofs.YteldgfmcfkmpdaaDoor
open Go.ChangeShapes Go.WideShapes Go.ChangeAt Go.RowKit Go.Joins Go.Deep Go.WideMaps Go.WideElems
def rngName : String := ((Rows.commTextsRow.laid.map (·.1))[3]?).getD default
def synName : String := ((Rows.commTextsRow.laid.map (·.1))[4]?).getD default
theorem gRng : Tryd.prog.globalNamed rngName = some 3 := by kernel_rfl
theorem gSyn : Tryd.prog.globalNamed synName = some 2 := by kernel_rfl
theorem tRng : (Tryd.prog.globals[3]?).map (·.type) = some 79 := by kernel_rfl
theorem tSyn : (Tryd.prog.globals[2]?).map (·.type) = some 79 := by kernel_rfl
variable {w : World} {sp : Nat → Bool} {held : Bool} {fuel : Nat}
theorem iface_gen {P : Program} {t : TypeId} {ms : Array (String × TypeId)} (hu : P.underlying t = some (.interface ms)) {l : List Value} {nm : String} {d : DataW Unit} {p : List MemPlace} (h : DataW.trod (fun _ => ()) P w 0 sp held fuel t l = some (.iface nm d, p)) : ∃ u v, l = [.iface u v] := by
  cases fuel with
  | zero => simp [DataW.trod] at h
  | succ n =>
    unfold DataW.trod at h
    rw [hu] at h
    split at h <;> simp_all
theorem iface_of {cs : Array Value} {nm : String} {d : DataW Unit} {p : List MemPlace} (h : DataW.trod (fun _ => ()) Tryd.prog w 0 sp held fuel 79 cs.toList = some (.iface nm d, p)) : ∃ u v, cs = #[.iface u v] := by
  obtain ⟨u, v, e⟩ := iface_gen Tryd.underlying79 h
  exact ⟨u, v, by cases cs; simp_all⟩
theorem errs_of {l : List (String × DataW Unit)} (hl : (l.filter fun x => x.1 == rngName || x.1 == synName) = [(rngName, Rows.laid_strconv_ErrRange), (synName, Rows.laid_strconv_ErrSyntax)])
    (hL : laidMetH Tryd.prog l w) : ErrsAt w := by
  have hF := hL.filter (fun x => x.1 == rngName || x.1 == synName)
  rw [hl, MakeChecks.laidMetH_plain _ _ _ (by kernel_rfl)] at hF
  obtain ⟨ps, ⟨g0, t0, cs0, f0, p0, q0, hg0, ht0, hv0, hd0, ⟨g1, t1, cs1, f1, p1, q1, hg1, ht1, hv1, hd1, _, _⟩, _⟩, _, _⟩ := hF
  obtain rfl := Option.some.inj (gRng.symm.trans hg0)
  obtain rfl := Option.some.inj (gSyn.symm.trans hg1)
  obtain rfl := Option.some.inj (tRng.symm.trans ht0)
  obtain rfl := Option.some.inj (tSyn.symm.trans ht1)
  obtain ⟨u0, x0, rfl⟩ := iface_of hd0
  obtain ⟨u1, x1, rfl⟩ := iface_of hd1
  obtain ⟨t2, fr2, h2⟩ := heap_of_var gSyn hv1
  obtain ⟨t3, fr3, h3⟩ := heap_of_var gRng hv0
  exact ⟨⟨u1, x1, t2, fr2, h2⟩, ⟨u0, x0, t3, fr3, h3⟩⟩
theorem max_of (h : w.ShapedOpen Tryd.prog) : MaxAt w := by
  obtain ⟨m, hm⟩ := Go.Proofs.cell_of_shapedOpen_int (zero := #[.int .i64 0]) (t := 3) h (of_decide_eq_true (by kernel_rfl)) (by kernel_rfl) rfl (by kernel_rfl) (by kernel_rfl) Tryd.underlying3
  exact ⟨m, hm⟩
theorem bulk_in {H : Type} {d : DataW H} : ∀ {l : List (DataW H)}, d ∈ l → Rows.uptoBulk d ≤ Rows.uptoBulkAll l
  | c :: l, h => by
    rw [Rows.uptoBulkAll]
    rcases List.mem_cons.mp h with h | h
    · rw [h]; omega
    · have := bulk_in h; omega
set_option maxRecDepth 100000 in
theorem laid_metT (os : Os) (args : Array Value) : laidMet Tryd.prog Rows.commTextsUptoRow.laid ((World.doorLaid Tryd.prog 100 os).forCall (fun _ _ => 0) ⟨#[], args, []⟩).memory :=
  laidMet_of_run' 8 (by kernel_rfl) (by kernel_rfl)
end Go.Proofs.YteldgfmcfkmpdaaDoor
