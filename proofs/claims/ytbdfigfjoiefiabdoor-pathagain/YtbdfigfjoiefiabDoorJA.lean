/-
  What else comes in: a text, the tables of a row, the two variables that hold the errors.
-/
import Derived.Test.YtbdfigfjoiefiabDoorJC
import Derived.Test.YtbdfigfjoiefiabDoorX1
import Derived.SizedLaws
namespace Go.Proofs.YtbdfigfjoiefiabDoor
open Go.ChangeShapes Go.WideShapes Go.ChangeAt Go.RowKit Go.Lib Go.Joins Go.Deep
set_option maxRecDepth 100000 in
theorem txt9 {H : Type} {enc : TypeId × Value → H} {w : World} {base b0 : Nat} {sp : Nat → Bool} {held : Bool} {r : Reach} {v : Value} {d : DataW H} {ps : List MemPlace}
    (hval : Value.okWide Tryd.prog w r b0 9 v) (hd : DataW.Trod enc Tryd.prog w base sp held 9 v d ps) : ∃ l : List UInt8, v = .string ⟨l.toArray⟩ ∧ d = .lit (.string l) := by
  obtain ⟨s, rfl⟩ := okWide_string Tryd.underlying9 hval
  obtain ⟨f, hf⟩ := hd
  obtain ⟨z, e, x, _⟩ := DataW.trod_string Tryd.underlying9 (by simpa [Value.cells] using hf)
  simp at e
  subst e
  simp only [Prod.mk.injEq] at x
  exact ⟨s.data.toList, by cases s; simp, x.1⟩
theorem heavy {H : Type} {P : Program} {ts : List TypeId} {ds : List (DataW H)} (h : (DataW.weightsEach P ts ds).all (· ≤ reachBytes) = true) (j : Nat) (t : TypeId) (l : List UInt8) (ht : ts[j]? = some t) (hd : ds[j]? = some (.lit (.string l))) : l.length < 140737488351233 := by
  have := of_decide_eq_true (List.all_eq_true.1 h _ (DataW.weights_mem_each ht hd l.length (by simp [DataW.weights])))
  unfold reachBytes at this
  omega
def rngName : String := ((Rows.pathAgainRow.laid.map (·.1))[3]?).getD default
def synName : String := ((Rows.pathAgainRow.laid.map (·.1))[4]?).getD default
theorem gRng : Tryd.prog.globalNamed rngName = some 6 := by kernel_rfl
theorem gSyn : Tryd.prog.globalNamed synName = some 5 := by kernel_rfl
theorem tRng : (Tryd.prog.globals[6]?).map (·.type) = some 59 := by kernel_rfl
theorem tSyn : (Tryd.prog.globals[5]?).map (·.type) = some 59 := by kernel_rfl
section
variable {w : World} {sp : Nat → Bool} {held : Bool} {fuel : Nat}
theorem iface_gen {P : Program} {t : TypeId} {ms : Array (String × TypeId)} (hu : P.underlying t = some (.interface ms)) {l : List Value} {nm : String} {d : DataW Unit} {p : List MemPlace} (h : DataW.trod (fun _ => ()) P w 0 sp held fuel t l = some (.iface nm d, p)) : ∃ u v, l = [.iface u v] := by
  cases fuel with
  | zero => simp [DataW.trod] at h
  | succ n =>
    unfold DataW.trod at h
    rw [hu] at h
    split at h <;> simp_all
theorem iface_of {cs : Array Value} {nm : String} {d : DataW Unit} {p : List MemPlace} (h : DataW.trod (fun _ => ()) Tryd.prog w 0 sp held fuel 59 cs.toList = some (.iface nm d, p)) : ∃ u v, cs = #[.iface u v] := by
  obtain ⟨u, v, e⟩ := iface_gen Tryd.underlying59 h
  exact ⟨u, v, by cases cs; simp_all⟩
theorem errs_of {l : List (String × DataW Unit)} (hl : (l.filter fun x => x.1 == rngName || x.1 == synName) = [(rngName, Rows.laid_strconv_ErrRange), (synName, Rows.laid_strconv_ErrSyntax)])
    (hL : laidMetH Tryd.prog l w) : ErrsAt w := by
  have hF := hL.filter (fun x => x.1 == rngName || x.1 == synName)
  rw [hl, MakeChecks.laidMetH_plain _ _ _ (by kernel_rfl)] at hF
  obtain ⟨ps, ⟨g0, t0, cs0, f0, p0, q0, hg0, ht0, hv0, hd0, ⟨g1, t1, cs1, f1, p1, q1, hg1, ht1, hv1, hd1, _, _⟩, _⟩, _, _⟩ := hF
  obtain rfl := Option.some.inj (gRng.symm.trans hg0)
  obtain rfl := Option.some.inj (gSyn.symm.trans hg1)
  obtain rfl := Option.some.inj (tRng.symm.trans ht0)
  obtain rfl := Option.some.inj (tSyn.symm.trans ht1)
  obtain ⟨u0, x0, rfl⟩ := iface_of hd0
  obtain ⟨u1, x1, rfl⟩ := iface_of hd1
  obtain ⟨t2, fr2, h2⟩ := heap_of_var gSyn hv1
  obtain ⟨t3, fr3, h3⟩ := heap_of_var gRng hv0
  exact ⟨⟨u1, x1, t2, fr2, h2⟩, ⟨u0, x0, t3, fr3, h3⟩⟩
end
set_option maxRecDepth 100000 in
theorem laid_metA (os : Os) (args : Array Value) : laidMet Tryd.prog Rows.pathAgainRow.laid ((World.doorLaid Tryd.prog 100 os).forCall (fun _ _ => 0) ⟨#[], args, []⟩).memory :=
  laidMet_of_run' 8 (by kernel_rfl) (by kernel_rfl)
end Go.Proofs.YtbdfigfjoiefiabDoor
