/-
  PathReads answers true whatever its arguments of bulk at most 1048576 are, and they read behind the call as they read before, where the listed package variables hold what the program's text lays; the card ties that list to the text. The one other condition is that bound.
-/
import Derived.Test.YtbdfigfjoiefiaaDoorJC
import Derived.Test.YtbdfigfjoiefiaaDoorX1
import Derived.SizedLaws
import Derived.Test.YtbdfigfjoiefiaaDoorVC
import Derived.Shelf.Strings.Shaped
namespace Go.Proofs.YtbdfigfjoiefiaaDoor
open Go.ChangeShapes Go.WideShapes Go.ChangeAt Go.RowKit Go.Lib Go.Joins Go.Deep
set_option maxRecDepth 100000 in
theorem txt9 {H : Type} {enc : TypeId × Value → H} {w : World} {base b0 : Nat} {sp : Nat → Bool} {held : Bool} {r : Reach} {v : Value} {d : DataW H} {ps : List MemPlace}
    (hval : Value.okWide Tryd.prog w r b0 9 v) (hd : DataW.Trod enc Tryd.prog w base sp held 9 v d ps) : ∃ l : List UInt8, v = .string ⟨l.toArray⟩ ∧ d = .lit (.string l) := by
  obtain ⟨s, rfl⟩ := okWide_string Tryd.underlying9 hval
  obtain ⟨f, hf⟩ := hd
  obtain ⟨z, e, x, _⟩ := DataW.trod_string Tryd.underlying9 (by simpa [Value.cells] using hf)
  simp at e
  subst e
  simp only [Prod.mk.injEq] at x
  exact ⟨s.data.toList, by cases s; simp, x.1⟩
theorem heavy {H : Type} {P : Program} {ts : List TypeId} {ds : List (DataW H)} (h : (DataW.weightsEach P ts ds).all (· ≤ reachBytes) = true) (j : Nat) (t : TypeId) (l : List UInt8) (ht : ts[j]? = some t) (hd : ds[j]? = some (.lit (.string l))) : l.length < 140737488351233 := by
  have := of_decide_eq_true (List.all_eq_true.1 h _ (DataW.weights_mem_each ht hd l.length (by simp [DataW.weights])))
  unfold reachBytes at this
  omega
def rngName : String := ((Rows.pathReadsUptoRow.laid.map (·.1))[3]?).getD default
def synName : String := ((Rows.pathReadsUptoRow.laid.map (·.1))[4]?).getD default
theorem gRng : Tryd.prog.globalNamed rngName = some 6 := by kernel_rfl
theorem gSyn : Tryd.prog.globalNamed synName = some 5 := by kernel_rfl
theorem tRng : (Tryd.prog.globals[6]?).map (·.type) = some 64 := by kernel_rfl
theorem tSyn : (Tryd.prog.globals[5]?).map (·.type) = some 64 := by kernel_rfl
section
variable {w : World} {sp : Nat → Bool} {held : Bool} {fuel : Nat}
theorem iface_gen {P : Program} {t : TypeId} {ms : Array (String × TypeId)} (hu : P.underlying t = some (.interface ms)) {l : List Value} {nm : String} {d : DataW Unit} {p : List MemPlace} (h : DataW.trod (fun _ => ()) P w 0 sp held fuel t l = some (.iface nm d, p)) : ∃ u v, l = [.iface u v] := by
  cases fuel with
  | zero => simp [DataW.trod] at h
  | succ n =>
    unfold DataW.trod at h
    rw [hu] at h
    split at h <;> simp_all
theorem iface_of {cs : Array Value} {nm : String} {d : DataW Unit} {p : List MemPlace} (h : DataW.trod (fun _ => ()) Tryd.prog w 0 sp held fuel 64 cs.toList = some (.iface nm d, p)) : ∃ u v, cs = #[.iface u v] := by
  obtain ⟨u, v, e⟩ := iface_gen Tryd.underlying64 h
  exact ⟨u, v, by cases cs; simp_all⟩
theorem errs_of {l : List (String × DataW Unit)} (hl : (l.filter fun x => x.1 == rngName || x.1 == synName) = [(rngName, Rows.laid_strconv_ErrRange), (synName, Rows.laid_strconv_ErrSyntax)])
    (hL : laidMetH Tryd.prog l w) : ErrsAt w := by
  have hF := hL.filter (fun x => x.1 == rngName || x.1 == synName)
  rw [hl, MakeChecks.laidMetH_plain _ _ _ (by kernel_rfl)] at hF
  obtain ⟨ps, ⟨g0, t0, cs0, f0, p0, q0, hg0, ht0, hv0, hd0, ⟨g1, t1, cs1, f1, p1, q1, hg1, ht1, hv1, hd1, _, _⟩, _⟩, _, _⟩ := hF
  obtain rfl := Option.some.inj (gRng.symm.trans hg0)
  obtain rfl := Option.some.inj (gSyn.symm.trans hg1)
  obtain rfl := Option.some.inj (tRng.symm.trans ht0)
  obtain rfl := Option.some.inj (tSyn.symm.trans ht1)
  obtain ⟨u0, x0, rfl⟩ := iface_of hd0
  obtain ⟨u1, x1, rfl⟩ := iface_of hd1
  obtain ⟨t2, fr2, h2⟩ := heap_of_var gSyn hv1
  obtain ⟨t3, fr3, h3⟩ := heap_of_var gRng hv0
  exact ⟨⟨u1, x1, t2, fr2, h2⟩, ⟨u0, x0, t3, fr3, h3⟩⟩
end
set_option maxRecDepth 100000 in
theorem laid_metA (os : Os) (args : Array Value) : laidMet Tryd.prog Rows.pathReadsUptoRow.laid ((World.doorLaid Tryd.prog 100 os).forCall (fun _ _ => 0) ⟨#[], args, []⟩).memory :=
  laidMet_of_run' 8 (by kernel_rfl) (by kernel_rfl)
end Go.Proofs.YtbdfigfjoiefiaaDoor

namespace Go.Proofs.YtbdfigfjoiefiaaDoor
open Go.ChangeShapes Go.WideShapes Go.ChangeAt Go.RowKit Go.Lib Go.Joins Go.Deep
theorem max_of {w : World} (h : w.ShapedOpen Tryd.prog) : MaxAt w := by
  obtain ⟨m, hm⟩ := Go.Proofs.cell_of_shapedOpen_int (zero := #[.int .i64 0]) (t := 3) h (of_decide_eq_true (by kernel_rfl)) (by kernel_rfl) rfl (by kernel_rfl) (by kernel_rfl) Tryd.underlying3
  exact ⟨m, hm⟩
set_option maxRecDepth 100000 in
theorem pa_contract (H : Type) (enc : TypeId × Value → H) (W : World) (base : Nat) (args : Array Value) (ds gs : List (DataW H)) (before : List MemPlace)
    (hval : ∀ (j : Nat) t v, Tryd.f6.params[j]? = some t → args[j]? = some v → Value.okWide Tryd.prog W .any base t v)
    (hW : DataW.Whole enc Tryd.prog Tryd.f6.params.toList Rows.pathReadsSpec.vars false W args.toList ds gs before)
    (hz : (DataW.weightsEach Tryd.prog (Tryd.f6.params.toList ++ (Rows.OpenSpec.upto Rows.pathReadsSpec).bare.plain.varTypes Tryd.prog) (ds ++ gs)).all (· ≤ reachBytes) = true) (hk : Rows.uptoSmall H (ds ++ gs) = true) (hT : Tabs W ∧ ErrsAt W) (hM : MaxAt W) :
    Calls Tryd.prog 6 args W fun e W' => ∃ v, e = .returned v ∧ Rows.pathReadsSpec.post enc Tryd.prog Tryd.f6 false true false false W args v W' := by
  have hW' := hW
  obtain ⟨p, q, hA0, hV, rfl, hfz, hnd⟩ := hW
  have hA : DataW.TrodAll enc Tryd.prog W 0 (fun _ => true) true Tryd.f6.params.toList args.toList ds p := hA0
  rw [Tryd.params6] at hA hval hz
  obtain ⟨v0, vs0, d0, ds0, p0, q0, hargs, rfl, rfl, h0, r0⟩ := trodAll_cons hA
  obtain ⟨v1, vs1, d1, ds1, p1, q1, rfl, rfl, rfl, h1, r1⟩ := trodAll_cons r0
  obtain ⟨rfl, rfl, rfl⟩ := trodAll_nil r1
  obtain rfl : args = #[v0, v1] := by cases args; simp_all
  obtain ⟨rfl, rfl⟩ := trodVars_none hV
  have k0 := h0
  have lt0 : ∀ x ∈ p0, x.block < W.heap.size := by obtain ⟨m, hm⟩ := k0; exact DataW.trod_lt m _ _ _ hm
  have k1 := h1
  have lt1 : ∀ x ∈ p1, x.block < W.heap.size := by obtain ⟨m, hm⟩ := k1; exact DataW.trod_lt m _ _ _ hm
  obtain ⟨l0, rfl, s0⟩ := txt9 (hval 0 9 v0 rfl rfl) h0
  subst s0
  have z0 : l0.length < 4398046511104 := by
    have h1 := of_decide_eq_true hk
    simp only [List.append_nil, Rows.uptoBulkAll, Rows.uptoBulk] at h1
    omega
  obtain ⟨b1, rfl⟩ := okWide_bool Tryd.underlying4 (hval 1 4 v1 rfl rfl)
  clear hA0
  refine (reads_walk l0 b1 W z0 hT.1 hM hT.2).mono fun e W' ⟨he, bel⟩ => ?_
  subst he
  exact ⟨_, rfl, _, _, _, [], _, [], hW', trodAll_mk1 (shut_bool Tryd.underlying4 _), (trodAll_cons_mk (Below.trod laidOut (by kernel_rfl) (of_decide_eq_true (by kernel_rfl)) k0 bel lt0) (trodAll_cons_mk (Below.trod laidOut (by kernel_rfl) (of_decide_eq_true (by kernel_rfl)) k1 bel lt1) trodAll_mk0)), rfl, bel.frame _, fun h => by cases h⟩
/-- The arguments of the witness. -/
def pa_wit : Array Value := #[.string ⟨#[]⟩, .bool false]
set_option maxRecDepth 100000 in
theorem pa_reads (os : Os) {H : Type} (enc : TypeId × Value → H) : ∃ places, DataW.whole enc Tryd.prog ((World.doorLaid Tryd.prog 100 os).forCall (fun _ _ => 0) ⟨#[], pa_wit, []⟩).memory Tryd.f6.params.toList Rows.pathReadsSpec.vars false pa_wit.toList 8 = some ([.lit (.string []), .lit (.bool false)], [], places) :=
  ⟨[], by kernel_rfl⟩
set_option maxRecDepth 100000 in
theorem pa_lifted (os : Os) (started : os.Started) (H : Type) (enc : TypeId × Value → H) (F : Stop.Interp) :
    ReturnsInHanded {} Tryd.checked os 6 .any ((Rows.OpenSpec.upto Rows.pathReadsSpec).preRow enc Tryd.prog Tryd.f6 Rows.pathReadsUptoRow.domain false Rows.pathReadsUptoRow.laid) (((Rows.OpenSpec.upto Rows.pathReadsSpec).at F).post enc Tryd.prog Tryd.f6 false true false false) := by
  obtain ⟨places, hx⟩ := pa_reads os enc
  refine returnsInHanded_of_row (C := Tryd.checked) (s := Rows.OpenSpec.upto Rows.pathReadsSpec) own started (by kernel_rfl) Tryd.func6
    (witness_row_atRef (enc := enc) (C := Tryd.checked) false (World.doorLaid Tryd.prog 100 os) pa_wit rfl (by kernel_rfl) (by kernel_rfl) (by kernel_rfl)
      (OpenSpec.preRow_of_cond 8 hx (by kernel_rfl) (fun k hk => by injection hk with hk; subst hk; kernel_rfl) (by kernel_rfl) (laid_metA os pa_wit))) ?_
  intro W base args ds gs before hval hW _ hc hz hL hsh _
  exact pa_contract H enc W base args ds gs before hval hW hz (hc _ rfl) ⟨tabs_of (by kernel_rfl) hL, errs_of (by kernel_rfl) hL⟩ (max_of hsh)
set_option maxRecDepth 100000 in
theorem pa_said : Rows.PathReadsUptoSaid :=
  OpenClaim.holds_of_cond 6 Tryd.f6 rfl rfl rfl rfl rfl rfl rfl ⟨rfl, rfl, rfl, rfl, rfl⟩ rfl rfl rfl rfl rfl (by kernel_rfl) Tryd.func6 (by kernel_rfl)
    (of_decide_eq_true (by kernel_rfl)) (by unfold Func.isWrapper; first | (rw [if_pos (by decide +kernel)]; kernel_rfl) | (rw [if_neg (by decide +kernel)]; exact ⟨rfl, rfl⟩))
    (fun os started H enc _ F => by rw [OpenClaim.pre_eq_preRow]; exact pa_lifted os started H enc F)
set_option maxRecDepth 100000 in
theorem pa_named : Tryd.prog.funcNamed Rows.pathReadsUptoRow.func = some 6 := by kernel_rfl
set_option maxRecDepth 100000 in
theorem pa_plain (f : FuncId) (fn : Func) (hf : Tryd.pinned.checked.prog.funcNamed Rows.pathReadsUptoRow.func = some f) (hfn : Tryd.pinned.checked.prog.funcs[f]? = some fn) :
    true = Tryd.pinned.checked.prog.looks [] ∧ ∀ (j : Nat) t, fn.params[j]? = some t → Tryd.pinned.checked.prog.wantsStandIn t = false := by
  obtain rfl : f = 6 := Option.some.inj (pa_named.symm.trans hf) |>.symm
  obtain rfl : fn = Tryd.f6 := (Option.some.inj (Tryd.func6.symm.trans hfn)).symm
  refine ⟨looksOff, fun j t ht => ?_⟩
  rw [Tryd.params6] at ht
  have hm := Array.mem_of_getElem? ht
  simp only [List.mem_toArray, List.mem_cons, List.not_mem_nil, or_false] at hm
  rcases hm with rfl | rfl
  · exact (show Tryd.prog.wantsStandIn 9 = false by kernel_rfl)
  · exact st4
set_option maxRecDepth 100000 in
theorem pathReadsUpto_holds : Rows.PathReadsUptoCardSaid :=
  Claim7.holds_tied_plain_at .later [] _ _ _ _ pa_said (fun _ h => by cases h) (by kernel_rfl) (fun _ h => by cases h) pathReadsUpto_row_tie rfl ⟨rfl, rfl⟩ (by kernel_rfl) rfl pa_plain (by kernel_rfl)
#print axioms pathReadsUpto_holds
end Go.Proofs.YtbdfigfjoiefiaaDoor
