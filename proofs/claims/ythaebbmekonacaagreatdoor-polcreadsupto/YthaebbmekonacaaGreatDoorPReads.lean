/-
  PolcReads answers true whatever its text of bulk at most 1048576 is, and the text reads behind the call as it read before, where the listed package variables hold what the program's text lays; the card ties that list to the text. The one other condition is that bound.
-/
import Derived.Test.YthaebbmekonacaaGreatDoorJEC
import Derived.Test.YthaebbmekonacaaGreatDoorWM
import Derived.LaidHandle
import Derived.SizedLaws
namespace Go.Proofs.YthaebbmekonacaaGreatDoor
open Go.ChangeShapes Go.WideShapes Go.ChangeAt Go.RowKit Go.Lib Go.Joins Go.Deep
set_option maxRecDepth 100000 in
theorem txt9 {H : Type} {enc : TypeId × Value → H} {w : World} {base b0 : Nat} {sp : Nat → Bool} {held : Bool} {r : Reach} {v : Value} {d : DataW H} {ps : List MemPlace}
    (hval : Value.okWide Tryz.prog w r b0 9 v) (hd : DataW.Trod enc Tryz.prog w base sp held 9 v d ps) : ∃ l : List UInt8, v = .string ⟨l.toArray⟩ ∧ d = .lit (.string l) := by
  obtain ⟨s, rfl⟩ := okWide_string Tryz.underlying9 hval
  obtain ⟨f, hf⟩ := hd
  obtain ⟨z, e, x, _⟩ := DataW.trod_string Tryz.underlying9 (by simpa [Value.cells] using hf)
  simp at e
  subst e
  simp only [Prod.mk.injEq] at x
  exact ⟨s.data.toList, by cases s; simp, x.1⟩
theorem heavy {H : Type} {P : Program} {ts : List TypeId} {ds : List (DataW H)} (h : (DataW.weightsEach P ts ds).all (· ≤ reachBytes) = true) (j : Nat) (t : TypeId) (l : List UInt8) (ht : ts[j]? = some t) (hd : ds[j]? = some (.lit (.string l))) : l.length < 140737488351233 := by
  have := of_decide_eq_true (List.all_eq_true.1 h _ (DataW.weights_mem_each ht hd l.length (by simp [DataW.weights])))
  unfold reachBytes at this
  omega
def etName : String := "errors.errorType"
theorem gEt : Tryz.prog.globalNamed etName = some 0 := by kernel_rfl
theorem oneEt : ((List.range 302).filter fun t => Tryz.prog.rowNamed t [101, 114, 114, 111, 114]) = [70] := by kernel_rfl
theorem sizeEt : Tryz.prog.types.size = 302 := by kernel_rfl
theorem et_of {W : World} {l : List (String × DataW Unit)} (hl : (l.filter fun x => x.1 == etName) = [(etName, Rows.laid_errors_errorType)]) (hL : laidMetH Tryz.prog l W) : ETAt W := by
  have hF := hL.filter (fun x => x.1 == etName)
  rw [hl] at hF
  have h' : laidMet Tryz.prog [] W ∧ handlesMet Tryz.prog [(etName, Rows.laid_errors_errorType)] W := hF
  obtain ⟨name, u, ty, e1, e2, e3, e4, e5⟩ := h'.2 _ (List.mem_singleton.2 rfl)
  have en : name = [101, 114, 114, 111, 114] := (Option.some.inj e1).symm
  subst en
  obtain rfl := Option.some.inj (Eq.trans (by kernel_rfl) e2 : some 164 = some u)
  have hm : ty ∈ (List.range 302).filter fun t => Tryz.prog.rowNamed t [101, 114, 114, 111, 114] := List.mem_filter.2 ⟨List.mem_range.2 (by rw [← sizeEt]; exact e3), e4⟩
  rw [oneEt] at hm
  obtain rfl := List.mem_singleton.1 hm
  have hh : typeHandle Tryz.prog 70 = .pointer (some ⟨12, 70, none⟩) := by kernel_rfl
  rw [hh] at e5
  simpa [ETAt] using World.var?_cell gEt e5 0
def putEt (o : Obj) : Obj := match o with
  | .cells _ t frozen => .cells #[.iface 164 (.agg #[.pointer (some ⟨12, 70, none⟩)])] t frozen
  | o => o
set_option maxRecDepth 100000 in
theorem rd_contract (H : Type) (enc : TypeId × Value → H) (W : World) (base : Nat) (args : Array Value) (ds gs : List (DataW H)) (before : List MemPlace)
    (hval : ∀ (j : Nat) t v, Tryz.f5.params[j]? = some t → args[j]? = some v → Value.okWide Tryz.prog W .any base t v)
    (hW : DataW.Whole enc Tryz.prog Tryz.f5.params.toList Rows.polcReadsSpec.vars false W args.toList ds gs before) (hz : (DataW.weightsEach Tryz.prog (Tryz.f5.params.toList ++ (Rows.OpenSpec.upto Rows.polcReadsSpec).bare.plain.varTypes Tryz.prog) (ds ++ gs)).all (· ≤ reachBytes) = true) (hk : Rows.uptoSmall H (ds ++ gs) = true) (hT : EnvX W ∧ ErrsAt W ∧ ETAt W) :
    Calls Tryz.prog 5 args W fun e W' => ∃ v, e = .returned v ∧ Rows.polcReadsSpec.post enc Tryz.prog Tryz.f5 false true false false W args v W' := by
  have hW' := hW
  obtain ⟨p, q, hA0, hV, rfl, hfz, hnd⟩ := hW
  have hA : DataW.TrodAll enc Tryz.prog W 0 (fun _ => true) true Tryz.f5.params.toList args.toList ds p := hA0
  rw [Tryz.params5] at hA hval hz
  obtain ⟨v0, vs0, d0, ds0, p0, q0, hargs, rfl, rfl, h0, r0⟩ := trodAll_cons hA
  obtain ⟨rfl, rfl, rfl⟩ := trodAll_nil r0
  obtain rfl : args = #[v0] := by cases args; simp_all
  obtain ⟨rfl, rfl⟩ := trodVars_none hV
  have k0 := h0
  have lt0 : ∀ x ∈ p0, x.block < W.heap.size := by obtain ⟨m, hm⟩ := k0; exact DataW.trod_lt m _ _ _ hm
  obtain ⟨l0, rfl, s0⟩ := txt9 (hval 0 9 v0 rfl rfl) h0
  subst s0
  have z0 : l0.length ≤ 1048576 := by
    have h1 := of_decide_eq_true hk
    rw [List.append_nil] at h1
    simp only [Rows.uptoBulkAll, Rows.uptoBulk] at h1
    omega
  clear hA0
  refine (reads_walk ⟨l0.toArray⟩ (by rw [show (⟨l0.toArray⟩ : ByteArray).size = l0.length from List.size_toArray ..]; omega) W hT.1 hT.2.1 hT.2.2).mono fun e W' ⟨he, bel⟩ => ?_
  subst he
  exact ⟨_, rfl, _, _, _, [], _, [], hW', trodAll_mk1 (shut_bool Tryz.underlying4 _), (trodAll_cons_mk (Below.trod laidOut (by kernel_rfl) (of_decide_eq_true (by kernel_rfl)) k0 bel lt0) trodAll_mk0), rfl, bel.frame _, fun h => by cases h⟩
/-- The arguments of the witness. -/
def rd_wit : Array Value := #[.string ⟨#[]⟩]
set_option maxRecDepth 100000 in
theorem rd_reads (os : Os) {H : Type} (enc : TypeId × Value → H) : ∃ places, DataW.whole enc Tryz.prog (({ World.doorLaid Tryz.prog 100 os with heap := ((World.doorLaid Tryz.prog 100 os).heap.modify 10 putFirst).modify 0 putEt } : World).forCall (fun _ _ => 0) ⟨#[], rd_wit, []⟩).memory Tryz.f5.params.toList Rows.polcReadsSpec.vars false rd_wit.toList 8 = some ([.lit (.string [])], [], places) :=
  ⟨[], by kernel_rfl⟩
set_option maxRecDepth 100000 in
theorem rd_met (os : Os) (args : Array Value) : laidMetH Tryz.prog Rows.polcReadsUptoRow.laid (({ World.doorLaid Tryz.prog 100 os with heap := ((World.doorLaid Tryz.prog 100 os).heap.modify 10 putFirst).modify 0 putEt } : World).forCall (fun _ _ => 0) ⟨#[], args, []⟩).memory :=
  laidMetH_of_parts (laidMet_of_run' 8 (by kernel_rfl) (by kernel_rfl)) (by kernel_rfl)
set_option maxRecDepth 100000 in
theorem rd_lifted (os : Os) (started : os.Started) (H : Type) (enc : TypeId × Value → H) (F : Stop.Interp) :
    ReturnsInHanded {} Tryz.checked os 5 .any ((Rows.OpenSpec.upto Rows.polcReadsSpec).preRow enc Tryz.prog Tryz.f5 Rows.polcReadsUptoRow.domain false Rows.polcReadsUptoRow.laid) (((Rows.OpenSpec.upto Rows.polcReadsSpec).at F).post enc Tryz.prog Tryz.f5 false true false false) := by
  obtain ⟨places, hx⟩ := rd_reads os enc
  refine returnsInHanded_of_row (C := Tryz.checked) (s := Rows.OpenSpec.upto Rows.polcReadsSpec) own started (by kernel_rfl) Tryz.func5
    (witness_row_atRef (enc := enc) (C := Tryz.checked) false ({ World.doorLaid Tryz.prog 100 os with heap := ((World.doorLaid Tryz.prog 100 os).heap.modify 10 putFirst).modify 0 putEt } : World) rd_wit rfl (by kernel_rfl) (by kernel_rfl) (by kernel_rfl)
      (OpenSpec.preRow_of_cond 8 hx (by kernel_rfl) (fun k hk => by injection hk with hk; subst hk; kernel_rfl) (by kernel_rfl) (rd_met os rd_wit))) ?_
  intro W base args ds gs before hval hW _ hc hz hL hsh _
  exact rd_contract H enc W base args ds gs before hval hW hz (hc _ rfl) ⟨env_of (by kernel_rfl) (by kernel_rfl) (by kernel_rfl) hL hsh, (three_of (by kernel_rfl) hL).2, et_of (by kernel_rfl) hL⟩
set_option maxRecDepth 100000 in
theorem rd_said : Rows.PolcReadsUptoSaid :=
  OpenClaim.holds_of_cond 5 Tryz.f5 rfl rfl rfl rfl rfl rfl rfl ⟨rfl, rfl, rfl, rfl, rfl⟩ rfl rfl rfl rfl rfl (by kernel_rfl) Tryz.func5 (by kernel_rfl)
    (of_decide_eq_true (by kernel_rfl)) (by unfold Func.isWrapper; first | (rw [if_pos (by decide +kernel)]; kernel_rfl) | (rw [if_neg (by decide +kernel)]; exact ⟨rfl, rfl⟩))
    (fun os started H enc _ F => by rw [OpenClaim.pre_eq_preRow]; exact rd_lifted os started H enc F)
set_option maxRecDepth 100000 in
theorem rd_named : Tryz.prog.funcNamed Rows.polcReadsUptoRow.func = some 5 := by kernel_rfl
set_option maxRecDepth 100000 in
theorem rd_plain (f : FuncId) (fn : Func) (hf : Tryz.pinned.checked.prog.funcNamed Rows.polcReadsUptoRow.func = some f) (hfn : Tryz.pinned.checked.prog.funcs[f]? = some fn) :
    true = Tryz.pinned.checked.prog.looks [] ∧ ∀ (j : Nat) t, fn.params[j]? = some t → Tryz.pinned.checked.prog.wantsStandIn t = false := by
  obtain rfl : f = 5 := Option.some.inj (rd_named.symm.trans hf) |>.symm
  obtain rfl : fn = Tryz.f5 := (Option.some.inj (Tryz.func5.symm.trans hfn)).symm
  refine ⟨looksOff, fun j t ht => ?_⟩
  rw [Tryz.params5] at ht
  have hm := Array.mem_of_getElem? ht
  simp only [List.mem_toArray, List.mem_cons, List.not_mem_nil, or_false] at hm
  subst hm
  exact st9
set_option maxRecDepth 100000 in
theorem polcReadsUpto_holds : Rows.PolcReadsUptoCardSaid :=
  Claim7.holds_tied_plain_at .later [] _ _ _ _ rd_said (fun _ h => by cases h) (by kernel_rfl) (fun _ h => by cases h) polcReadsUpto_row_tie rfl ⟨rfl, rfl⟩ (by kernel_rfl) rfl rd_plain (by kernel_rfl)
#print axioms polcReadsUpto_holds
end Go.Proofs.YthaebbmekonacaaGreatDoor
