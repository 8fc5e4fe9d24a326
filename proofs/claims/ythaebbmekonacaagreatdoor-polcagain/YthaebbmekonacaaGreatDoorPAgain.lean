/-
  PolcAgain answers true whatever its text is, and the text reads behind the call as it read before, where the listed package variables hold what the program's text lays; the card ties that list to the text. No other condition.
-/
import Derived.Test.YthaebbmekonacaaGreatDoorJEC
import Derived.Test.YthaebbmekonacaaGreatDoorAGw
import Derived.SizedLaws
namespace Go.Proofs.YthaebbmekonacaaGreatDoor
open Go.ChangeShapes Go.WideShapes Go.ChangeAt Go.RowKit Go.Lib Go.Joins Go.Deep
set_option maxRecDepth 100000 in
theorem txt9 {H : Type} {enc : TypeId × Value → H} {w : World} {base b0 : Nat} {sp : Nat → Bool} {held : Bool} {r : Reach} {v : Value} {d : DataW H} {ps : List MemPlace}
    (hval : Value.okWide Tryz.prog w r b0 9 v) (hd : DataW.Trod enc Tryz.prog w base sp held 9 v d ps) : ∃ l : List UInt8, v = .string ⟨l.toArray⟩ ∧ d = .lit (.string l) := by
  obtain ⟨s, rfl⟩ := okWide_string Tryz.underlying9 hval
  obtain ⟨f, hf⟩ := hd
  obtain ⟨z, e, x, _⟩ := DataW.trod_string Tryz.underlying9 (by simpa [Value.cells] using hf)
  simp at e
  subst e
  simp only [Prod.mk.injEq] at x
  exact ⟨s.data.toList, by cases s; simp, x.1⟩
theorem heavy {H : Type} {P : Program} {ts : List TypeId} {ds : List (DataW H)} (h : (DataW.weightsEach P ts ds).all (· ≤ reachBytes) = true) (j : Nat) (t : TypeId) (l : List UInt8) (ht : ts[j]? = some t) (hd : ds[j]? = some (.lit (.string l))) : l.length < 140737488351233 := by
  have := of_decide_eq_true (List.all_eq_true.1 h _ (DataW.weights_mem_each ht hd l.length (by simp [DataW.weights])))
  unfold reachBytes at this
  omega
set_option maxRecDepth 100000 in
theorem ag_contract (H : Type) (enc : TypeId × Value → H) (W : World) (base : Nat) (args : Array Value) (ds gs : List (DataW H)) (before : List MemPlace)
    (hval : ∀ (j : Nat) t v, Tryz.f8.params[j]? = some t → args[j]? = some v → Value.okWide Tryz.prog W .any base t v)
    (hW : DataW.Whole enc Tryz.prog Tryz.f8.params.toList Rows.polcAgainSpec.vars false W args.toList ds gs before) (hz : (DataW.weightsEach Tryz.prog (Tryz.f8.params.toList ++ (OpenSpec.ofChange Rows.polcAgainSpec).bare.plain.varTypes Tryz.prog) (ds ++ gs)).all (· ≤ reachBytes) = true) (hT : EnvX W ∧ ErrsAt W) :
    Calls Tryz.prog 8 args W fun e W' => ∃ v, e = .returned v ∧ Rows.polcAgainSpec.post enc Tryz.prog Tryz.f8 false true false false W args v W' := by
  have hW' := hW
  obtain ⟨p, q, hA0, hV, rfl, hfz, hnd⟩ := hW
  have hA : DataW.TrodAll enc Tryz.prog W 0 (fun _ => true) true Tryz.f8.params.toList args.toList ds p := hA0
  rw [Tryz.params8] at hA hval hz
  obtain ⟨v0, vs0, d0, ds0, p0, q0, hargs, rfl, rfl, h0, r0⟩ := trodAll_cons hA
  obtain ⟨rfl, rfl, rfl⟩ := trodAll_nil r0
  obtain rfl : args = #[v0] := by cases args; simp_all
  obtain ⟨rfl, rfl⟩ := trodVars_none hV
  have k0 := h0
  have lt0 : ∀ x ∈ p0, x.block < W.heap.size := by obtain ⟨m, hm⟩ := k0; exact DataW.trod_lt m _ _ _ hm
  obtain ⟨l0, rfl, s0⟩ := txt9 (hval 0 9 v0 rfl rfl) h0
  subst s0
  have z0 := heavy hz 0 9 l0 rfl rfl
  clear hA0
  refine (again_walk ⟨l0.toArray⟩ (by rw [show (⟨l0.toArray⟩ : ByteArray).size = l0.length from List.size_toArray ..]; exact z0) W hT.1 hT.2).mono fun e W' ⟨he, bel⟩ => ?_
  subst he
  exact ⟨_, rfl, _, _, _, [], _, [], hW', trodAll_mk1 (shut_bool Tryz.underlying4 _), (trodAll_cons_mk (Below.trod laidOut (by kernel_rfl) (of_decide_eq_true (by kernel_rfl)) k0 bel lt0) trodAll_mk0), rfl, bel.frame _, fun h => by cases h⟩
/-- The arguments of the witness. -/
def ag_wit : Array Value := #[.string ⟨#[]⟩]
set_option maxRecDepth 100000 in
theorem ag_reads (os : Os) {H : Type} (enc : TypeId × Value → H) : ∃ places, DataW.whole enc Tryz.prog (({ World.doorLaid Tryz.prog 100 os with heap := (World.doorLaid Tryz.prog 100 os).heap.modify 10 putFirst } : World).forCall (fun _ _ => 0) ⟨#[], ag_wit, []⟩).memory Tryz.f8.params.toList Rows.polcAgainSpec.vars false ag_wit.toList 8 = some ([.lit (.string [])], [], places) :=
  ⟨[], by kernel_rfl⟩
set_option maxRecDepth 100000 in
theorem ag_met (os : Os) (args : Array Value) : laidMet Tryz.prog Rows.polcAgainRow.laid (({ World.doorLaid Tryz.prog 100 os with heap := (World.doorLaid Tryz.prog 100 os).heap.modify 10 putFirst } : World).forCall (fun _ _ => 0) ⟨#[], args, []⟩).memory :=
  laidMet_of_run' 8 (by kernel_rfl) (by kernel_rfl)
set_option maxRecDepth 100000 in
theorem ag_lifted (os : Os) (started : os.Started) (H : Type) (enc : TypeId × Value → H) (F : Stop.Interp) :
    ReturnsInHanded {} Tryz.checked os 8 .any ((OpenSpec.ofChange Rows.polcAgainSpec).preRow enc Tryz.prog Tryz.f8 Rows.polcAgainRow.domain false Rows.polcAgainRow.laid) (((OpenSpec.ofChange Rows.polcAgainSpec).at F).post enc Tryz.prog Tryz.f8 false true false false) := by
  obtain ⟨places, hx⟩ := ag_reads os enc
  refine returnsInHanded_of_row (C := Tryz.checked) (s := OpenSpec.ofChange Rows.polcAgainSpec) own started (by kernel_rfl) Tryz.func8
    (witness_row_atRef (enc := enc) (C := Tryz.checked) false ({ World.doorLaid Tryz.prog 100 os with heap := (World.doorLaid Tryz.prog 100 os).heap.modify 10 putFirst } : World) ag_wit rfl (by kernel_rfl) (by kernel_rfl) (by kernel_rfl)
      (OpenSpec.preRow_of_cond 8 hx (by kernel_rfl) (fun k hk => by cases hk) (by kernel_rfl) (ag_met os ag_wit))) ?_
  intro W base args ds gs before hval hW _ _ hz hL hsh _
  exact ag_contract H enc W base args ds gs before hval hW hz ⟨env_of (by kernel_rfl) (by kernel_rfl) (by kernel_rfl) hL hsh, (three_of (by kernel_rfl) hL).2⟩
set_option maxRecDepth 100000 in
theorem ag_said : Rows.PolcAgainSaid :=
  OpenClaim.holds_of_cond 8 Tryz.f8 rfl rfl rfl rfl rfl rfl rfl ⟨rfl, rfl, rfl, rfl, rfl⟩ rfl rfl rfl rfl rfl (by kernel_rfl) Tryz.func8 (by kernel_rfl)
    (of_decide_eq_true (by kernel_rfl)) (by unfold Func.isWrapper; first | (rw [if_pos (by decide +kernel)]; kernel_rfl) | (rw [if_neg (by decide +kernel)]; exact ⟨rfl, rfl⟩))
    (fun os started H enc _ F => by rw [OpenClaim.pre_eq_preRow]; exact ag_lifted os started H enc F)
set_option maxRecDepth 100000 in
theorem ag_named : Tryz.prog.funcNamed Rows.polcAgainRow.func = some 8 := by kernel_rfl
set_option maxRecDepth 100000 in
theorem ag_plain (f : FuncId) (fn : Func) (hf : Tryz.pinned.checked.prog.funcNamed Rows.polcAgainRow.func = some f) (hfn : Tryz.pinned.checked.prog.funcs[f]? = some fn) :
    true = Tryz.pinned.checked.prog.looks [] ∧ ∀ (j : Nat) t, fn.params[j]? = some t → Tryz.pinned.checked.prog.wantsStandIn t = false := by
  obtain rfl : f = 8 := Option.some.inj (ag_named.symm.trans hf) |>.symm
  obtain rfl : fn = Tryz.f8 := (Option.some.inj (Tryz.func8.symm.trans hfn)).symm
  refine ⟨looksOff, fun j t ht => ?_⟩
  rw [Tryz.params8] at ht
  have hm := Array.mem_of_getElem? ht
  simp only [List.mem_toArray, List.mem_cons, List.not_mem_nil, or_false] at hm
  subst hm
  exact st9
set_option maxRecDepth 100000 in
theorem polcAgain_holds : Rows.PolcAgainCardSaid :=
  Claim7.holds_tied_plain_at .later [] _ _ _ _ ag_said (fun _ h => by cases h) (by kernel_rfl) (fun _ h => by cases h) polcAgain_row_tie rfl ⟨rfl, rfl⟩ (by kernel_rfl) rfl ag_plain (by kernel_rfl)
#print axioms polcAgain_holds
end Go.Proofs.YthaebbmekonacaaGreatDoor
