/-
  PolcSame answers true whatever its arguments are, and they read behind the call as they read before, where the listed package variables hold what the program's text lays; the card ties that list to the text. No other condition.
-/
import Derived.Test.YthaebbmekonacaaGreatDoorJP
import Derived.Test.YthaebbmekonacaaGreatDoorK6
namespace Go.Proofs.YthaebbmekonacaaGreatDoor
open Go.ChangeShapes Go.WideShapes Go.ChangeAt Go.RowKit Go.Lib Go.Joins Go.Deep
set_option maxRecDepth 100000 in
theorem sm_contract (H : Type) (enc : TypeId × Value → H) (W : World) (base : Nat) (args : Array Value) (ds gs : List (DataW H)) (before : List MemPlace)
    (hval : ∀ (j : Nat) t v, Tryz.f6.params[j]? = some t → args[j]? = some v → Value.okWide Tryz.prog W .any base t v)
    (hW : DataW.Whole enc Tryz.prog Tryz.f6.params.toList Rows.polcSameSpec.vars false W args.toList ds gs before) (hz : (DataW.weightsEach Tryz.prog (Tryz.f6.params.toList ++ (OpenSpec.ofChange Rows.polcSameSpec).bare.plain.varTypes Tryz.prog) (ds ++ gs)).all (· ≤ reachBytes) = true) (hT : EnvX W) :
    Calls Tryz.prog 6 args W fun e W' => ∃ v, e = .returned v ∧ Rows.polcSameSpec.post enc Tryz.prog Tryz.f6 false true false false W args v W' := by
  have hW' := hW
  obtain ⟨p, q, hA0, hV, rfl, hfz, hnd⟩ := hW
  have hA : DataW.TrodAll enc Tryz.prog W 0 (fun _ => true) true Tryz.f6.params.toList args.toList ds p := hA0
  rw [Tryz.params6] at hA hval hz
  obtain ⟨v0, vs0, d0, ds0, p0, q0, hargs, rfl, rfl, h0, r0⟩ := trodAll_cons hA
  obtain ⟨v1, vs1, d1, ds1, p1, q1, rfl, rfl, rfl, h1, r1⟩ := trodAll_cons r0
  obtain ⟨rfl, rfl, rfl⟩ := trodAll_nil r1
  obtain rfl : args = #[v0, v1] := by cases args; simp_all
  obtain ⟨rfl, rfl⟩ := trodVars_none hV
  have k0 := h0
  have lt0 : ∀ x ∈ p0, x.block < W.heap.size := by obtain ⟨m, hm⟩ := k0; exact DataW.trod_lt m _ _ _ hm
  have k1 := h1
  have lt1 : ∀ x ∈ p1, x.block < W.heap.size := by obtain ⟨m, hm⟩ := k1; exact DataW.trod_lt m _ _ _ hm
  obtain ⟨a0, hp0, hl0, hr0⟩ := open_policy (hval 0 24 v0 rfl rfl) h0 (light_each hz 0 24 d0 rfl rfl)
  obtain ⟨a1, hp1, hl1, hr1⟩ := open_policy (hval 1 24 v1 rfl rfl) h1 (light_each hz 1 24 d1 rfl rfl)
  clear hA0
  refine (same_walk _ _ a0 a1 W hT hp0 hp1 hl0 hl1 hr0).mono fun e W' ⟨he, bel⟩ => ?_
  subst he
  exact ⟨_, rfl, _, _, _, [], _, [], hW', trodAll_mk1 (shut_bool Tryz.underlying4 _), (trodAll_cons_mk (Below.trod laidOut (by kernel_rfl) (of_decide_eq_true (by kernel_rfl)) k0 bel lt0) (trodAll_cons_mk (Below.trod laidOut (by kernel_rfl) (of_decide_eq_true (by kernel_rfl)) k1 bel lt1) trodAll_mk0)), rfl, bel.frame _, fun h => by cases h⟩
/-- The arguments of the witness. -/
def sm_wit : Array Value := #[.agg #[.string ⟨#[]⟩, .slice none 0 0, .bool false], .agg #[.string ⟨#[]⟩, .slice none 0 0, .bool false]]
set_option maxRecDepth 100000 in
theorem sm_reads (os : Os) {H : Type} (enc : TypeId × Value → H) : ∃ places, DataW.whole enc Tryz.prog (({ World.doorLaid Tryz.prog 100 os with heap := (World.doorLaid Tryz.prog 100 os).heap.modify 10 putFirst } : World).forCall (fun _ _ => 0) ⟨#[], sm_wit, []⟩).memory Tryz.f6.params.toList Rows.polcSameSpec.vars false sm_wit.toList 8 = some ([.agg [.lit (.string []), .nil, .lit (.bool false)], .agg [.lit (.string []), .nil, .lit (.bool false)]], [], places) :=
  ⟨[], by kernel_rfl⟩
set_option maxRecDepth 100000 in
theorem sm_met (os : Os) (args : Array Value) : laidMet Tryz.prog Rows.polcSameRow.laid (({ World.doorLaid Tryz.prog 100 os with heap := (World.doorLaid Tryz.prog 100 os).heap.modify 10 putFirst } : World).forCall (fun _ _ => 0) ⟨#[], args, []⟩).memory :=
  laidMet_of_run' 8 (by kernel_rfl) (by kernel_rfl)
set_option maxRecDepth 100000 in
theorem sm_lifted (os : Os) (started : os.Started) (H : Type) (enc : TypeId × Value → H) (F : Stop.Interp) :
    ReturnsInHanded {} Tryz.checked os 6 .any ((OpenSpec.ofChange Rows.polcSameSpec).preRow enc Tryz.prog Tryz.f6 Rows.polcSameRow.domain false Rows.polcSameRow.laid) (((OpenSpec.ofChange Rows.polcSameSpec).at F).post enc Tryz.prog Tryz.f6 false true false false) := by
  obtain ⟨places, hx⟩ := sm_reads os enc
  refine returnsInHanded_of_row (C := Tryz.checked) (s := OpenSpec.ofChange Rows.polcSameSpec) own started (by kernel_rfl) Tryz.func6
    (witness_row_atRef (enc := enc) (C := Tryz.checked) false ({ World.doorLaid Tryz.prog 100 os with heap := (World.doorLaid Tryz.prog 100 os).heap.modify 10 putFirst } : World) sm_wit rfl (by kernel_rfl) (by kernel_rfl) (by kernel_rfl)
      (OpenSpec.preRow_of_cond 8 hx (by kernel_rfl) (fun k hk => by cases hk) (by kernel_rfl) (sm_met os sm_wit))) ?_
  intro W base args ds gs before hval hW _ _ hz hL hsh _
  exact sm_contract H enc W base args ds gs before hval hW hz (env_of (by kernel_rfl) (by kernel_rfl) (by kernel_rfl) hL hsh)
set_option maxRecDepth 100000 in
theorem sm_said : Rows.PolcSameSaid :=
  OpenClaim.holds_of_cond 6 Tryz.f6 rfl rfl rfl rfl rfl rfl rfl ⟨rfl, rfl, rfl, rfl, rfl⟩ rfl rfl rfl rfl rfl (by kernel_rfl) Tryz.func6 (by kernel_rfl)
    (of_decide_eq_true (by kernel_rfl)) (by unfold Func.isWrapper; first | (rw [if_pos (by decide +kernel)]; kernel_rfl) | (rw [if_neg (by decide +kernel)]; exact ⟨rfl, rfl⟩))
    (fun os started H enc _ F => by rw [OpenClaim.pre_eq_preRow]; exact sm_lifted os started H enc F)
set_option maxRecDepth 100000 in
theorem sm_named : Tryz.prog.funcNamed Rows.polcSameRow.func = some 6 := by kernel_rfl
set_option maxRecDepth 100000 in
theorem sm_plain (f : FuncId) (fn : Func) (hf : Tryz.pinned.checked.prog.funcNamed Rows.polcSameRow.func = some f) (hfn : Tryz.pinned.checked.prog.funcs[f]? = some fn) :
    true = Tryz.pinned.checked.prog.looks [] ∧ ∀ (j : Nat) t, fn.params[j]? = some t → Tryz.pinned.checked.prog.wantsStandIn t = false := by
  obtain rfl : f = 6 := Option.some.inj (sm_named.symm.trans hf) |>.symm
  obtain rfl : fn = Tryz.f6 := (Option.some.inj (Tryz.func6.symm.trans hfn)).symm
  refine ⟨looksOff, fun j t ht => ?_⟩
  rw [Tryz.params6] at ht
  have hm := Array.mem_of_getElem? ht
  simp only [List.mem_toArray, List.mem_cons, List.not_mem_nil, or_false] at hm
  rcases hm with rfl | rfl
  · exact st24
  · exact st24
set_option maxRecDepth 100000 in
theorem polcSame_holds : Rows.PolcSameCardSaid :=
  Claim7.holds_tied_plain_at .later [] _ _ _ _ sm_said (fun _ h => by cases h) (by kernel_rfl) (fun _ h => by cases h) polcSame_row_tie rfl ⟨rfl, rfl⟩ (by kernel_rfl) rfl sm_plain (by kernel_rfl)
#print axioms polcSame_holds
end Go.Proofs.YthaebbmekonacaaGreatDoor
