/-
  CommLays answers true whatever its argument is, and it reads behind the call as it read before, where the listed package variables hold what the program's text lays; the card ties that list to the text. No other condition.
-/
import Derived.Test.YteldgfmcfkmpdaaDoorJC
import Derived.Test.YteldgfmcfkmpdaaDoorL1
namespace Go.Proofs.YteldgfmcfkmpdaaDoor
open Go.ChangeShapes Go.WideShapes Go.ChangeAt Go.RowKit Go.Lib Go.Joins Go.Deep
set_option maxRecDepth 100000 in
theorem cl_contract (H : Type) (enc : TypeId × Value → H) (W : World) (base : Nat) (args : Array Value) (ds gs : List (DataW H)) (before : List MemPlace)
    (hval : ∀ (j : Nat) t v, Tryd.f4.params[j]? = some t → args[j]? = some v → Value.okWide Tryd.prog W .any base t v)
    (hW : DataW.Whole enc Tryd.prog Tryd.f4.params.toList Rows.commLaysSpec.vars false W args.toList ds gs before)
    (hz : (DataW.weightsEach Tryd.prog (Tryd.f4.params.toList ++ (OpenSpec.ofChange Rows.commLaysSpec).bare.plain.varTypes Tryd.prog) (ds ++ gs)).all (· ≤ reachBytes) = true) (hT : Tabs W) :
    Calls Tryd.prog 4 args W fun e W' => ∃ v, e = .returned v ∧ Rows.commLaysSpec.post enc Tryd.prog Tryd.f4 false true false false W args v W' := by
  have hW' := hW
  obtain ⟨p, q, hA0, hV, rfl, hfz, hnd⟩ := hW
  have hA : DataW.TrodAll enc Tryd.prog W 0 (fun _ => true) true Tryd.f4.params.toList args.toList ds p := hA0
  rw [Tryd.params4] at hA hval hz
  obtain ⟨v0, vs0, d0, ds0, p0, q0, hargs, rfl, rfl, h0, r0⟩ := trodAll_cons hA
  obtain ⟨rfl, rfl, rfl⟩ := trodAll_nil r0
  obtain rfl : args = #[v0] := by cases args; simp_all
  obtain ⟨rfl, rfl⟩ := trodVars_none hV
  have k0 := h0
  have lt0 : ∀ x ∈ p0, x.block < W.heap.size := by obtain ⟨m, hm⟩ := k0; exact DataW.trod_lt m _ _ _ hm
  have z0 : Small 36 d0 := small_each hz 0 36 d0 rfl rfl
  obtain ⟨x1, x2, x3, y1, y2, y3, n, rfl, rfl, rfl, g1, g2, g3⟩ := open_agg3 Tryd.underlying36 (by kernel_rfl) cs36 (hval 0 36 v0 rfl rfl) h0
  obtain ⟨A, hA1⟩ := open_plain g1 (fun y hy => z0 y (by simp only [DataW.weights, Tryd.underlying36]; simp [DataW.weightsEach]; exact Or.inl hy))
  obtain ⟨B, hB1⟩ := open_exts g2 (fun y hy => z0 y (by simp only [DataW.weights, Tryd.underlying36]; simp [DataW.weightsEach]; exact Or.inr (Or.inl hy)))
  obtain ⟨C, hC1⟩ := open_larges g3 (fun y hy => z0 y (by simp only [DataW.weights, Tryd.underlying36]; simp [DataW.weightsEach]; exact Or.inr (Or.inr hy)))
  clear hA0
  refine (lays_walk _ _ _ A B C W hA1 hB1 hC1 hT).mono fun e W' ⟨he, bel⟩ => ?_
  subst he
  exact ⟨_, rfl, _, _, _, [], _, [], hW', trodAll_mk1 (shut_bool Tryd.underlying4 _), (trodAll_cons_mk (Below.trod laidOut (by kernel_rfl) (of_decide_eq_true (by kernel_rfl)) k0 bel lt0) trodAll_mk0), rfl, bel.frame _, fun h => by cases h⟩
/-- The arguments of the witness. -/
def cl_wit : Array Value := #[.agg #[.slice none 0 0, .slice none 0 0, .slice none 0 0]]
set_option maxRecDepth 100000 in
theorem cl_reads (os : Os) {H : Type} (enc : TypeId × Value → H) : ∃ places, DataW.whole enc Tryd.prog ((World.doorLaid Tryd.prog 100 os).forCall (fun _ _ => 0) ⟨#[], cl_wit, []⟩).memory Tryd.f4.params.toList Rows.commLaysSpec.vars false cl_wit.toList 8 = some ([.agg [.nil, .nil, .nil]], [], places) :=
  ⟨[], by kernel_rfl⟩
set_option maxRecDepth 100000 in
theorem cl_lifted (os : Os) (started : os.Started) (H : Type) (enc : TypeId × Value → H) (F : Stop.Interp) :
    ReturnsInHanded {} Tryd.checked os 4 .any ((OpenSpec.ofChange Rows.commLaysSpec).preRow enc Tryd.prog Tryd.f4 Rows.commLaysRow.domain false Rows.commLaysRow.laid) (((OpenSpec.ofChange Rows.commLaysSpec).at F).post enc Tryd.prog Tryd.f4 false true false false) := by
  obtain ⟨places, hx⟩ := cl_reads os enc
  refine returnsInHanded_of_row (C := Tryd.checked) (s := OpenSpec.ofChange Rows.commLaysSpec) own started (by kernel_rfl) Tryd.func4
    (witness_row_atRef (enc := enc) (C := Tryd.checked) false (World.doorLaid Tryd.prog 100 os) cl_wit rfl (by kernel_rfl) (by kernel_rfl) (by kernel_rfl)
      (OpenSpec.preRow_of_cond 8 hx (by kernel_rfl) (fun k hk => by cases hk) (by kernel_rfl) (laid_met os cl_wit))) ?_
  intro W base args ds gs before hval hW _ _ hz hL _ _
  exact cl_contract H enc W base args ds gs before hval hW hz (tabs_of (by kernel_rfl) hL)
set_option maxRecDepth 100000 in
theorem cl_said : Rows.CommLaysSaid :=
  OpenClaim.holds_of_cond 4 Tryd.f4 rfl rfl rfl rfl rfl rfl rfl ⟨rfl, rfl, rfl, rfl, rfl⟩ rfl rfl rfl rfl rfl (by kernel_rfl) Tryd.func4 (by kernel_rfl)
    (of_decide_eq_true (by kernel_rfl)) (by unfold Func.isWrapper; first | (rw [if_pos (by decide +kernel)]; kernel_rfl) | (rw [if_neg (by decide +kernel)]; exact ⟨rfl, rfl⟩))
    (fun os started H enc _ F => by rw [OpenClaim.pre_eq_preRow]; exact cl_lifted os started H enc F)
set_option maxRecDepth 100000 in
theorem cl_named : Tryd.prog.funcNamed Rows.commLaysRow.func = some 4 := by kernel_rfl
set_option maxRecDepth 100000 in
theorem cl_plain (f : FuncId) (fn : Func) (hf : Tryd.pinned.checked.prog.funcNamed Rows.commLaysRow.func = some f) (hfn : Tryd.pinned.checked.prog.funcs[f]? = some fn) :
    true = Tryd.pinned.checked.prog.looks [] ∧ ∀ (j : Nat) t, fn.params[j]? = some t → Tryd.pinned.checked.prog.wantsStandIn t = false := by
  obtain rfl : f = 4 := Option.some.inj (cl_named.symm.trans hf) |>.symm
  obtain rfl : fn = Tryd.f4 := (Option.some.inj (Tryd.func4.symm.trans hfn)).symm
  refine ⟨looksOff, fun j t ht => ?_⟩
  rw [Tryd.params4] at ht
  have hm := Array.mem_of_getElem? ht
  simp only [List.mem_toArray, List.mem_cons, List.not_mem_nil, or_false] at hm
  subst hm
  exact st36
set_option maxRecDepth 100000 in
theorem commLays_holds : Rows.CommLaysCardSaid :=
  Claim7.holds_tied_plain_at .later [] _ _ _ _ cl_said (fun _ h => by cases h) (by kernel_rfl) (fun _ h => by cases h) commLays_row_tie rfl ⟨rfl, rfl⟩ (by kernel_rfl) rfl cl_plain (by kernel_rfl)
#print axioms commLays_holds
end Go.Proofs.YteldgfmcfkmpdaaDoor
