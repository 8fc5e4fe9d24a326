/-
  TopTalk answers true whatever its arguments are, and they read behind the call as they read before, where the listed package variables hold what the program's text lays; the card ties that list to the text. No other condition.
-/
import Derived.Test.YtfhapjhkjdifjaaGreatDoorJ6
import Derived.Test.YtfhapjhkjdifjaaGreatDoorT6
namespace Go.Proofs.YtfhapjhkjdifjaaGreatDoor
open Go.ChangeShapes Go.WideShapes Go.ChangeAt Go.RowKit Go.Lib Go.Joins Go.Deep
theorem talk_any (OL : List Opn) (NL : List Nt) (FL : List Int) (C : List Nat) (vo vn vf vc : Value) (w : World) (hg : FamSizes w) (hS : Fr.SzAt w) (hO : OpensAt w vo OL) (hN : NotesAt w vn NL) (hF : IntsAt w vf FL) (hC : Fr.U8sAt w vc C) (hc8 : ∀ n ∈ C, n < 256) :
    Calls Tryz.prog 3 #[.agg #[vo, vn, vf, vc]] w fun e w' => e = .returned (.bool true) ∧ Below w.heap.size w w' := by
  have hO' := hO
  have hN' := hN
  have hF' := hF
  have hC' := hC
  obtain ⟨ao, _, _, ko, rfl, _⟩ := hO'
  obtain ⟨an, _, _, kn, rfl, _⟩ := hN'
  obtain ⟨af, _, _, kf, rfl, _⟩ := hF'
  obtain ⟨ac, _, _, kc, rfl, _⟩ := hC'
  exact talk_walk OL NL FL C ao an af ac ko kn kf kc w hg hS hO hN hF hC hc8
set_option maxRecDepth 100000 in
theorem tt_contract (H : Type) (enc : TypeId × Value → H) (W : World) (base : Nat) (args : Array Value) (ds gs : List (DataW H)) (before : List MemPlace)
    (hval : ∀ (j : Nat) t v, Tryz.f3.params[j]? = some t → args[j]? = some v → Value.okWide Tryz.prog W .any base t v)
    (hW : DataW.Whole enc Tryz.prog Tryz.f3.params.toList Rows.topTalkSpec.vars false W args.toList ds gs before) (hz : (DataW.weightsEach Tryz.prog (Tryz.f3.params.toList ++ (OpenSpec.ofChange Rows.topTalkSpec).bare.plain.varTypes Tryz.prog) (ds ++ gs)).all (· ≤ reachBytes) = true) (hT : FamSizes W) (hT2 : Fr.SzAt W) :
    Calls Tryz.prog 3 args W fun e W' => ∃ v, e = .returned v ∧ Rows.topTalkSpec.post enc Tryz.prog Tryz.f3 false true false false W args v W' := by
  have hW' := hW
  obtain ⟨p, q, hA0, hV, rfl, hfz, hnd⟩ := hW
  have hA : DataW.TrodAll enc Tryz.prog W 0 (fun _ => true) true Tryz.f3.params.toList args.toList ds p := hA0
  rw [Tryz.params3] at hA hval hz
  obtain ⟨v0, vs0, d0, ds0, p0, q0, hargs, rfl, rfl, h0, r0⟩ := trodAll_cons hA
  obtain ⟨rfl, rfl, rfl⟩ := trodAll_nil r0
  obtain rfl : args = #[v0] := by cases args; simp_all
  obtain ⟨rfl, rfl⟩ := trodVars_none hV
  have k0 := h0
  have lt0 : ∀ x ∈ p0, x.block < W.heap.size := by obtain ⟨m, hm⟩ := k0; exact DataW.trod_lt m _ _ _ hm
  have z0 : Small 27 d0 := small_each hz 0 27 d0 rfl rfl
  obtain ⟨OL, NL, FL, CL, vo, vn, vf, vc, rfl, hO, hN, hF, hC, hC8⟩ := open_talk (hval 0 27 v0 rfl rfl) h0 z0
  clear hA0
  refine (talk_any OL NL FL CL vo vn vf vc  W hT hT2 hO hN hF hC hC8).mono fun e W' ⟨he, bel⟩ => ?_
  subst he
  exact ⟨_, rfl, _, _, _, [], _, [], hW', trodAll_mk1 (shut_bool Tryz.underlying4 _), (trodAll_cons_mk (Below.trod laidOut (by kernel_rfl) (of_decide_eq_true (by kernel_rfl)) k0 bel lt0) trodAll_mk0), rfl, bel.frame _, fun h => by cases h⟩
/-- The arguments of the witness. -/
def tt_wit : Array Value := #[.agg #[.slice none 0 0, .slice none 0 0, .slice none 0 0, .slice none 0 0]]
set_option maxRecDepth 100000 in
theorem tt_reads (os : Os) {H : Type} (enc : TypeId × Value → H) : ∃ places, DataW.whole enc Tryz.prog ((World.doorLaid Tryz.prog 100 os).forCall (fun _ _ => 0) ⟨#[], tt_wit, []⟩).memory Tryz.f3.params.toList Rows.topTalkSpec.vars false tt_wit.toList 8 = some ([.agg [.nil, .nil, .nil, .nil]], [], places) :=
  ⟨[], by kernel_rfl⟩
set_option maxRecDepth 100000 in
theorem tt_lifted (os : Os) (started : os.Started) (H : Type) (enc : TypeId × Value → H) (F : Stop.Interp) :
    ReturnsInHanded {} Tryz.checked os 3 .any ((OpenSpec.ofChange Rows.topTalkSpec).preRow enc Tryz.prog Tryz.f3 Rows.topTalkRow.domain false Rows.topTalkRow.laid) (((OpenSpec.ofChange Rows.topTalkSpec).at F).post enc Tryz.prog Tryz.f3 false true false false) := by
  obtain ⟨places, hx⟩ := tt_reads os enc
  refine returnsInHanded_of_row (C := Tryz.checked) (s := OpenSpec.ofChange Rows.topTalkSpec) own started (by kernel_rfl) Tryz.func3
    (witness_row_atRef (enc := enc) (C := Tryz.checked) false (World.doorLaid Tryz.prog 100 os) tt_wit rfl (by kernel_rfl) (by kernel_rfl) (by kernel_rfl)
      (OpenSpec.preRow_of_cond 8 hx (by kernel_rfl) (fun k hk => by cases hk) (by kernel_rfl) (laid_met os tt_wit))) ?_
  intro W base args ds gs before hval hW _ _ hz hL _ _
  exact tt_contract H enc W base args ds gs before hval hW hz (tabs_of (by kernel_rfl) hL) (Fr.tabs_of (by kernel_rfl) hL)
set_option maxRecDepth 100000 in
theorem tt_said : Rows.TopTalkSaid :=
  OpenClaim.holds_of_cond 3 Tryz.f3 rfl rfl rfl rfl rfl rfl rfl ⟨rfl, rfl, rfl, rfl, rfl⟩ rfl rfl rfl rfl rfl (by kernel_rfl) Tryz.func3 (by kernel_rfl)
    (of_decide_eq_true (by kernel_rfl)) (by unfold Func.isWrapper; first | (rw [if_pos (by decide +kernel)]; kernel_rfl) | (rw [if_neg (by decide +kernel)]; exact ⟨rfl, rfl⟩))
    (fun os started H enc _ F => by rw [OpenClaim.pre_eq_preRow]; exact tt_lifted os started H enc F)
set_option maxRecDepth 100000 in
theorem tt_named : Tryz.prog.funcNamed Rows.topTalkRow.func = some 3 := by kernel_rfl
set_option maxRecDepth 100000 in
theorem tt_plain (f : FuncId) (fn : Func) (hf : Tryz.pinned.checked.prog.funcNamed Rows.topTalkRow.func = some f) (hfn : Tryz.pinned.checked.prog.funcs[f]? = some fn) :
    false = Tryz.pinned.checked.prog.looks [] ∧ ∀ (j : Nat) t, fn.params[j]? = some t → Tryz.pinned.checked.prog.wantsStandIn t = false := by
  obtain rfl : f = 3 := Option.some.inj (tt_named.symm.trans hf) |>.symm
  obtain rfl : fn = Tryz.f3 := (Option.some.inj (Tryz.func3.symm.trans hfn)).symm
  refine ⟨looksOff, fun j t ht => ?_⟩
  rw [Tryz.params3] at ht
  have hm := Array.mem_of_getElem? ht
  simp only [List.mem_toArray, List.mem_cons, List.not_mem_nil, or_false] at hm
  subst hm
  exact st27
set_option maxRecDepth 100000 in
theorem topTalk_holds : Rows.TopTalkCardSaid :=
  Claim7.holds_tied_plain_at .later [] _ _ _ _ tt_said (fun _ h => by cases h) (by kernel_rfl) (fun _ h => by cases h) topTalk_row_tie rfl ⟨rfl, rfl⟩ (by kernel_rfl) rfl tt_plain (by kernel_rfl)
#print axioms topTalk_holds
end Go.Proofs.YtfhapjhkjdifjaaGreatDoor
