/-
  PolcBack answers true whatever its argument is, and they read behind the call as they read before, where the listed package variables hold what the program's text lays; the card ties that list to the text. No other condition.
-/
import Derived.Test.YthaebbmekonacaaGreatDoorJP
import Derived.Test.YthaebbmekonacaaGreatDoorBKW
namespace Go.Proofs.YthaebbmekonacaaGreatDoor
open Go.ChangeShapes Go.WideShapes Go.ChangeAt Go.RowKit Go.Lib Go.Joins Go.Deep
theorem array2 {cs : Array Value} (h : cs.size = 2) : ∃ a b, cs = #[a, b] := by
  obtain ⟨l⟩ := cs
  match l, h with
  | [a, b], _ => exact ⟨a, b, rfl⟩
set_option maxRecDepth 100000 in
theorem open_tm {H : Type} {enc : TypeId × Value → H} {w : World} {sp : Nat → Bool} {held : Bool} {b0 : Nat} {r : Reach} {v : Value} {d : DataW H} {ps : List MemPlace} (hval : Value.okWide Tryz.prog w r b0 63 v) (hd : DataW.Trod enc Tryz.prog w 0 sp held 63 v d ps) (hz : Light 63 d) :
    ∃ T : Tm, TmAt w v T ∧ FineT T := by
  obtain ⟨cs, rfl, hc⟩ := okWide_struct Tryz.underlying63 hval
  rw [zs63] at hc
  obtain ⟨c0, c1, rfl⟩ := array2 hc
  obtain ⟨fuel, hf⟩ := hd
  obtain ⟨T, h0, h1, h2⟩ := open_term (by simpa [Value.cells] using hf) hz
  exact ⟨T, ⟨c0, c1, rfl, h0, h1⟩, h2⟩
set_option maxRecDepth 100000 in
theorem bk_contract (H : Type) (enc : TypeId × Value → H) (W : World) (base : Nat) (args : Array Value) (ds gs : List (DataW H)) (before : List MemPlace)
    (hval : ∀ (j : Nat) t v, Tryz.f7.params[j]? = some t → args[j]? = some v → Value.okWide Tryz.prog W .any base t v)
    (hW : DataW.Whole enc Tryz.prog Tryz.f7.params.toList Rows.polcBackSpec.vars false W args.toList ds gs before) (hz : (DataW.weightsEach Tryz.prog (Tryz.f7.params.toList ++ (OpenSpec.ofChange Rows.polcBackSpec).bare.plain.varTypes Tryz.prog) (ds ++ gs)).all (· ≤ reachBytes) = true) (hT : EnvX W ∧ ErrsAt W) :
    Calls Tryz.prog 7 args W fun e W' => ∃ v, e = .returned v ∧ Rows.polcBackSpec.post enc Tryz.prog Tryz.f7 false true false false W args v W' := by
  have hW' := hW
  obtain ⟨p, q, hA0, hV, rfl, hfz, hnd⟩ := hW
  have hA : DataW.TrodAll enc Tryz.prog W 0 (fun _ => true) true Tryz.f7.params.toList args.toList ds p := hA0
  rw [Tryz.params7] at hA hval hz
  obtain ⟨v0, vs0, d0, ds0, p0, q0, hargs, rfl, rfl, h0, r0⟩ := trodAll_cons hA
  obtain ⟨rfl, rfl, rfl⟩ := trodAll_nil r0
  obtain rfl : args = #[v0] := by cases args; simp_all
  obtain ⟨rfl, rfl⟩ := trodVars_none hV
  have k0 := h0
  have lt0 : ∀ x ∈ p0, x.block < W.heap.size := by obtain ⟨m, hm⟩ := k0; exact DataW.trod_lt m _ _ _ hm
  obtain ⟨a0, hp0, hf0⟩ := open_tm (hval 0 63 v0 rfl rfl) h0 (light_each hz 0 63 d0 rfl rfl)
  clear hA0
  refine (back_walk _ a0 W hT.1 hT.2 hp0 hf0.sm hf0.nn hf0.len).mono fun e W' ⟨he, bel⟩ => ?_
  subst he
  exact ⟨_, rfl, _, _, _, [], _, [], hW', trodAll_mk1 (shut_bool Tryz.underlying4 _), (trodAll_cons_mk (Below.trod laidOut (by kernel_rfl) (of_decide_eq_true (by kernel_rfl)) k0 bel lt0) trodAll_mk0), rfl, bel.frame _, fun h => by cases h⟩
/-- The arguments of the witness. -/
def bk_wit : Array Value := #[.agg #[.slice none 0 0, .slice none 0 0]]
set_option maxRecDepth 100000 in
theorem bk_reads (os : Os) {H : Type} (enc : TypeId × Value → H) : ∃ places, DataW.whole enc Tryz.prog (({ World.doorLaid Tryz.prog 100 os with heap := (World.doorLaid Tryz.prog 100 os).heap.modify 10 putFirst } : World).forCall (fun _ _ => 0) ⟨#[], bk_wit, []⟩).memory Tryz.f7.params.toList Rows.polcBackSpec.vars false bk_wit.toList 8 = some ([.agg [.nil, .nil]], [], places) :=
  ⟨[], by kernel_rfl⟩
set_option maxRecDepth 100000 in
theorem bk_met (os : Os) (args : Array Value) : laidMet Tryz.prog Rows.polcBackRow.laid (({ World.doorLaid Tryz.prog 100 os with heap := (World.doorLaid Tryz.prog 100 os).heap.modify 10 putFirst } : World).forCall (fun _ _ => 0) ⟨#[], args, []⟩).memory :=
  laidMet_of_run' 8 (by kernel_rfl) (by kernel_rfl)
set_option maxRecDepth 100000 in
theorem bk_lifted (os : Os) (started : os.Started) (H : Type) (enc : TypeId × Value → H) (F : Stop.Interp) :
    ReturnsInHanded {} Tryz.checked os 7 .any ((OpenSpec.ofChange Rows.polcBackSpec).preRow enc Tryz.prog Tryz.f7 Rows.polcBackRow.domain false Rows.polcBackRow.laid) (((OpenSpec.ofChange Rows.polcBackSpec).at F).post enc Tryz.prog Tryz.f7 false true false false) := by
  obtain ⟨places, hx⟩ := bk_reads os enc
  refine returnsInHanded_of_row (C := Tryz.checked) (s := OpenSpec.ofChange Rows.polcBackSpec) own started (by kernel_rfl) Tryz.func7
    (witness_row_atRef (enc := enc) (C := Tryz.checked) false ({ World.doorLaid Tryz.prog 100 os with heap := (World.doorLaid Tryz.prog 100 os).heap.modify 10 putFirst } : World) bk_wit rfl (by kernel_rfl) (by kernel_rfl) (by kernel_rfl)
      (OpenSpec.preRow_of_cond 8 hx (by kernel_rfl) (fun k hk => by cases hk) (by kernel_rfl) (bk_met os bk_wit))) ?_
  intro W base args ds gs before hval hW _ _ hz hL hsh _
  exact bk_contract H enc W base args ds gs before hval hW hz ⟨env_of (by kernel_rfl) (by kernel_rfl) (by kernel_rfl) hL hsh, (three_of (by kernel_rfl) hL).2⟩
set_option maxRecDepth 100000 in
theorem bk_said : Rows.PolcBackSaid :=
  OpenClaim.holds_of_cond 7 Tryz.f7 rfl rfl rfl rfl rfl rfl rfl ⟨rfl, rfl, rfl, rfl, rfl⟩ rfl rfl rfl rfl rfl (by kernel_rfl) Tryz.func7 (by kernel_rfl)
    (of_decide_eq_true (by kernel_rfl)) (by unfold Func.isWrapper; first | (rw [if_pos (by decide +kernel)]; kernel_rfl) | (rw [if_neg (by decide +kernel)]; exact ⟨rfl, rfl⟩))
    (fun os started H enc _ F => by rw [OpenClaim.pre_eq_preRow]; exact bk_lifted os started H enc F)
set_option maxRecDepth 100000 in
theorem bk_named : Tryz.prog.funcNamed Rows.polcBackRow.func = some 7 := by kernel_rfl
set_option maxRecDepth 100000 in
theorem bk_plain (f : FuncId) (fn : Func) (hf : Tryz.pinned.checked.prog.funcNamed Rows.polcBackRow.func = some f) (hfn : Tryz.pinned.checked.prog.funcs[f]? = some fn) :
    true = Tryz.pinned.checked.prog.looks [] ∧ ∀ (j : Nat) t, fn.params[j]? = some t → Tryz.pinned.checked.prog.wantsStandIn t = false := by
  obtain rfl : f = 7 := Option.some.inj (bk_named.symm.trans hf) |>.symm
  obtain rfl : fn = Tryz.f7 := (Option.some.inj (Tryz.func7.symm.trans hfn)).symm
  refine ⟨looksOff, fun j t ht => ?_⟩
  rw [Tryz.params7] at ht
  have hm := Array.mem_of_getElem? ht
  simp only [List.mem_toArray, List.mem_cons, List.not_mem_nil, or_false] at hm
  subst hm
  exact st63
set_option maxRecDepth 100000 in
theorem polcBack_holds : Rows.PolcBackCardSaid :=
  Claim7.holds_tied_plain_at .later [] _ _ _ _ bk_said (fun _ h => by cases h) (by kernel_rfl) (fun _ h => by cases h) polcBack_row_tie rfl ⟨rfl, rfl⟩ (by kernel_rfl) rfl bk_plain (by kernel_rfl)
#print axioms polcBack_holds
end Go.Proofs.YthaebbmekonacaaGreatDoor
