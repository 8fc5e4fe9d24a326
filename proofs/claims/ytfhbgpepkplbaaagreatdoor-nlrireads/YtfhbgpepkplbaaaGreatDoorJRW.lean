/-
  NlriReads answers true whatever its arguments are, and they read behind the call as they read before, where the listed package variables hold what the program's text lays; the card ties that list to the text. No other condition.
-/
import Derived.Test.YtfhbgpepkplbaaaGreatDoorJC
import Derived.Test.YtfhbgpepkplbaaaGreatDoorRDW
namespace Go.Proofs.YtfhbgpepkplbaaaGreatDoor
open Go.ChangeShapes Go.WideShapes Go.ChangeAt Go.RowKit Go.Joins Go.Deep Go.WideMaps Go.WideElems
theorem st37 : Tryz.prog.wantsStandIn 37 = false := by kernel_rfl
theorem zf3 : Tryz.prog.cellsOf 3 = 1 := by kernel_rfl
theorem zf4 : Tryz.prog.cellsOf 4 = 1 := by kernel_rfl
theorem zf37 : Tryz.prog.cellsOf 37 = 2 := by kernel_rfl
theorem array2f {α : Type} {a : Array α} (h : a.size = 2) : ∃ c0 c1, a = #[c0, c1] := by
  obtain ⟨l⟩ := a
  match l, h with
  | [c0, c1], _ => exact ⟨c0, c1, rfl⟩
variable {H : Type} {enc : TypeId × Value → H} {w : World} {sp : Nat → Bool} {held : Bool} {fuel : Nat}
set_option maxRecDepth 100000 in
theorem open_form {b0 : Nat} {r : Reach} {v : Value} {d : DataW H} {ps : List MemPlace} (hval : Value.okWide Tryz.prog w r b0 37 v) (hd : DataW.Trod enc Tryz.prog w 0 sp held 37 v d ps) :
    ∃ (k : Int) (s : Bool), v = .agg #[.int .i64 k, .bool s] := by
  obtain ⟨cs, rfl, hc⟩ := okWide_struct Tryz.underlying37 hval
  rw [zf37] at hc
  obtain ⟨c0, c1, rfl⟩ := array2f hc
  obtain ⟨fuel, hf⟩ := hd
  obtain ⟨y0, y1, n, _, _, h0, h1⟩ := trod_struct2 Tryz.underlying37 hf
  simp only [zf3, zf4, Value.cells, List.drop_zero, List.drop_succ_cons, List.take_succ_cons, List.take_zero] at h0 h1
  obtain ⟨f, e0, _, _⟩ := DataW.trod_int (k := .i64) Tryz.underlying3 h0
  obtain ⟨s, e1, _⟩ := DataW.trod_bool Tryz.underlying4 h1
  simp at e0 e1
  exact ⟨f, s, by rw [e0, e1]⟩
end Go.Proofs.YtfhbgpepkplbaaaGreatDoor
namespace Go.Proofs.YtfhbgpepkplbaaaGreatDoor
open Go.ChangeShapes Go.WideShapes Go.ChangeAt Go.RowKit Go.Lib Go.Joins Go.Deep
set_option maxRecDepth 100000 in
theorem rd_contract (H : Type) (enc : TypeId × Value → H) (W : World) (base : Nat) (args : Array Value) (ds gs : List (DataW H)) (before : List MemPlace)
    (hval : ∀ (j : Nat) t v, Tryz.f5.params[j]? = some t → args[j]? = some v → Value.okWide Tryz.prog W .any base t v)
    (hW : DataW.Whole enc Tryz.prog Tryz.f5.params.toList Rows.nlriReadsSpec.vars false W args.toList ds gs before) (hT : Tabs W) :
    Calls Tryz.prog 5 args W fun e W' => ∃ v, e = .returned v ∧ Rows.nlriReadsSpec.post enc Tryz.prog Tryz.f5 false true false false W args v W' := by
  have hW' := hW
  obtain ⟨p, q, hA0, hV, rfl, hfz, hnd⟩ := hW
  have hA : DataW.TrodAll enc Tryz.prog W 0 (fun _ => true) true Tryz.f5.params.toList args.toList ds p := hA0
  rw [Tryz.params5] at hA hval
  obtain ⟨v0, vs0, d0, ds0, p0, q0, hargs, rfl, rfl, h0, r0⟩ := trodAll_cons hA
  obtain ⟨v1, vs1, d1, ds1, p1, q1, rfl, rfl, rfl, h1, r1⟩ := trodAll_cons r0
  obtain ⟨rfl, rfl, rfl⟩ := trodAll_nil r1
  obtain rfl : args = #[v0, v1] := by cases args; simp_all
  obtain ⟨rfl, rfl⟩ := trodVars_none hV
  have k0 := h0
  have lt0 : ∀ x ∈ p0, x.block < W.heap.size := by obtain ⟨m, hm⟩ := k0; exact DataW.trod_lt m _ _ _ hm
  have k1 := h1
  have lt1 : ∀ x ∈ p1, x.block < W.heap.size := by obtain ⟨m, hm⟩ := k1; exact DataW.trod_lt m _ _ _ hm
  obtain ⟨s0, rfl⟩ := okWide_string Tryz.underlying9 (hval 0 9 v0 rfl rfl)
  obtain ⟨f0, hf0⟩ := h0
  obtain ⟨z0, e0, _, hs0⟩ := DataW.trod_string Tryz.underlying9 (by simpa [Value.cells] using hf0)
  simp at e0
  subst e0
  obtain ⟨x1, b1, rfl⟩ := open_form (hval 1 37 v1 rfl rfl) h1
  clear hA0
  refine (reads_walk s0 x1 b1 W hT hs0).mono fun e W' ⟨he, bel⟩ => ?_
  subst he
  exact ⟨_, rfl, _, _, _, [], _, [], hW', trodAll_mk1 (shut_bool Tryz.underlying4 _), (trodAll_cons_mk (Below.trod laidOut (by kernel_rfl) (of_decide_eq_true (by kernel_rfl)) k0 bel lt0) (trodAll_cons_mk (Below.trod laidOut (by kernel_rfl) (of_decide_eq_true (by kernel_rfl)) k1 bel lt1) trodAll_mk0)), rfl, bel.frame _, fun h => by cases h⟩
/-- The arguments of the witness. -/
def rd_wit : Array Value := #[.string ⟨#[]⟩, .agg #[.int .i64 0, .bool false]]
set_option maxRecDepth 100000 in
theorem rd_reads (os : Os) {H : Type} (enc : TypeId × Value → H) : ∃ places, DataW.whole enc Tryz.prog (({ World.doorLaid Tryz.prog 100 os with heap := (World.doorLaid Tryz.prog 100 os).heap.modify 8 putFirst } : World).forCall (fun _ _ => 0) ⟨#[], rd_wit, []⟩).memory Tryz.f5.params.toList Rows.nlriReadsSpec.vars false rd_wit.toList 8 = some ([.lit (.string []), .agg [.lit (.int .i64 0), .lit (.bool false)]], [], places) :=
  ⟨[], by kernel_rfl⟩
set_option maxRecDepth 100000 in
theorem rd_lifted (os : Os) (started : os.Started) (H : Type) (enc : TypeId × Value → H) (F : Stop.Interp) :
    ReturnsInHanded {} Tryz.checked os 5 .any ((OpenSpec.ofChange Rows.nlriReadsSpec).preRow enc Tryz.prog Tryz.f5 Rows.nlriReadsRow.domain false Rows.nlriReadsRow.laid) (((OpenSpec.ofChange Rows.nlriReadsSpec).at F).post enc Tryz.prog Tryz.f5 false true false false) := by
  obtain ⟨places, hx⟩ := rd_reads os enc
  refine returnsInHanded_of_row (C := Tryz.checked) (s := OpenSpec.ofChange Rows.nlriReadsSpec) own started (by kernel_rfl) Tryz.func5
    (witness_row_atRef (enc := enc) (C := Tryz.checked) false ({ World.doorLaid Tryz.prog 100 os with heap := (World.doorLaid Tryz.prog 100 os).heap.modify 8 putFirst } : World) rd_wit rfl (by kernel_rfl) (by kernel_rfl) (by kernel_rfl)
      (OpenSpec.preRow_of_cond 8 hx (by kernel_rfl) (fun k hk => by cases hk) (by kernel_rfl) (laid_met os rd_wit))) ?_
  intro W base args ds gs before hval hW _ _ _ hL hsh _
  exact rd_contract H enc W base args ds gs before hval hW (tabs_of (by kernel_rfl) hL hsh)
set_option maxRecDepth 100000 in
theorem rd_said : Rows.NlriReadsSaid :=
  OpenClaim.holds_of_cond 5 Tryz.f5 rfl rfl rfl rfl rfl rfl rfl ⟨rfl, rfl, rfl, rfl, rfl⟩ rfl rfl rfl rfl rfl (by kernel_rfl) Tryz.func5 (by kernel_rfl)
    (of_decide_eq_true (by kernel_rfl)) (by unfold Func.isWrapper; first | (rw [if_pos (by decide +kernel)]; kernel_rfl) | (rw [if_neg (by decide +kernel)]; exact ⟨rfl, rfl⟩))
    (fun os started H enc _ F => by rw [OpenClaim.pre_eq_preRow]; exact rd_lifted os started H enc F)
set_option maxRecDepth 100000 in
theorem rd_named : Tryz.prog.funcNamed Rows.nlriReadsRow.func = some 5 := by kernel_rfl
set_option maxRecDepth 100000 in
theorem rd_plain (f : FuncId) (fn : Func) (hf : Tryz.pinned.checked.prog.funcNamed Rows.nlriReadsRow.func = some f) (hfn : Tryz.pinned.checked.prog.funcs[f]? = some fn) :
    true = Tryz.pinned.checked.prog.looks [] ∧ ∀ (j : Nat) t, fn.params[j]? = some t → Tryz.pinned.checked.prog.wantsStandIn t = false := by
  obtain rfl : f = 5 := Option.some.inj (rd_named.symm.trans hf) |>.symm
  obtain rfl : fn = Tryz.f5 := (Option.some.inj (Tryz.func5.symm.trans hfn)).symm
  refine ⟨looksOff, fun j t ht => ?_⟩
  rw [Tryz.params5] at ht
  have hm := Array.mem_of_getElem? ht
  simp only [List.mem_toArray, List.mem_cons, List.not_mem_nil, or_false] at hm
  rcases hm with rfl | rfl
  · exact st9
  · exact st37
set_option maxRecDepth 100000 in
theorem nlriReads_holds : Rows.NlriReadsCardSaid :=
  Claim7.holds_tied_plain_at .later [] _ _ _ _ rd_said (fun _ h => by cases h) (by kernel_rfl) (fun _ h => by cases h) nlriReads_row_tie rfl ⟨rfl, rfl⟩ (by kernel_rfl) rfl rd_plain (by kernel_rfl)
#print axioms nlriReads_holds
end Go.Proofs.YtfhbgpepkplbaaaGreatDoor
