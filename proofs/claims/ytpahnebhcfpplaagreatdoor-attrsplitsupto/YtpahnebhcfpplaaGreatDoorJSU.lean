/-
  AttrSplits answers true whatever its argument of bulk at most 1048576 is, and it reads behind the call as it read before, where the listed package variables hold what the program's text lays; the card ties that list to the text. The one other condition is that bound on the bulk.
-/
import Derived.Test.YtpahnebhcfpplaaGreatDoorCW
import Derived.Test.YtpahnebhcfpplaaGreatDoorRows
import Derived.WalkKit
import Derived.ProofKit
import Derived.OpenShut
import Derived.LaidSub
import Derived.MakeChecks
import Derived.SizedLaws
import Derived.Lib.SmallJoins
import Derived.Deep.SlicePairs
import Derived.Lib.LaidTab
import Derived.Test.YtpahnebhcfpplaaGreatDoorCards
import Derived.Test.YtpahnebhcfpplaaGreatDoorTie
import Derived.Deep.DeepHandedRow
import Derived.Deep.DeepWitnessRowRef
import Derived.LaidMore
import Derived.ShutString
import Derived.ChangeOld
import Derived.Carry
import Derived.Test.YtpahnebhcfpplaaGreatDoorLS
namespace Go.Proofs.YtpahnebhcfpplaaGreatDoor
open Go.ChangeShapes Go.WideShapes Go.ChangeAt Go.RowKit Go.Joins Go.Deep Go.WideMaps Go.WideElems
theorem cs5 : Tryz.prog.cellsOf 5 = 1 := by kernel_rfl
theorem cs46 : Tryz.prog.cellsOf 46 = 3 := by kernel_rfl
theorem cs55 : Tryz.prog.cellsOf 55 = 12 := by kernel_rfl
theorem cs9 : Tryz.prog.cellsOf 9 = 1 := by kernel_rfl
theorem by46 : Tryz.prog.bytesOf 46 = 24 := by kernel_rfl
theorem add_off (b off i : Nat) : Addr.add ⟨b, off, none⟩ i = ⟨b, off + i, none⟩ := by unfold Addr.add; by_cases e : i = 0 <;> simp [e]
theorem u8_bd {n : Int} (h : (Lit.int .u8 n).wf = true) : ∃ k : Nat, n = k ∧ k < 256 := by
  have hb : 0 ≤ n ∧ n ≤ 255 := by simpa [Lit.wf, IntKind.min, IntKind.max, IntKind.signed, IntKind.bits] using h
  exact ⟨n.toNat, by omega, by omega⟩
/-- Weights are at most the reach. -/
def Small {H : Type} (t : TypeId) (d : DataW H) : Prop := ∀ x ∈ d.weights Tryz.prog t, x ≤ reachBytes
theorem list3 {α : Type} (l : List α) (h : l.length = 3) : ∃ a0 a1 a2, l = [a0, a1, a2] := by
  match l, h with
  | [a0, a1, a2], _ => exact ⟨a0, a1, a2, rfl⟩
variable {H : Type} {enc : TypeId × Value → H} {w : World} {sp : Nat → Bool} {held : Bool} {fuel : Nat}
/-- The name of the table, as the rows list it. -/
def knName : String := ((Rows.attrSplitsRow.laid.map (·.1))[0]?).getD default
theorem gKn : Tryz.prog.globalNamed knName = some 0 := by kernel_rfl
theorem tKn : (Tryz.prog.globals[0]?).map (·.type) = some 55 := by kernel_rfl
def kn12 : List Int := [1, 2, 3, 4, 5, 6, 7, 8, 9, 10, 16, 32]
theorem kn_data : (Rows.laid_herald_attr_known : DataW Unit) = Lib.tabData .u8 kn12 := by kernel_rfl
theorem kn_of {cs : Array Value} {p : List MemPlace} (h : DataW.trod (fun _ => ()) Tryz.prog w 0 sp held fuel 55 cs.toList = some (Rows.laid_herald_attr_known, p)) : cs = knownCells := by
  rw [kn_data] at h
  have := Lib.cells_of_tab Tryz.underlying55 Tryz.underlying5 cs5 cs55 h
  have e : cs = cs.toList.toArray := by simp
  rw [e, this]; rfl
theorem heap_of_var {g : Nat} {n : String} {cs : Array Value} (hg : Tryz.prog.globalNamed n = some g) (h : w.var? Tryz.prog n = some cs) : ∃ t fr, w.heap[g]? = some (.cells cs t fr) := by
  simp only [World.var?, hg, Option.bind_some] at h
  split at h
  · rename_i cs' t fr hh
    cases h
    exact ⟨t, fr, hh⟩
  · cases h
/-- What the row's list gives. -/
theorem tabs_of {l : List (String × DataW Unit)} (hl : (l.filter fun x => x.1 == knName) = [(knName, Rows.laid_herald_attr_known)])
    (hL : laidMetH Tryz.prog l w) : Tabs w := by
  have hF := hL.filter (fun x => x.1 == knName)
  rw [hl, MakeChecks.laidMetH_plain _ _ _ (by kernel_rfl)] at hF
  obtain ⟨ps, ⟨g0, t0, cs0, f0, p0, q0, hg0, ht0, hv0, hd0, _, _⟩, _, _⟩ := hF
  obtain rfl := Option.some.inj (gKn.symm.trans hg0)
  obtain rfl := Option.some.inj (tKn.symm.trans ht0)
  obtain rfl := kn_of hd0
  exact heap_of_var gKn hv0
end Go.Proofs.YtpahnebhcfpplaaGreatDoor
namespace Go.Proofs.YtpahnebhcfpplaaGreatDoor
open Go.ChangeShapes Go.WideShapes Go.ChangeAt Go.RowKit
set_option maxRecDepth 100000 in
theorem laid_metS (os : Os) (args : Array Value) : laidMet Tryz.prog Rows.attrSplitsUptoRow.laid ((World.doorLaid Tryz.prog 100 os).forCall (fun _ _ => 0) ⟨#[], args, []⟩).memory :=
  laidMet_of_run' 8 (by kernel_rfl) (by kernel_rfl)
set_option maxRecDepth 100000 in
theorem laid_metL (os : Os) (args : Array Value) : laidMet Tryz.prog Rows.attrLaysRow.laid ((World.doorLaid Tryz.prog 100 os).forCall (fun _ _ => 0) ⟨#[], args, []⟩).memory :=
  laidMet_of_run' 8 (by kernel_rfl) (by kernel_rfl)
theorem bulk_in {H : Type} {d : DataW H} : ∀ {l : List (DataW H)}, d ∈ l → Rows.uptoBulk d ≤ Rows.uptoBulkAll l
  | c :: l, h => by
    rw [Rows.uptoBulkAll]
    rcases List.mem_cons.mp h with h | h
    · rw [h]; omega
    · have := bulk_in h; omega
end Go.Proofs.YtpahnebhcfpplaaGreatDoor
namespace Go.Proofs.YtpahnebhcfpplaaGreatDoor
open Go.ChangeShapes Go.WideShapes Go.ChangeAt Go.RowKit Go.Lib Go.Joins Go.Deep
theorem own : ownKnob Tryz.prog.godebug = none := by kernel_rfl
theorem laidOut : laidOutB Tryz.prog = true := by kernel_rfl
/-- The weights of the arguments. -/
theorem small_each {H : Type} {ts : List TypeId} {ds : List (DataW H)} (h : (DataW.weightsEach Tryz.prog ts ds).all (· ≤ reachBytes) = true) (j : Nat) (t : TypeId) (d : DataW H) (ht : ts[j]? = some t) (hd : ds[j]? = some d) : Small t d := by
  induction ts generalizing ds j with
  | nil => simp at ht
  | cons t0 ts ih =>
    cases ds with
    | nil => simp at hd
    | cons d0 ds =>
      simp only [DataW.weightsEach, List.all_append, Bool.and_eq_true] at h
      cases j with
      | zero =>
        simp at ht hd
        subst ht hd
        intro x hx
        have := List.all_eq_true.mp h.1 x hx
        simpa using this
      | succ j => exact ih h.2 j (by simpa using ht) (by simpa using hd)
theorem st30 : Tryz.prog.wantsStandIn 30 = false := by kernel_rfl
theorem st4 : Tryz.prog.wantsStandIn 4 = false := by kernel_rfl
theorem st9 : Tryz.prog.wantsStandIn 9 = false := by kernel_rfl
theorem looksOff : false = Tryz.pinned.checked.prog.looks [] := by kernel_rfl
end Go.Proofs.YtpahnebhcfpplaaGreatDoor
namespace Go.Proofs.YtpahnebhcfpplaaGreatDoor
open Go.ChangeShapes Go.WideShapes Go.ChangeAt Go.RowKit Go.Lib Go.Joins Go.Deep
set_option maxRecDepth 100000 in
theorem sp_contract (H : Type) (enc : TypeId × Value → H) (W : World) (base : Nat) (args : Array Value) (ds gs : List (DataW H)) (before : List MemPlace)
    (hval : ∀ (j : Nat) t v, Tryz.f5.params[j]? = some t → args[j]? = some v → Value.okWide Tryz.prog W .any base t v)
    (hW : DataW.Whole enc Tryz.prog Tryz.f5.params.toList Rows.attrSplitsSpec.vars false W args.toList ds gs before)
    (hz : (DataW.weightsEach Tryz.prog (Tryz.f5.params.toList ++ (Rows.OpenSpec.upto Rows.attrSplitsSpec).bare.plain.varTypes Tryz.prog) (ds ++ gs)).all (· ≤ reachBytes) = true) (hk : Rows.uptoSmall H (ds ++ gs) = true) (hT : Tabs W) :
    Calls Tryz.prog 5 args W fun e W' => ∃ v, e = .returned v ∧ Rows.attrSplitsSpec.post enc Tryz.prog Tryz.f5 false true false false W args v W' := by
  have hW' := hW
  obtain ⟨p, q, hA0, hV, rfl, hfz, hnd⟩ := hW
  have hA : DataW.TrodAll enc Tryz.prog W 0 (fun _ => true) true Tryz.f5.params.toList args.toList ds p := hA0
  rw [Tryz.params5] at hA hval hz
  obtain ⟨v0, vs0, d0, ds0, p0, q0, hargs, rfl, rfl, h0, r0⟩ := trodAll_cons hA
  obtain ⟨rfl, rfl, rfl⟩ := trodAll_nil r0
  obtain rfl : args = #[v0] := by cases args; simp_all
  obtain ⟨rfl, rfl⟩ := trodVars_none hV
  have k0 := h0
  have lt0 : ∀ x ∈ p0, x.block < W.heap.size := by obtain ⟨m, hm⟩ := k0; exact DataW.trod_lt m _ _ _ hm
  have bk : ∀ d ∈ [d0], Rows.uptoBulk d ≤ 1048576 := by
    intro d hd
    have h1 := of_decide_eq_true hk
    rw [List.append_nil] at h1
    exact Nat.le_trans (bulk_in hd) h1
  obtain ⟨f0, hf0⟩ := h0
  obtain ⟨s2, rfl⟩ := okWide_string Tryz.underlying9 (hval 0 9 v0 rfl rfl)
  obtain ⟨s3, e2, x2, _⟩ := DataW.trod_string Tryz.underlying9 (by simpa [Value.cells] using hf0)
  simp at e2
  subst e2
  have hsz : s2.data.toList.length ≤ 1000000000000 := by
    have hb2 := bk d0 (by simp)
    simp only [Prod.mk.injEq] at x2
    rw [x2.1] at hb2
    simp only [Rows.uptoBulk] at hb2
    omega
  clear hA0
  have hwk := splits_any s2.data.toList W hsz hT
  rw [data_back] at hwk
  refine hwk.mono fun e W' ⟨he, bel⟩ => ?_
  subst he
  exact ⟨_, rfl, _, _, _, [], _, [], hW', trodAll_mk1 (shut_bool Tryz.underlying4 _), (trodAll_cons_mk (Below.trod laidOut (by kernel_rfl) (of_decide_eq_true (by kernel_rfl)) k0 bel lt0) trodAll_mk0), rfl, bel.frame _, fun h => by cases h⟩
/-- The arguments of the witness. -/
def sp_wit : Array Value := #[.string ⟨#[]⟩]
set_option maxRecDepth 100000 in
theorem sp_reads (os : Os) {H : Type} (enc : TypeId × Value → H) : ∃ places, DataW.whole enc Tryz.prog ((World.doorLaid Tryz.prog 100 os).forCall (fun _ _ => 0) ⟨#[], sp_wit, []⟩).memory Tryz.f5.params.toList Rows.attrSplitsSpec.vars false sp_wit.toList 8 = some ([.lit (.string [])], [], places) :=
  ⟨[], by kernel_rfl⟩
set_option maxRecDepth 100000 in
theorem sp_lifted (os : Os) (started : os.Started) (H : Type) (enc : TypeId × Value → H) (F : Stop.Interp) :
    ReturnsInHanded {} Tryz.checked os 5 .any ((Rows.OpenSpec.upto Rows.attrSplitsSpec).preRow enc Tryz.prog Tryz.f5 Rows.attrSplitsUptoRow.domain false Rows.attrSplitsUptoRow.laid) (((Rows.OpenSpec.upto Rows.attrSplitsSpec).at F).post enc Tryz.prog Tryz.f5 false true false false) := by
  obtain ⟨places, hx⟩ := sp_reads os enc
  refine returnsInHanded_of_row (C := Tryz.checked) (s := Rows.OpenSpec.upto Rows.attrSplitsSpec) own started (by kernel_rfl) Tryz.func5
    (witness_row_atRef (enc := enc) (C := Tryz.checked) false (World.doorLaid Tryz.prog 100 os) sp_wit rfl (by kernel_rfl) (by kernel_rfl) (by kernel_rfl)
      (OpenSpec.preRow_of_cond 8 hx (by kernel_rfl) (fun k hk => by injection hk with hk; subst hk; kernel_rfl) (by kernel_rfl) (laid_metS os sp_wit))) ?_
  intro W base args ds gs before hval hW _ hc hz hL _ _
  exact sp_contract H enc W base args ds gs before hval hW hz (hc _ rfl) (tabs_of (by kernel_rfl) hL)
set_option maxRecDepth 100000 in
theorem sp_said : Rows.AttrSplitsUptoSaid :=
  OpenClaim.holds_of_cond 5 Tryz.f5 rfl rfl rfl rfl rfl rfl rfl ⟨rfl, rfl, rfl, rfl, rfl⟩ rfl rfl rfl rfl rfl (by kernel_rfl) Tryz.func5 (by kernel_rfl)
    (of_decide_eq_true (by kernel_rfl)) (by unfold Func.isWrapper; first | (rw [if_pos (by decide +kernel)]; kernel_rfl) | (rw [if_neg (by decide +kernel)]; exact ⟨rfl, rfl⟩))
    (fun os started H enc _ F => by rw [OpenClaim.pre_eq_preRow]; exact sp_lifted os started H enc F)
set_option maxRecDepth 100000 in
theorem sp_named : Tryz.prog.funcNamed Rows.attrSplitsUptoRow.func = some 5 := by kernel_rfl
set_option maxRecDepth 100000 in
theorem sp_plain (f : FuncId) (fn : Func) (hf : Tryz.pinned.checked.prog.funcNamed Rows.attrSplitsUptoRow.func = some f) (hfn : Tryz.pinned.checked.prog.funcs[f]? = some fn) :
    false = Tryz.pinned.checked.prog.looks [] ∧ ∀ (j : Nat) t, fn.params[j]? = some t → Tryz.pinned.checked.prog.wantsStandIn t = false := by
  obtain rfl : f = 5 := Option.some.inj (sp_named.symm.trans hf) |>.symm
  obtain rfl : fn = Tryz.f5 := (Option.some.inj (Tryz.func5.symm.trans hfn)).symm
  refine ⟨looksOff, fun j t ht => ?_⟩
  rw [Tryz.params5] at ht
  have hm := Array.mem_of_getElem? ht
  simp only [List.mem_toArray, List.mem_cons, List.not_mem_nil, or_false] at hm
  rcases hm with rfl
  exact st9
set_option maxRecDepth 100000 in
theorem attrSplitsUpto_holds : Rows.AttrSplitsUptoCardSaid :=
  Claim7.holds_tied_plain_at .later [] _ _ _ _ sp_said (fun _ h => by cases h) (by kernel_rfl) (fun _ h => by cases h) attrSplitsUpto_row_tie rfl ⟨rfl, rfl⟩ (by kernel_rfl) rfl sp_plain (by kernel_rfl)
#print axioms attrSplitsUpto_holds
end Go.Proofs.YtpahnebhcfpplaaGreatDoor
