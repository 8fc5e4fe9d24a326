/-
  SetsMatch answers true whatever its arguments are, and they read behind the call as they read before, where the listed package variables hold what the program's text lays; the card ties that list to the text. No other condition.
-/
import Derived.Test.YtjchobcmbkiilaaGreatDoorJC
import Derived.ChangeSame
import Derived.SizedLaws
import Derived.Test.YtjchobcmbkiilaaGreatDoorK4
namespace Go.Proofs.YtjchobcmbkiilaaGreatDoor
open Go.ChangeShapes Go.WideShapes Go.ChangeAt Go.RowKit Go.Lib Go.Joins Go.Deep Go.WideMaps Go.WideElems
section
theorem zs53 : Tryz.prog.cellsOf 53 = 2 := by kernel_rfl
theorem zs50 : Tryz.prog.cellsOf 50 = 1 := by kernel_rfl
theorem zs3 : Tryz.prog.cellsOf 3 = 1 := by kernel_rfl
theorem st51 : Tryz.prog.wantsStandIn 51 = false := by kernel_rfl
theorem st23 : Tryz.prog.wantsStandIn 23 = false := by kernel_rfl
theorem u32_bd {n : Int} (h : (Lit.int .u32 n).wf = true) : ∃ k : Nat, n = k ∧ k < 4294967296 := by
  have hb : 0 ≤ n ∧ n ≤ 4294967295 := by simpa [Lit.wf, IntKind.min, IntKind.max, IntKind.signed, IntKind.bits] using h
  exact ⟨n.toNat, by omega, by omega⟩
theorem li2 {α : Type} (l : List α) (h : l.length = 2) : ∃ c0 c1, l = [c0, c1] := by
  match l, h with
  | [c0, c1], _ => exact ⟨c0, c1, rfl⟩
variable {H : Type} {enc : TypeId × Value → H} {w : World} {sp : Nat → Bool} {held : Bool} {fuel : Nat}
theorem open_nums {v : Value} {d : DataW H} {ps : List MemPlace} (hd : DataW.Trod enc Tryz.prog w 0 sp held 23 v d ps) (hv : ∃ ad n c, v = .slice ad n c) : ∃ L, ASAt w v L := by
  obtain ⟨fuel, hf⟩ := hd
  obtain ⟨ad, n, c, rfl⟩ := hv
  have hf' : DataW.trod enc Tryz.prog w 0 sp held fuel 23 [.slice ad n c] = some (d, ps) := by simpa [Value.cells] using hf
  rcases open_slice Tryz.underlying23 hf' with ⟨hcs, _⟩ | ⟨a, len, cap, m, fu, D, Pl, hcs, hb, hl, hm, hmm, hx, hel⟩
  · simp at hcs
    obtain ⟨rfl, rfl, rfl⟩ := hcs
    exact ⟨[], none, 0, 0, 0, rfl, Or.inr rfl, by simp, fun j hj => by simp at hj⟩
  · simp at hcs
    obtain ⟨rfl, rfl, rfl⟩ := hcs
    have each : ∀ i, i < n → ∃ s : Nat, s < 4294967296 ∧ w.cell? (a.add i) = some (.int .u32 (s : Int)) := by
      intro i hi
      obtain ⟨cs', h1, h2⟩ := hel i (by rw [hmm]; split <;> omega)
      rw [zs50, Nat.mul_one] at h1
      obtain ⟨_, hlen, hcell⟩ := World.cells?_some h1
      obtain ⟨s, e, _, q⟩ := DataW.trod_int (k := .u32) Tryz.underlying50 h2
      obtain ⟨s', rfl, hs⟩ := u32_bd q
      refine ⟨s', hs, ?_⟩
      have d := hcell 0 (by omega)
      rw [add_add, Nat.add_zero] at d
      rw [d, e]
      rfl
    obtain ⟨q, hq⟩ := choose_lt each
    by_cases hz : n = 0
    · subst hz
      exact ⟨[], some a, 0, 0, c, rfl, Or.inr rfl, by simp, fun j hj => by simp at hj⟩
    · obtain ⟨b, off, spot⟩ := a
      have hspot : spot = none := by
        have := (hq 0 (by omega)).2
        simpa [Addr.add] using World.cell?_spot this
      subst hspot
      refine ⟨(List.range n).map q, some ⟨b, off, none⟩, b, off, c, by simp, Or.inl rfl, by simpa using hl, fun j hj => ?_⟩
      have hj' : j < n := by simpa using hj
      have h1 := (hq j hj').2
      simp only [add_off] at h1
      simpa using h1
theorem open_atoms {v : Value} {d : DataW H} {ps : List MemPlace} (hd : DataW.Trod enc Tryz.prog w 0 sp held 51 v d ps) (hv : ∃ ad n c, v = .slice ad n c) : ∃ L, AtAt w v L ∧ ∀ a ∈ L, a.2 < 4294967296 := by
  obtain ⟨fuel, hf⟩ := hd
  obtain ⟨ad, n, c, rfl⟩ := hv
  have hf' : DataW.trod enc Tryz.prog w 0 sp held fuel 51 [.slice ad n c] = some (d, ps) := by simpa [Value.cells] using hf
  rcases open_slice Tryz.underlying51 hf' with ⟨hcs, _⟩ | ⟨a, len, cap, m, fu, D, Pl, hcs, hb, hl, hm, hmm, hx, hel⟩
  · simp at hcs
    obtain ⟨rfl, rfl, rfl⟩ := hcs
    exact ⟨[], ⟨none, 0, 0, 0, rfl, Or.inr rfl, by simp, fun j hj => by simp at hj⟩, fun a h => by cases h⟩
  · simp at hcs
    obtain ⟨rfl, rfl, rfl⟩ := hcs
    have each : ∀ i, i < n → ∃ k : Atm, k.2 < 4294967296 ∧ w.cell? (a.add (i * 2)) = some (.int .i64 k.1) ∧ w.cell? (a.add (i * 2 + 1)) = some (.int .u32 (k.2 : Int)) := by
      intro i hi
      obtain ⟨cs', h1, h2⟩ := hel i (by rw [hmm]; split <;> omega)
      rw [zs53] at h1
      obtain ⟨_, hlen, hcell⟩ := World.cells?_some h1
      obtain ⟨c0, c1, rfl⟩ := li2 cs' hlen
      obtain ⟨y0, y1, nn, _, _, g0, g1⟩ := trod_struct2 Tryz.underlying53 h2
      simp only [zs3, zs50, List.drop_zero, List.drop_succ_cons, List.take_succ_cons, List.take_zero] at g0 g1
      obtain ⟨f, e0, _, _⟩ := DataW.trod_int (k := .i64) Tryz.underlying3 g0
      obtain ⟨s, e1, _, q⟩ := DataW.trod_int (k := .u32) Tryz.underlying50 g1
      simp at e0 e1
      subst e0 e1
      obtain ⟨s', rfl, hs⟩ := u32_bd q
      have d0 := hcell 0 (by omega)
      have d1 := hcell 1 (by omega)
      rw [add_add] at d0 d1
      exact ⟨(f, s'), hs, by simpa using d0, by simpa using d1⟩
    have : Inhabited Atm := ⟨(0, 0)⟩
    obtain ⟨q, hq⟩ := choose_lt each
    by_cases hz : n = 0
    · subst hz
      exact ⟨[], ⟨some a, 0, 0, c, rfl, Or.inr rfl, by simp, fun j hj => by simp at hj⟩, fun a h => by cases h⟩
    · obtain ⟨b, off, spot⟩ := a
      have hspot : spot = none := by
        have := (hq 0 (by omega)).2.1
        simpa [Addr.add] using World.cell?_spot this
      subst hspot
      refine ⟨(List.range n).map q, ⟨some ⟨b, off, none⟩, b, off, c, by simp, Or.inl rfl, by simpa using hl, fun j hj => ?_⟩, fun x hx => ?_⟩
      · have hj' : j < n := by simpa using hj
        have h1 := (hq j hj').2
        simp only [add_off] at h1
        have e : ((List.range n).map q)[j] = q j := by simp
        rw [e]
        exact ⟨h1.1, by have := h1.2; rwa [← Nat.add_assoc] at this⟩
      · obtain ⟨i, hi, rfl⟩ := List.mem_map.1 hx
        exact (hq i (List.mem_range.1 hi)).1
theorem heavy {H : Type} {P : Program} {ts : List TypeId} {ds : List (DataW H)} (h : (DataW.weightsEach P ts ds).all (· ≤ reachBytes) = true) (j : Nat) (t : TypeId) (l : List UInt8) (ht : ts[j]? = some t) (hd : ds[j]? = some (.lit (.string l))) : l.length < 140737488351233 := by
  have := of_decide_eq_true (List.all_eq_true.1 h _ (DataW.weights_mem_each ht hd l.length (by simp [DataW.weights])))
  unfold reachBytes at this
  omega
set_option maxRecDepth 100000 in
theorem laid_met_m (os : Os) (args : Array Value) : laidMet Tryz.prog Rows.setsMatchRow.laid (({ World.doorLaid Tryz.prog 100 os with heap := (World.doorLaid Tryz.prog 100 os).heap.modify 8 putFirst } : World).forCall (fun _ _ => 0) ⟨#[], args, []⟩).memory :=
  laidMet_of_run' 8 (by kernel_rfl) (by kernel_rfl)
end
end Go.Proofs.YtjchobcmbkiilaaGreatDoor
namespace Go.Proofs.YtjchobcmbkiilaaGreatDoor
open Go.ChangeShapes Go.WideShapes Go.ChangeAt Go.RowKit Go.Lib Go.Joins Go.Deep
set_option maxRecDepth 100000 in
theorem sm_contract (H : Type) (enc : TypeId × Value → H) (W : World) (base : Nat) (args : Array Value) (ds gs : List (DataW H)) (before : List MemPlace)
    (hval : ∀ (j : Nat) t v, Tryz.f5.params[j]? = some t → args[j]? = some v → Value.okWide Tryz.prog W .any base t v)
    (hW : DataW.Whole enc Tryz.prog Tryz.f5.params.toList Rows.setsMatchSpec.vars false W args.toList ds gs before)
    (hz : (DataW.weightsEach Tryz.prog (Tryz.f5.params.toList ++ (OpenSpec.ofChange Rows.setsMatchSpec).bare.plain.varTypes Tryz.prog) (ds ++ gs)).all (· ≤ reachBytes) = true) (hT : Env W) :
    Calls Tryz.prog 5 args W fun e W' => ∃ v, e = .returned v ∧ Rows.setsMatchSpec.post enc Tryz.prog Tryz.f5 false true false false W args v W' := by
  have hW' := hW
  obtain ⟨p, q, hA0, hV, rfl, hfz, hnd⟩ := hW
  have hA : DataW.TrodAll enc Tryz.prog W 0 (fun _ => true) true Tryz.f5.params.toList args.toList ds p := hA0
  rw [Tryz.params5] at hA hval hz
  obtain ⟨v0, vs0, d0, ds0, p0, q0, hargs, rfl, rfl, h0, r0⟩ := trodAll_cons hA
  obtain ⟨v1, vs1, d1, ds1, p1, q1, rfl, rfl, rfl, h1, r1⟩ := trodAll_cons r0
  obtain ⟨v2, vs2, d2, ds2, p2, q2, rfl, rfl, rfl, h2, r2⟩ := trodAll_cons r1
  obtain ⟨rfl, rfl, rfl⟩ := trodAll_nil r2
  obtain rfl : args = #[v0, v1, v2] := by cases args; simp_all
  obtain ⟨rfl, rfl⟩ := trodVars_none hV
  have k0 := h0
  have lt0 : ∀ x ∈ p0, x.block < W.heap.size := by obtain ⟨m, hm⟩ := k0; exact DataW.trod_lt m _ _ _ hm
  have k1 := h1
  have lt1 : ∀ x ∈ p1, x.block < W.heap.size := by obtain ⟨m, hm⟩ := k1; exact DataW.trod_lt m _ _ _ hm
  have k2 := h2
  have lt2 : ∀ x ∈ p2, x.block < W.heap.size := by obtain ⟨m, hm⟩ := k2; exact DataW.trod_lt m _ _ _ hm
  obtain ⟨ad0, len0, cap0, hv0⟩ := okWide_slice Tryz.underlying51 (hval 0 51 v0 rfl rfl)
  obtain ⟨L0, hL0, hB0⟩ := open_atoms h0 ⟨_, _, _, hv0⟩
  obtain ⟨ad1, len1, cap1, hv1⟩ := okWide_slice Tryz.underlying23 (hval 1 23 v1 rfl rfl)
  obtain ⟨L1, hL1⟩ := open_nums h1 ⟨_, _, _, hv1⟩
  obtain ⟨s2, rfl⟩ := okWide_string Tryz.underlying9 (hval 2 9 v2 rfl rfl)
  obtain ⟨f2, hf2⟩ := h2
  obtain ⟨z2, e2, x2, _⟩ := DataW.trod_string Tryz.underlying9 (by simpa [Value.cells] using hf2)
  simp at e2
  subst e2
  simp only [Prod.mk.injEq] at x2
  have hsz2 : s2.data.toList.length < 140737488351233 := by
    obtain ⟨e3, _⟩ := x2
    subst e3
    exact heavy hz 2 9 _ rfl rfl
  clear hA0
  refine (match_walk v0 L0 v1 L1 s2 W hT hL0 hB0 hL1 hsz2).mono fun e W' ⟨he, bel⟩ => ?_
  subst he
  exact ⟨_, rfl, _, _, _, [], _, [], hW', trodAll_mk1 (shut_bool Tryz.underlying4 _), (trodAll_cons_mk (Below.trod laidOut (by kernel_rfl) (of_decide_eq_true (by kernel_rfl)) k0 bel lt0) (trodAll_cons_mk (Below.trod laidOut (by kernel_rfl) (of_decide_eq_true (by kernel_rfl)) k1 bel lt1) (trodAll_cons_mk (Below.trod laidOut (by kernel_rfl) (of_decide_eq_true (by kernel_rfl)) k2 bel lt2) trodAll_mk0))), rfl, bel.frame _, fun h => by cases h⟩
/-- The arguments of the witness. -/
def sm_wit : Array Value := #[.slice none 0 0, .slice none 0 0, .string ⟨#[]⟩]
set_option maxRecDepth 100000 in
theorem sm_reads (os : Os) {H : Type} (enc : TypeId × Value → H) : ∃ places, DataW.whole enc Tryz.prog (({ World.doorLaid Tryz.prog 100 os with heap := (World.doorLaid Tryz.prog 100 os).heap.modify 8 putFirst } : World).forCall (fun _ _ => 0) ⟨#[], sm_wit, []⟩).memory Tryz.f5.params.toList Rows.setsMatchSpec.vars false sm_wit.toList 8 = some ([.nil, .nil, .lit (.string [])], [], places) :=
  ⟨[], by kernel_rfl⟩
set_option maxRecDepth 100000 in
theorem sm_lifted (os : Os) (started : os.Started) (H : Type) (enc : TypeId × Value → H) (F : Stop.Interp) :
    ReturnsInHanded {} Tryz.checked os 5 .any ((OpenSpec.ofChange Rows.setsMatchSpec).preRow enc Tryz.prog Tryz.f5 Rows.setsMatchRow.domain false Rows.setsMatchRow.laid) (((OpenSpec.ofChange Rows.setsMatchSpec).at F).post enc Tryz.prog Tryz.f5 false true false false) := by
  obtain ⟨places, hx⟩ := sm_reads os enc
  refine returnsInHanded_of_row (C := Tryz.checked) (s := OpenSpec.ofChange Rows.setsMatchSpec) own started (by kernel_rfl) Tryz.func5
    (witness_row_atRef (enc := enc) (C := Tryz.checked) false ({ World.doorLaid Tryz.prog 100 os with heap := (World.doorLaid Tryz.prog 100 os).heap.modify 8 putFirst } : World) sm_wit rfl (by kernel_rfl) (by kernel_rfl) (by kernel_rfl)
      (OpenSpec.preRow_of_cond 8 hx (by kernel_rfl) (fun k hk => by cases hk) (by kernel_rfl) (laid_met_m os sm_wit))) ?_
  intro W base args ds gs before hval hW _ _ hz hL hsh _
  exact sm_contract H enc W base args ds gs before hval hW hz (env_of (by kernel_rfl) (by kernel_rfl) hL hsh)
set_option maxRecDepth 100000 in
theorem sm_said : Rows.SetsMatchSaid :=
  OpenClaim.holds_of_cond 5 Tryz.f5 rfl rfl rfl rfl rfl rfl rfl ⟨rfl, rfl, rfl, rfl, rfl⟩ rfl rfl rfl rfl rfl (by kernel_rfl) Tryz.func5 (by kernel_rfl)
    (of_decide_eq_true (by kernel_rfl)) (by unfold Func.isWrapper; first | (rw [if_pos (by decide +kernel)]; kernel_rfl) | (rw [if_neg (by decide +kernel)]; exact ⟨rfl, rfl⟩))
    (fun os started H enc _ F => by rw [OpenClaim.pre_eq_preRow]; exact sm_lifted os started H enc F)
set_option maxRecDepth 100000 in
theorem sm_named : Tryz.prog.funcNamed Rows.setsMatchRow.func = some 5 := by kernel_rfl
set_option maxRecDepth 100000 in
theorem sm_plain (f : FuncId) (fn : Func) (hf : Tryz.pinned.checked.prog.funcNamed Rows.setsMatchRow.func = some f) (hfn : Tryz.pinned.checked.prog.funcs[f]? = some fn) :
    true = Tryz.pinned.checked.prog.looks [] ∧ ∀ (j : Nat) t, fn.params[j]? = some t → Tryz.pinned.checked.prog.wantsStandIn t = false := by
  obtain rfl : f = 5 := Option.some.inj (sm_named.symm.trans hf) |>.symm
  obtain rfl : fn = Tryz.f5 := (Option.some.inj (Tryz.func5.symm.trans hfn)).symm
  refine ⟨looksOff, fun j t ht => ?_⟩
  rw [Tryz.params5] at ht
  have hm := Array.mem_of_getElem? ht
  simp only [List.mem_toArray, List.mem_cons, List.not_mem_nil, or_false] at hm
  rcases hm with rfl | rfl | rfl
  · exact st51
  · exact st23
  · exact st9
set_option maxRecDepth 100000 in
theorem setsMatch_holds : Rows.SetsMatchCardSaid :=
  Claim7.holds_tied_plain_at .later [] _ _ _ _ sm_said (fun _ h => by cases h) (by kernel_rfl) (fun _ h => by cases h) setsMatch_row_tie rfl ⟨rfl, rfl⟩ (by kernel_rfl) rfl sm_plain (by kernel_rfl)
#print axioms setsMatch_holds
end Go.Proofs.YtjchobcmbkiilaaGreatDoor
