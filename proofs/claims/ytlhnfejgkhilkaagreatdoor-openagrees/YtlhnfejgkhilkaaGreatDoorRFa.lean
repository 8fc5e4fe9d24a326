/-
  A law for a region that draws its order: a fact for each operation done, kept by what the others do.
-/
import Derived.Orders
import Derived.RegionTactic
namespace Go.Proofs.YtlhnfejgkhilkaaGreatDoor
theorem count_set (l : List Bool) (i : Nat) (h : l[i]? = some false) : (l.set i true).count false + 1 = l.count false := by
  induction l generalizing i with
  | nil => simp at h
  | cons b l ih =>
    cases i with
    | zero =>
      simp at h
      subst h
      simp
    | succ i =>
      have := ih i (by simpa using h)
      simp only [List.set_cons_succ, List.count_cons]
      omega
theorem ready_at {md : Region.Mode} {ops : Array Oper} {listed : Array Bool} {i : Nat} (h : i ∈ Region.ready md ops listed) : listed[i]? = some false := by
  have h3 := (mem_ready.1 h).1
  rw [Array.getD_eq_getD_getElem?] at h3
  cases e : listed[i]? with
  | none => rw [e] at h3; simp at h3
  | some b => rw [e] at h3; simp at h3; rw [h3]
theorem any_inv {P : Program} {ops : Array Oper} {Q : Exit → Act → World → Prop} {md : Region.Mode} (I : Array Bool → Act → World → Prop)
    (hstep : ∀ listed a w, I listed a w → ∀ i ∈ Region.ready md ops listed, wpOp P ops Q i (I (listed.setIfInBounds i true)) a w)
    (hdone : ∀ listed a w, I listed a w → Region.ready md ops listed = [] → Q .normal a w) :
    ∀ (fuel : Nat) (listed : Array Bool) (a : Act) (w : World), listed.toList.count false ≤ fuel → I listed a w → wpAny P md ops Q fuel listed a w
  | 0, listed, a, w, hc, h => by
    have hr : Region.ready md ops listed = [] := by
      apply List.eq_nil_iff_forall_not_mem.2
      intro i hi
      have h1 := ready_at hi
      have h2 : false ∈ listed.toList := by
        rw [← Array.getElem?_toList] at h1
        exact List.mem_of_getElem? h1
      have := List.count_pos_iff.2 h2
      omega
    exact ⟨hr, hdone _ _ _ h hr⟩
  | fuel + 1, listed, a, w, hc, h => by
    refine ⟨fun hr => hdone _ _ _ h hr, fun i hi => wpOp_mono (fun a' w' h' => ?_) (hstep _ _ _ h i hi)⟩
    refine any_inv I hstep hdone fuel _ a' w' ?_ h'
    have h1 := ready_at hi
    rw [← Array.getElem?_toList] at h1
    have := count_set listed.toList i h1
    rw [Array.toList_setIfInBounds]
    omega
/-- The operations that must be done ahead of number i. -/
def depsOf (ops : Array Oper) (i : Nat) : List Nat := (((ops[i]?).map (·.after.toList)).getD []).filterMap fun e => if Region.binds .any e then some e.on else none
def topoB (ops : Array Oper) : Bool := (List.range ops.size).all fun i => (depsOf ops i).all fun j => decide (j < i)
theorem deps_done {ops : Array Oper} {listed : Array Bool} {i : Nat} (h : i ∈ Region.ready .any ops listed) : ∀ j ∈ depsOf ops i, listed.getD j false = true := by
  obtain ⟨_, o, ho, ha⟩ := mem_ready.1 h
  intro j hj
  unfold depsOf at hj
  rw [ho] at hj
  simp only [Option.map_some, Option.getD_some, List.mem_filterMap, Array.mem_toList_iff] at hj
  obtain ⟨e, he, hs⟩ := hj
  by_cases hb : Region.binds .any e = true
  · rw [if_pos hb] at hs
    cases hs
    exact ha e he hb
  · rw [if_neg hb] at hs
    cases hs
theorem all_done {ops : Array Oper} {listed : Array Bool} (hs : listed.size = ops.size) (ht : topoB ops = true) (h : Region.ready .any ops listed = []) : ∀ i, i < ops.size → listed.getD i false = true := by
  intro i
  induction i using Nat.strongRecOn with
  | _ i ih =>
    intro hi
    cases e : listed.getD i false with
    | true => rfl
    | false =>
      exfalso
      have hm : i ∈ Region.ready .any ops listed := by
        refine mem_ready.2 ⟨?_, ops[i], Array.getElem?_eq_getElem hi, fun e' he' hb => ?_⟩
        · rw [Array.getD_eq_getD_getElem?, Array.getElem?_eq_getElem (by omega)] at e ⊢
          simpa using e
        · have hj : e'.on ∈ depsOf ops i := by
            unfold depsOf
            rw [Array.getElem?_eq_getElem hi]
            simp only [Option.map_some, Option.getD_some, List.mem_filterMap, Array.mem_toList_iff]
            exact ⟨e', he', by rw [if_pos hb]⟩
          have hlt : e'.on < i := by
            unfold topoB at ht
            have h1 := List.all_eq_true.1 ht i (List.mem_range.2 hi)
            have h2 := List.all_eq_true.1 h1 _ hj
            simpa using h2
          exact ih _ hlt (by omega)
      rw [h] at hm
      cases hm
/-- The slot that number i writes. -/
def dstOf (ops : Array Oper) (i : Nat) : Option Nat := (ops[i]?).bind (·.dst)
def dstsB (ops : Array Oper) (n : Nat) : Bool := (List.range ops.size).all fun i => (match dstOf ops i with | some d => decide (d < n) | none => true) && (List.range ops.size).all fun j => (i == j) || (match dstOf ops i, dstOf ops j with | some d, some e => !(d == e) | _, _ => true)
/-- What is in the slot of number i. -/
def slotOf (ops : Array Oper) (i : Nat) (a : Act) : Value := match dstOf ops i with | some d => a.tmps.getD d undef | none => undef
theorem slot_put {ops : Array Oper} {i : Nat} {o : Oper} {a : Act} {v : Value} {n : Nat} (ho : ops[i]? = some o) (hn : a.tmps.size = n) (hd : dstsB ops n = true) : o.dst ≠ none → slotOf ops i (a.put o.dst v) = v := by
  intro hne
  have hi : i < ops.size := (Array.getElem?_eq_some_iff.1 ho).1
  unfold dstsB at hd
  have h1 := List.all_eq_true.1 hd i (List.mem_range.2 hi)
  rw [Bool.and_eq_true] at h1
  have h2 := h1.1
  unfold slotOf
  unfold dstOf at h2 ⊢
  rw [ho] at h2 ⊢
  cases hdst : o.dst with
  | none => exact absurd hdst hne
  | some d =>
    simp only [Option.bind_some, hdst] at h2 ⊢
    simp only [decide_eq_true_eq] at h2
    simp only [Act.put]
    rw [Array.getD_eq_getD_getElem?, Array.getElem?_setIfInBounds_self]
    simp [hn, h2]
theorem slot_keep {ops : Array Oper} {i j : Nat} {o : Oper} {a : Act} {v : Value} {n : Nat} (ho : ops[i]? = some o) (hj : j < ops.size) (hne : j ≠ i) (hd : dstsB ops n = true) : slotOf ops j (a.put o.dst v) = slotOf ops j a := by
  have hi : i < ops.size := (Array.getElem?_eq_some_iff.1 ho).1
  unfold dstsB at hd
  have h1 := List.all_eq_true.1 hd i (List.mem_range.2 hi)
  rw [Bool.and_eq_true] at h1
  have h2 := List.all_eq_true.1 h1.2 j (List.mem_range.2 hj)
  rw [Bool.or_eq_true] at h2
  have h3 := h2.resolve_left (by simpa using fun h : i = j => hne h.symm)
  unfold slotOf
  have hio : dstOf ops i = o.dst := by unfold dstOf; rw [ho]; rfl
  rw [hio] at h3
  cases hdj : dstOf ops j with
  | none => rfl
  | some e =>
    rw [hdj] at h3
    cases hdst : o.dst with
    | none => rfl
    | some d =>
      rw [hdst] at h3
      simp only [Bool.not_eq_true', beq_eq_false_iff_ne, ne_eq] at h3
      simp only [Act.put]
      rw [Array.getD_eq_getD_getElem?, Array.getD_eq_getD_getElem?, Array.getElem?_setIfInBounds_ne h3]
/-- THE LAW: what number i leaves (E i), kept by the worlds' steps (Ev). -/
theorem region_facts {P : Program} {ops : Array Oper} {Q : Exit → Act → World → Prop} {id : Nat} {a0 : Act} {w0 : World} (hm : P.follows .mixedOrders = true)
    (Ev : World → World → Prop) (E : Nat → Value → World → Prop)
    (htr : ∀ x y z, Ev x y → Ev y z → Ev x z) (hrf : Ev w0.drew w0.drew)
    (hst : ∀ j v w w', Ev w0.drew w → Ev w w' → E j v w → E j v w')
    (ht : topoB ops = true) (hd : dstsB ops a0.tmps.size = true)
    (hstep : ∀ i o, ops[i]? = some o → ∀ a w, a.tmps.size = a0.tmps.size → a.defers = a0.defers → (∀ t, (∀ j, j < ops.size → dstOf ops j ≠ some t) → a.tmps.getD t undef = a0.tmps.getD t undef) → Ev w0.drew w →
      (∀ j ∈ depsOf ops i, E j (slotOf ops j a) w) → wpOp P ops Q i (fun a' w' => ∃ v, a' = a.put o.dst v ∧ Ev w w' ∧ E i (if o.dst = none then undef else v) w') a w)
    (hdone : ∀ a w, a.tmps.size = a0.tmps.size → a.defers = a0.defers → (∀ t, (∀ j, j < ops.size → dstOf ops j ≠ some t) → a.tmps.getD t undef = a0.tmps.getD t undef) → Ev w0.drew w →
      (∀ j, j < ops.size → E j (slotOf ops j a) w) → Q .normal a w) : (Code.region id ops true).wp P Q a0 w0 := by
  refine wp_region_any hm (any_inv (fun listed a w => listed.size = ops.size ∧ a.tmps.size = a0.tmps.size ∧ a.defers = a0.defers ∧ (∀ t, (∀ j, j < ops.size → dstOf ops j ≠ some t) → a.tmps.getD t undef = a0.tmps.getD t undef) ∧ Ev w0.drew w ∧ ∀ j, j < ops.size → listed.getD j false = true → E j (slotOf ops j a) w) ?_ ?_ _ _ _ _ (by simp) ⟨by simp, rfl, rfl, fun _ _ => rfl, hrf, ?_⟩)
  · rintro listed a w ⟨hl, h1, h2, h3, h4, h5⟩ i hi
    have hlt : i < ops.size := by
      have := ready_at hi
      have := (Array.getElem?_eq_some_iff.1 this).1
      omega
    have ho : ops[i]? = some ops[i] := Array.getElem?_eq_getElem hlt
    refine wpOp_mono (fun a' w' h' => ?_) (hstep i _ ho a w h1 h2 h3 h4 fun j hj => h5 j ?_ (deps_done hi j hj))
    · obtain ⟨v, rfl, he, hE⟩ := h'
      have hsz : (a.put ops[i].dst v).tmps.size = a.tmps.size := by
        cases hdst : ops[i].dst <;> simp [Act.put]
      refine ⟨by simpa using hl, hsz.trans h1, ?_, ?_, htr _ _ _ h4 he, ?_⟩
      · rw [← h2]
        cases hdst : ops[i].dst <;> simp [Act.put]
      · intro t htt
        rw [← h3 t htt]
        cases hdst : ops[i].dst with
        | none => rfl
        | some d =>
          have hne : d ≠ t := by
            intro e
            subst e
            exact htt i hlt (by unfold dstOf; rw [ho]; exact hdst)
          simp only [Act.put]
          rw [Array.getD_eq_getD_getElem?, Array.getD_eq_getD_getElem?, Array.getElem?_setIfInBounds_ne hne]
      · intro j hj hlj
        by_cases hji : j = i
        · subst hji
          by_cases hdst : ops[j].dst = none
          · rw [if_pos hdst] at hE
            have : slotOf ops j (a.put ops[j].dst v) = undef := by
              unfold slotOf dstOf
              rw [ho]
              simp only [Option.bind_some, hdst]
            rw [this]
            exact hE
          · rw [if_neg hdst] at hE
            rw [slot_put ho h1 hd hdst]
            exact hE
        · rw [slot_keep ho hj hji hd]
          refine hst j _ w w' h4 he (h5 j hj ?_)
          rw [Array.getD_eq_getD_getElem?, Array.getElem?_setIfInBounds_ne (Ne.symm hji), ← Array.getD_eq_getD_getElem?] at hlj
          exact hlj
    · unfold topoB at ht
      have k1 := List.all_eq_true.1 ht i (List.mem_range.2 hlt)
      have k2 := List.all_eq_true.1 k1 _ hj
      simp only [decide_eq_true_eq] at k2
      omega
  · rintro listed a w ⟨hl, h1, h2, h3, h4, h5⟩ hr
    exact hdone a w h1 h2 h3 h4 fun j hj => h5 j hj (all_done hl ht hr j hj)
  · intro j hj hf
    rw [Array.getD_eq_getD_getElem?] at hf
    rw [Array.getElem?_replicate, if_pos hj] at hf
    cases hf
end Go.Proofs.YtlhnfejgkhilkaaGreatDoor

namespace Go.Proofs.YtlhnfejgkhilkaaGreatDoor
/-- A fact of each operation of a list, numbered from k on. -/
def AllOps (S : Nat → Oper → Prop) : Nat → List Oper → Prop
  | _, [] => True
  | k, o :: l => S k o ∧ AllOps S (k + 1) l
theorem AllOps.at {S : Nat → Oper → Prop} : ∀ {l : List Oper} {k : Nat}, AllOps S k l → ∀ i o, l[i]? = some o → S (k + i) o
  | [], _, _, i, o, h => by simp at h
  | x :: l, k, hh, 0, o, h => by
    simp at h
    subst h
    exact hh.1
  | x :: l, k, hh, i + 1, o, h => by
    have := AllOps.at hh.2 i o (by simpa using h)
    rw [Nat.add_assoc, Nat.add_comm 1 i] at this
    exact this
/-- The slot of number j, by the list of slots. -/
def slotL (ds : List (Option Nat)) (j : Nat) (a : Act) : Value := match ds.getD j none with | some d => a.eval (.tmp d) | none => undef
def depsO (o : Oper) : List Nat := o.after.toList.filterMap fun e => if Region.binds .any e then some e.on else none
/-- No fact. -/
def dead : Value → World → Prop := fun _ _ => False
theorem slot_ds {ops : Array Oper} {ds : List (Option Nat)} (h : ops.toList.map (·.dst) = ds) (j : Nat) (a : Act) : slotOf ops j a = slotL ds j a := by
  subst h
  unfold slotOf slotL dstOf
  rw [List.getD_eq_getElem?_getD, List.getElem?_map, Array.getElem?_toList]
  cases ops[j]? with
  | none => rfl
  | some o => cases ho : o.dst <;> simp [ho, Act.eval]
theorem ds_at {ops : Array Oper} {ds : List (Option Nat)} (h : ops.toList.map (·.dst) = ds) {j : Nat} : dstOf ops j = ds.getD j none := by
  subst h
  unfold dstOf
  rw [List.getD_eq_getElem?_getD, List.getElem?_map, Array.getElem?_toList]
  cases ops[j]? <;> rfl
section
variable {P : Program} {ops : Array Oper} {Q : Exit → Act → World → Prop} {i : Nat} {o : Oper} {K : Act → World → Prop} {a : Act} {w w' : World}
theorem og_none (ho : ops[i]? = some o) (hg : o.guard = none) (h : o.wp P a w K Q) : wpOp P ops Q i K a w := by
  unfold wpOp
  rw [ho]
  simp only [Region.wanted, hg, if_true]
  exact Or.inl h
theorem yield_ds {ds : List (Option Nat)} (hd : ops.toList.map (·.dst) = ds) {j : Nat} {b : Bool} (h : slotL ds j a = .bool b) : yielded ops a.tmps j = some b := by
  have e := ds_at hd (j := j)
  unfold dstOf at e
  unfold slotL at h
  unfold yielded
  rw [e]
  cases hx : ds.getD j none with
  | none => rw [hx] at h; simp [undef] at h
  | some d =>
    rw [hx] at h
    simp only [Act.eval, Array.getD_eq_getD_getElem?] at h
    simp only [Option.bind_some]
    cases hy : a.tmps[d]? with
    | none => rw [hy] at h; simp [undef] at h
    | some v => rw [hy] at h; simp at h; rw [h]
theorem og_on {ds : List (Option Nat)} (hd : ops.toList.map (·.dst) = ds) (ho : ops[i]? = some o) {j : Nat} {b : Bool} (hg : o.guard = some (j, b)) (hs : slotL ds j a = .bool b) (h : o.wp P a w K Q) : wpOp P ops Q i K a w := by
  unfold wpOp
  rw [ho]
  simp only [Region.wanted, hg, yield_ds hd hs]
  simp only [BEq.rfl, if_true]
  exact Or.inl h
theorem og_off {ds : List (Option Nat)} (hd : ops.toList.map (·.dst) = ds) (ho : ops[i]? = some o) {j : Nat} {b : Bool} (hg : o.guard = some (j, b)) (hs : slotL ds j a = .bool (!b)) (h : K (a.put o.dst undef) w) : wpOp P ops Q i K a w := by
  unfold wpOp
  rw [ho]
  simp only [Region.wanted, hg, yield_ds hd hs]
  cases b <;> exact h
theorem ow_value {v : Value} (hrun : (execOp a.eval o).run P w = .ok (.value v) w') (hK : K (a.put o.dst v) w') : o.wp P a w K Q := by
  unfold Oper.wp
  rw [hrun]
  exact hK
theorem ow_enter {f : FuncId} {args : Array Value} (hrun : (execOp a.eval o).run P w = .ok (.enter f args) w')
    (hc : Calls P f args w' fun e w2 => ∃ v, e = .returned v ∧ K (a.put o.dst v) w2) : o.wp P a w K Q := by
  unfold Oper.wp
  rw [hrun]
  refine hc.mono ?_
  rintro e w2 ⟨v, rfl, hK⟩
  exact hK
end
/-- One operation, run or passed over by its guard. -/
def OpGo (P : Program) (Q : Exit → Act → World → Prop) (ds : List (Option Nat)) (o : Oper) (K : Act → World → Prop) (a : Act) (w : World) : Prop :=
  (o.guard = none ∧ o.wp P a w K Q) ∨ (∃ j b, o.guard = some (j, b) ∧ slotL ds j a = .bool b ∧ o.wp P a w K Q) ∨ (∃ j b, o.guard = some (j, b) ∧ slotL ds j a = .bool (!b) ∧ K (a.put o.dst undef) w)
/-- What lies in the slot behind it. -/
def dstV : Option Nat → Value → Value
  | none, _ => undef
  | some _, v => v
/-- What each operation must show. -/
def Stp (P : Program) (Q : Exit → Act → World → Prop) (a0 : Act) (w0 : World) (Ev : World → World → Prop) (Es : List (Value → World → Prop)) (ds : List (Option Nat)) (i : Nat) (o : Oper) : Prop :=
  ∀ a w, (∀ t, (some t) ∉ ds → a.eval (.tmp t) = a0.eval (.tmp t)) → Ev w0 w → (∀ j ∈ depsO o, Es.getD j dead (slotL ds j a) w) →
    OpGo P Q ds o (fun a' w' => ∃ v, a' = a.put o.dst v ∧ Ev w w' ∧ Es.getD i dead (dstV o.dst v) w') a w
theorem region_list {P : Program} {ops : Array Oper} {Q : Exit → Act → World → Prop} {id : Nat} {a0 : Act} {w0 : World} (hm : P.follows .mixedOrders = true)
    (Ev : World → World → Prop) (Es : List (Value → World → Prop)) (ds : List (Option Nat)) (hds : ops.toList.map (·.dst) = ds)
    (htr : ∀ x y z, Ev x y → Ev y z → Ev x z) (hrf : Ev w0.drew w0.drew)
    (hst : ∀ p ∈ Es, ∀ v w w', Ev w0.drew w → Ev w w' → p v w → p v w')
    (ht : topoB ops = true) (hd : dstsB ops a0.tmps.size = true)
    (hstep : AllOps (Stp P Q a0 w0.drew Ev Es ds) 0 ops.toList)
    (hdone : ∀ a w, a.tmps.size = a0.tmps.size → a.defers = a0.defers → (∀ t, (some t) ∉ ds → a.eval (.tmp t) = a0.eval (.tmp t)) → Ev w0.drew w →
      (∀ j, j < ds.length → Es.getD j dead (slotL ds j a) w) → Q .normal a w) : (Code.region id ops true).wp P Q a0 w0 := by
  have hfx : ∀ a : Act, (∀ t, (∀ j, j < ops.size → dstOf ops j ≠ some t) → a.tmps.getD t undef = a0.tmps.getD t undef) → ∀ t, (some t) ∉ ds → a.eval (.tmp t) = a0.eval (.tmp t) := by
    intro a h t ht
    refine h t fun j hj e => ht ?_
    rw [ds_at hds] at e
    rw [List.getD_eq_getElem?_getD] at e
    cases hx : ds[j]? with
    | none => rw [hx] at e; simp at e
    | some y => rw [hx] at e; simp at e; rw [← e]; exact List.mem_of_getElem? hx
  refine region_facts hm Ev (fun j => Es.getD j dead) htr hrf ?_ ht hd ?_ ?_
  · intro j v w w' h1 h2 h3
    cases hx : Es[j]? with
    | none =>
      rw [List.getD_eq_getElem?_getD, hx] at h3
      exact absurd h3 (by simp [dead])
    | some p =>
      rw [List.getD_eq_getElem?_getD, hx] at h3 ⊢
      exact hst p (List.mem_of_getElem? hx) v w w' h1 h2 h3
  · intro i o ho a w h1 h2 h3 h4 h5
    have hS := AllOps.at hstep i o (by simpa using ho)
    rw [Nat.zero_add] at hS
    have hS2 := hS a w (hfx a h3) h4 fun j hj => by
      rw [← slot_ds hds]
      refine h5 j ?_
      unfold depsOf
      rw [ho]
      exact hj
    have hK : ∀ (a' : Act) (w' : World), (∃ v, a' = a.put o.dst v ∧ Ev w w' ∧ Es.getD i dead (dstV o.dst v) w') → ∃ v, a' = a.put o.dst v ∧ Ev w w' ∧ (fun j => Es.getD j dead) i (if o.dst = none then undef else v) w' := by
      rintro a' w' ⟨v, rfl, k1, k2⟩
      refine ⟨v, rfl, k1, ?_⟩
      cases hdst : o.dst with
      | none => rw [hdst] at k2; exact k2
      | some d => rw [hdst] at k2; rw [if_neg (by simp)]; exact k2
    rcases hS2 with ⟨hg, hw⟩ | ⟨j, b, hg, hs, hw⟩ | ⟨j, b, hg, hs, hw⟩
    · exact wpOp_mono hK (og_none ho hg hw)
    · exact wpOp_mono hK (og_on hds ho hg hs hw)
    · exact og_off hds ho hg hs (hK _ _ hw)
  · intro a w h1 h2 h3 h4 h5
    refine hdone a w h1 h2 (hfx a h3) h4 fun j hj => ?_
    rw [← slot_ds hds]
    refine h5 j ?_
    rw [← hds] at hj
    simpa using hj
theorem with_act {P : Program} {c : Code} {Q : Exit → Act → World → Prop} {a : Act} {W : World} (F : Act → Prop) (hF : F a) (h : ∀ ax, F ax → Code.wp P c Q ax W) : Code.wp P c Q a W := h a hF
/-- The facts of a list, each kept. -/
def Kept (Ev : World → World → Prop) (w0 : World) (p : Value → World → Prop) : Prop := ∀ v w w', Ev w0 w → Ev w w' → p v w → p v w'
theorem kept_nil {Ev : World → World → Prop} {w0 : World} : ∀ p ∈ ([] : List (Value → World → Prop)), Kept Ev w0 p := fun _ h => by cases h
theorem kept_cons {Ev : World → World → Prop} {w0 : World} {p : Value → World → Prop} {l : List (Value → World → Prop)} (h : Kept Ev w0 p) (hl : ∀ q ∈ l, Kept Ev w0 q) : ∀ q ∈ p :: l, Kept Ev w0 q := fun q hq => by
  rcases List.mem_cons.1 hq with rfl | hq
  · exact h
  · exact hl q hq
theorem kept_eq {Ev : World → World → Prop} {w0 : World} (c : Value) : Kept Ev w0 (fun v _ => v = c) := fun _ _ _ _ _ h => h
end Go.Proofs.YtlhnfejgkhilkaaGreatDoor

namespace Go.Proofs.YtlhnfejgkhilkaaGreatDoor
theorem region_acts {P : Program} {ops : Array Oper} {Q : Exit → Act → World → Prop} {id : Nat} {a0 : Act} {w0 : World} (hm : P.follows .mixedOrders = true) (ht : topoB ops = true)
    (I : (Nat → Prop) → Act → World → Prop) (h0 : I (fun _ => False) a0 w0.drew)
    (hstep : AllOps (fun i o => ∀ (done : Nat → Prop) a w, ¬ done i → (∀ j ∈ depsO o, done j) → I done a w → wpOp P ops Q i (I (fun j => done j ∨ j = i)) a w) 0 ops.toList)
    (hdone : ∀ (done : Nat → Prop) a w, (∀ j, j < ops.size → done j) → I done a w → Q .normal a w) : (Code.region id ops true).wp P Q a0 w0 := by
  refine wp_region_any hm (any_inv (fun listed a w => listed.size = ops.size ∧ I (fun j => listed.getD j false = true) a w) ?_ ?_ _ _ _ _ (by simp) ⟨by simp, ?_⟩)
  · rintro listed a w ⟨hl, hI⟩ i hi
    have hat := ready_at hi
    have hlt : i < ops.size := by
      have := (Array.getElem?_eq_some_iff.1 hat).1
      omega
    have ho : ops[i]? = some ops[i] := Array.getElem?_eq_getElem hlt
    have hS := AllOps.at hstep i ops[i] (by rw [Array.getElem?_toList]; exact ho)
    rw [Nat.zero_add] at hS
    have hif : listed.getD i false = false := by rw [Array.getD_eq_getD_getElem?, hat]; rfl
    refine wpOp_mono (fun a' w' h' => ?_) (hS _ a w (by rw [hif]; simp) (fun j hj => deps_done hi j (by unfold depsOf; rw [ho]; exact hj)) hI)
    refine ⟨by simpa using hl, ?_⟩
    have e : (fun j => (listed.setIfInBounds i true).getD j false = true) = fun j => listed.getD j false = true ∨ j = i := by
      funext j
      by_cases hji : j = i
      · subst hji
        rw [Array.getD_eq_getD_getElem?, Array.getElem?_setIfInBounds_self_of_lt (by omega)]
        simp
      · rw [Array.getD_eq_getD_getElem?, Array.getElem?_setIfInBounds_ne (Ne.symm hji), ← Array.getD_eq_getD_getElem?]
        simp [hji]
    rw [e]
    exact h'
  · rintro listed a w ⟨hl, hI⟩ hr
    exact hdone _ a w (fun j hj => all_done hl ht hr j hj) hI
  · have e : (fun j => (Array.replicate ops.size false).getD j false = true) = fun _ => False := by
      funext j
      rw [Array.getD_eq_getD_getElem?, Array.getElem?_replicate]
      split <;> simp
    rw [e]
    exact h0
section
variable {a : Act} {d : Nat} {v : Value}
theorem put_at (h : d < a.tmps.size) : (a.put (some d) v).eval (.tmp d) = v := by
  simp only [Act.put, Act.eval]
  rw [Array.getD_eq_getD_getElem?, Array.getElem?_setIfInBounds_self_of_lt h]
  rfl
theorem put_off {t : Nat} (h : d ≠ t) : (a.put (some d) v).eval (.tmp t) = a.eval (.tmp t) := by
  simp only [Act.put, Act.eval]
  rw [Array.getD_eq_getD_getElem?, Array.getD_eq_getD_getElem?, Array.getElem?_setIfInBounds_ne h]
theorem put_size (o : Option Nat) : (a.put o v).tmps.size = a.tmps.size := by cases o <;> simp [Act.put]
theorem put_defers (o : Option Nat) : (a.put o v).defers = a.defers := by cases o <;> simp [Act.put]
theorem put_no (t : Nat) : (a.put none v).eval (.tmp t) = a.eval (.tmp t) := rfl
end
end Go.Proofs.YtlhnfejgkhilkaaGreatDoor
