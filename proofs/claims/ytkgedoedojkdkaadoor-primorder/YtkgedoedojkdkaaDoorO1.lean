/-
  A law for a region that draws its order: what holds of each set of operations done, and is kept by each that may come next, holds at the end, in whatever order. One step a set and operation, not one walk an order.
-/
import Derived.Test.YtkgedoedojkdkaaDoorT1
import Derived.Orders
namespace Go.Proofs.YtkgedoedojkdkaaDoor
open Go.RowKit
theorem count_set (l : List Bool) (i : Nat) (h : l[i]? = some false) : (l.set i true).count false + 1 = l.count false := by
  induction l generalizing i with
  | nil => simp at h
  | cons b l ih =>
    cases i with
    | zero =>
      simp at h
      subst h
      simp
    | succ i =>
      have := ih i (by simpa using h)
      simp only [List.set_cons_succ, List.count_cons]
      omega
theorem ready_at {md : Region.Mode} {ops : Array Oper} {listed : Array Bool} {i : Nat} (h : i ∈ Region.ready md ops listed) : listed[i]? = some false := by
  unfold Region.ready at h
  have h2 := (List.mem_filter.1 h).2
  simp only [Bool.and_eq_true, Bool.not_eq_true'] at h2
  have h3 := h2.1
  rw [Array.getD_eq_getD_getElem?] at h3
  cases e : listed[i]? with
  | none => rw [e] at h3; simp at h3
  | some b => rw [e] at h3; simp at h3; rw [h3]
theorem any_inv {P : Program} {ops : Array Oper} {Q : Exit → Act → World → Prop} {md : Region.Mode} (I : Array Bool → Act → World → Prop)
    (hstep : ∀ listed a w, I listed a w → ∀ i ∈ Region.ready md ops listed, wpOp P ops Q i (I (listed.setIfInBounds i true)) a w)
    (hdone : ∀ listed a w, I listed a w → Region.ready md ops listed = [] → Q .normal a w) :
    ∀ (fuel : Nat) (listed : Array Bool) (a : Act) (w : World), listed.toList.count false ≤ fuel → I listed a w → wpAny P md ops Q fuel listed a w
  | 0, listed, a, w, hc, h => by
    have hr : Region.ready md ops listed = [] := by
      apply List.eq_nil_iff_forall_not_mem.2
      intro i hi
      have h1 := ready_at hi
      have h2 : false ∈ listed.toList := by
        rw [← Array.getElem?_toList] at h1
        exact List.mem_of_getElem? h1
      have := List.count_pos_iff.2 h2
      omega
    exact ⟨hr, hdone _ _ _ h hr⟩
  | fuel + 1, listed, a, w, hc, h => by
    refine ⟨fun hr => hdone _ _ _ h hr, fun i hi => wpOp_mono (fun a' w' h' => ?_) (hstep _ _ _ h i hi)⟩
    refine any_inv I hstep hdone fuel _ a' w' ?_ h'
    have h1 := ready_at hi
    rw [← Array.getElem?_toList] at h1
    have := count_set listed.toList i h1
    rw [Array.toList_setIfInBounds]
    omega
theorem region_inv {P : Program} {ops : Array Oper} {Q : Exit → Act → World → Prop} {id : Nat} {a : Act} {w : World} (hm : P.follows .mixedOrders = true) (I : Array Bool → Act → World → Prop)
    (hstep : ∀ listed a w, I listed a w → ∀ i ∈ Region.ready .any ops listed, wpOp P ops Q i (I (listed.setIfInBounds i true)) a w)
    (hdone : ∀ listed a w, I listed a w → Region.ready .any ops listed = [] → Q .normal a w)
    (h : I (Array.replicate ops.size false) a w.drew) : (Code.region id ops true).wp P Q a w :=
  wp_region_any hm (any_inv I hstep hdone _ _ _ _ (by simp) h)
end Go.Proofs.YtkgedoedojkdkaaDoor
