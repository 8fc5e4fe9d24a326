/-
  What two agree upon, family by family: it is what their lists have in common.
-/
import Derived.Test.YtlhnfejgkhilkaaGreatDoorZ2
import Derived.Test.YtlhnfejgkhilkaaGreatDoorAG3
set_option linter.unusedVariables false
set_option linter.unusedSimpArgs false
namespace Go.Proofs.YtlhnfejgkhilkaaGreatDoor
open Go.RowKit
/-- The first n families. -/
def upto (n : Nat) : List Int := (List.range n).map fun (i : Nat) => (i : Int) + 1
theorem upto_succ (n : Nat) : upto (n + 1) = upto n ++ [(n : Int) + 1] := by unfold upto; rw [List.range_succ, List.map_append]; rfl
def cmn (a b : Opn) (f : Int) : Bool := decide (f ∈ a.fams) && decide (f ∈ b.fams)
def sndB (a b : Opn) (f : Int) : Bool := (addF a.adds f).s && (addF b.adds f).t
def tkeB (a b : Opn) (f : Int) : Bool := (addF a.adds f).t && (addF b.adds f).s
def FN (a b : Opn) (n : Nat) : List Int := (upto n).filter (cmn a b)
def SN (a b : Opn) (n : Nat) : List Int := (FN a b n).filter (sndB a b)
def TN (a b : Opn) (n : Nat) : List Int := (FN a b n).filter (tkeB a b)
def KN (a b : Opn) (n : Nat) : List Kp := (FN a b n).flatMap fun f => b.kept.filter fun k => k.f == f
theorem FN_no {a b : Opn} {n : Nat} (h : cmn a b ((n : Int) + 1) = false) : FN a b (n + 1) = FN a b n := by unfold FN; rw [upto_succ, List.filter_append]; simp [h]
theorem FN_yes {a b : Opn} {n : Nat} (h : cmn a b ((n : Int) + 1) = true) : FN a b (n + 1) = FN a b n ++ [(n : Int) + 1] := by unfold FN; rw [upto_succ, List.filter_append]; simp [h]
theorem SN_no {a b : Opn} {n : Nat} (h : cmn a b ((n : Int) + 1) = true) (h2 : sndB a b ((n : Int) + 1) = false) : SN a b (n + 1) = SN a b n := by unfold SN; rw [FN_yes h, List.filter_append]; simp [h2]
theorem SN_yes {a b : Opn} {n : Nat} (h : cmn a b ((n : Int) + 1) = true) (h2 : sndB a b ((n : Int) + 1) = true) : SN a b (n + 1) = SN a b n ++ [(n : Int) + 1] := by unfold SN; rw [FN_yes h, List.filter_append]; simp [h2]
theorem TN_no {a b : Opn} {n : Nat} (h : cmn a b ((n : Int) + 1) = true) (h2 : tkeB a b ((n : Int) + 1) = false) : TN a b (n + 1) = TN a b n := by unfold TN; rw [FN_yes h, List.filter_append]; simp [h2]
theorem TN_yes {a b : Opn} {n : Nat} (h : cmn a b ((n : Int) + 1) = true) (h2 : tkeB a b ((n : Int) + 1) = true) : TN a b (n + 1) = TN a b n ++ [(n : Int) + 1] := by unfold TN; rw [FN_yes h, List.filter_append]; simp [h2]
theorem KN_yes {a b : Opn} {n : Nat} (h : cmn a b ((n : Int) + 1) = true) : KN a b (n + 1) = KN a b n ++ b.kept.filter (fun k => k.f == (n : Int) + 1) := by unfold KN; rw [FN_yes h, List.flatMap_append]; simp
theorem all_no {a b : Opn} {n : Nat} (h : cmn a b ((n : Int) + 1) = false) : FN a b (n + 1) = FN a b n ∧ SN a b (n + 1) = SN a b n ∧ TN a b (n + 1) = TN a b n ∧ KN a b (n + 1) = KN a b n := by
  unfold SN TN KN
  rw [FN_no h]
  exact ⟨rfl, rfl, rfl, rfl⟩
theorem risF_all {l : Int} {L : List Int} (h : risF l L = true) : ∀ x ∈ L, l < x ∧ 1 ≤ x ∧ x ≤ 5 := by
  induction L generalizing l with
  | nil => intro x hx; cases hx
  | cons f r ih =>
    unfold risF at h
    simp only [Bool.and_eq_true, decide_eq_true_eq] at h
    intro x hx
    rcases List.mem_cons.1 hx with rfl | hx
    · exact ⟨h.1.2, isF_bd h.1.1⟩
    · have := ih h.2 x hx
      exact ⟨by omega, this.2⟩
theorem five : upto 5 = [1, 2, 3, 4, 5] := by decide
/-- A rising list is told by what is in it. -/
theorem ris_eq {l : Int} {L : List Int} (h : risF l L = true) : L = (upto 5).filter fun f => decide (f ∈ L) := by
  rw [five]
  induction L generalizing l with
  | nil => simp
  | cons f r ih =>
    unfold risF at h
    simp only [Bool.and_eq_true, decide_eq_true_eq] at h
    have hr := ih h.2
    have hno := risF_all h.2
    have hn : ∀ k : Int, k ≤ f → k ∉ r := fun k hk hm => by have := hno k hm; omega
    obtain ⟨h1, h5⟩ := isF_bd h.1.1
    have hc : f = 1 ∨ f = 2 ∨ f = 3 ∨ f = 4 ∨ f = 5 := by omega
    conv at hr => rhs; simp only [List.filter_cons, List.filter_nil]
    rcases hc with rfl | rfl | rfl | rfl | rfl
    · rw [if_neg (by simpa using hn 1 (by decide))] at hr
      simp only [List.filter_cons, List.filter_nil, List.mem_cons]
      simpa using hr
    · rw [if_neg (by simpa using hn 1 (by decide)), if_neg (by simpa using hn 2 (by decide))] at hr
      simp only [List.filter_cons, List.filter_nil, List.mem_cons]
      simp [hn 1 (by decide)]
      simpa using hr
    · rw [if_neg (by simpa using hn 1 (by decide)), if_neg (by simpa using hn 2 (by decide)), if_neg (by simpa using hn 3 (by decide))] at hr
      simp only [List.filter_cons, List.filter_nil, List.mem_cons]
      simp [hn 1 (by decide), hn 2 (by decide)]
      simpa using hr
    · rw [if_neg (by simpa using hn 1 (by decide)), if_neg (by simpa using hn 2 (by decide)), if_neg (by simpa using hn 3 (by decide)), if_neg (by simpa using hn 4 (by decide))] at hr
      simp only [List.filter_cons, List.filter_nil, List.mem_cons]
      simp [hn 1 (by decide), hn 2 (by decide), hn 3 (by decide)]
      simpa using hr
    · rw [if_neg (by simpa using hn 1 (by decide)), if_neg (by simpa using hn 2 (by decide)), if_neg (by simpa using hn 3 (by decide)), if_neg (by simpa using hn 4 (by decide)), if_neg (by simpa using hn 5 (by decide))] at hr
      simp only [List.filter_cons, List.filter_nil, List.mem_cons]
      simp [hn 1 (by decide), hn 2 (by decide), hn 3 (by decide), hn 4 (by decide)]
      simpa using hr
theorem fams_eq {a b : Opn} (ha : risF 0 a.fams = true) : FN a b 5 = famsA a b := by
  have e := ris_eq ha
  unfold famsA both FN
  conv => rhs; rw [e]
  rw [List.filter_filter]
  refine List.filter_congr fun x _ => ?_
  unfold cmn
  rw [Bool.and_comm]
theorem adds_mem (sel : Ad → Bool) (hz : sel zAd = false) {l : Int} {L : List Ad} (h : risF l (L.map (·.f)) = true) (f : Int) : sel (addF L f) = decide (f ∈ addsL sel L) := by
  induction L generalizing l with
  | nil => unfold addF addsL; simpa using hz
  | cons x r ih =>
    rw [List.map_cons] at h
    unfold risF at h
    simp only [Bool.and_eq_true, decide_eq_true_eq] at h
    have hr := ih h.2
    have hno := risF_all h.2
    by_cases e : x.f = f
    · have hn : f ∉ addsL sel r := fun hm => by
        unfold addsL at hm
        obtain ⟨y, hy, e2⟩ := List.mem_map.1 hm
        have := hno y.f (List.mem_map.2 ⟨y, (List.mem_filter.1 hy).1, rfl⟩)
        omega
      unfold addF
      rw [List.find?_cons_of_pos (by simpa using e)]
      unfold addsL at hn ⊢
      rw [List.filter_cons]
      cases hs : sel x with
      | true => simp [e, hs]
      | false =>
        simp only [Option.getD_some, hs]
        rw [if_neg (by simp)]
        exact (decide_eq_false hn).symm
    · unfold addF at hr ⊢
      rw [List.find?_cons_of_neg (by simpa using e), hr]
      unfold addsL
      rw [List.filter_cons]
      have e' : f ≠ x.f := fun h => e h.symm
      cases hs : sel x with
      | true => rw [if_pos rfl, List.map_cons]; simp [e']
      | false => rw [if_neg (by simp)]
theorem kept_flat (p : Int → Bool) {l : Int} {L : List Kp} (h : risF l (L.map (·.f)) = true) : ((upto 5).filter p).flatMap (fun f => L.filter fun k => k.f == f) = L.filter fun k => p k.f := by
  rw [five]
  induction L generalizing l with
  | nil => simp
  | cons x r ih =>
    rw [List.map_cons] at h
    unfold risF at h
    simp only [Bool.and_eq_true, decide_eq_true_eq] at h
    have hr := ih h.2
    have hno := risF_all h.2
    have hn : ∀ k : Int, k ≤ x.f → (r.filter fun y => y.f == k) = [] := fun k hk => List.filter_eq_nil_iff.2 fun y hy e => by
      have := hno y.f (List.mem_map.2 ⟨y, hy, rfl⟩)
      simp at e
      omega
    obtain ⟨h1, h5⟩ := isF_bd h.1.1
    obtain ⟨f, k⟩ := x
    dsimp only at *
    have hc : f = 1 ∨ f = 2 ∨ f = 3 ∨ f = 4 ∨ f = 5 := by omega
    have e0 : List.filter (fun y : Kp => p y.f) ({ f := f, k := k } :: r) = if p f = true then { f := f, k := k } :: List.filter (fun y : Kp => p y.f) r else List.filter (fun y : Kp => p y.f) r := List.filter_cons
    rw [e0, ← hr]
    clear e0 hr ih
    rcases hc with rfl | rfl | rfl | rfl | rfl <;>
    · have q1 := hn 1 (by decide)
      try have q2 := hn 2 (by decide)
      try have q3 := hn 3 (by decide)
      try have q4 := hn 4 (by decide)
      try have q5 := hn 5 (by decide)
      clear hn hno h h1 h5
      cases p1 : p 1 <;> cases p2 : p 2 <;> cases p3 : p 3 <;> cases p4 : p 4 <;> cases p5 : p 5 <;> simp [List.filter_cons, *]
end Go.Proofs.YtlhnfejgkhilkaaGreatDoor
