/-
  filled: a wheel of timers by small numbers, in their order or turned round.
-/
import Derived.Test.YtgplhdhnailpfaaF2
set_option linter.unusedSimpArgs false
set_option maxRecDepth 100000
namespace Go.Proofs.Ytgplhdhnailpfaa
open Go.RowKit Go.Maps
theorem nameB_of (n : Nat) : nameB (ofP n) = true := by
  have h : ∀ m, m < 5 → nameB ⟨#[UInt8.ofNat (97 + m)]⟩ = true := by decide
  exact h (n % 5) (by omega)
theorem mayK_of (x : St) : mayK (ofK x) = true := by
  unfold mayK
  rw [show (ofK x).peer = ofP x.peer from rfl, nameB_of]
  have h1 : (1 : Int) ≤ (ofK x).kind ∧ (ofK x).kind ≤ 7 := by show (1 : Int) ≤ 1 + ((x.kind : Int)) % 7 ∧ 1 + ((x.kind : Int)) % 7 ≤ 7; omega
  have h2 : (0 : Int) ≤ (ofK x).fam ∧ (ofK x).fam ≤ 5 := by show (0 : Int) ≤ ((x.fam : Int)) % 6 ∧ ((x.fam : Int)) % 6 ≤ 5; omega
  simp [h1, h2]
theorem arm_of {L : List Fd} (x : St) (h : L.length < 1024) : armE L (ofK x) x.tick = 0 ∧ armI L (ofK x) x.tick = armed L (ofK x) x.tick := by
  have h0 : armE L (ofK x) x.tick = 0 := armE_ok (mayK_of x) (by have := x.ok; omega) (Or.inr h)
  exact ⟨h0, armI_ok h0⟩
/-- One more timer. -/
def stepA (L : List Fd) (x : St) : List Fd := armed L (ofK x) x.tick
/-- One more timer, if there is none of its key. -/
def stepB (L : List Fd) (x : St) : List Fd := if (lookF L (ofK x)).isSome then L else armed L (ofK x) x.tick
theorem Whl.stepA {L : List Fd} (h : Whl L) (x : St) : Whl (stepA L x) := h.armed _ _ (by have := x.ok; omega)
theorem Whl.stepB {L : List Fd} (h : Whl L) (x : St) : Whl (stepB L x) := by
  unfold Go.Proofs.Ytgplhdhnailpfaa.stepB
  split
  · exact h
  · exact h.armed _ _ (by have := x.ok; omega)
theorem stepA_len {L : List Fd} (h : Whl L) (x : St) : (stepA L x).length ≤ L.length + 1 := by
  unfold stepA; rw [len_armed h.once]; split <;> omega
theorem stepB_len {L : List Fd} (h : Whl L) (x : St) : (stepB L x).length ≤ L.length + 1 := by
  unfold stepB
  split
  · omega
  · rw [len_armed h.once]; split <;> omega
/-- All timers of a list, one behind the other. -/
def fillA (l : List St) : List Fd := l.foldl stepA []
def fillB (l : List St) : List Fd := l.foldl stepB []
theorem fillA_snoc (l : List St) (x : St) : fillA (l ++ [x]) = stepA (fillA l) x := by simp [fillA]
theorem fillB_snoc (l : List St) (x : St) : fillB (l ++ [x]) = stepB (fillB l) x := by simp [fillB]
theorem snoc_ind {α : Type} {P : List α → Prop} (h0 : P []) (h1 : ∀ l x, P l → P (l ++ [x])) (l : List α) : P l := by
  rw [← List.reverse_reverse l]
  induction l.reverse with
  | nil => exact h0
  | cons a r ih => rw [List.reverse_cons]; exact h1 _ _ ih
theorem fillA_whl (l : List St) : Whl (fillA l) ∧ (fillA l).length ≤ l.length := by
  refine snoc_ind (P := fun l => Whl (fillA l) ∧ (fillA l).length ≤ l.length) ⟨Whl.nil, Nat.le_refl _⟩ (fun l x ih => ?_) l
  rw [fillA_snoc]
  exact ⟨ih.1.stepA x, by have := stepA_len ih.1 x; simp; omega⟩
theorem fillB_whl (l : List St) : Whl (fillB l) ∧ (fillB l).length ≤ l.length := by
  refine snoc_ind (P := fun l => Whl (fillB l) ∧ (fillB l).length ≤ l.length) ⟨Whl.nil, Nat.le_refl _⟩ (fun l x ih => ?_) l
  rw [fillB_snoc]
  exact ⟨ih.1.stepB x, by have := stepB_len ih.1 x; simp; omega⟩
/-- The first one of a key. -/
def firstT (l : List St) (k : Ky) : Option Nat := (l.find? fun x => keyB (ofK x) k).map (·.tick)
theorem mem_fillA (l : List St) : ∀ t k, (⟨t, k⟩ : Fd) ∈ fillA l ↔ firstT l.reverse k = some t := by
  refine snoc_ind (P := fun l => ∀ t k, (⟨t, k⟩ : Fd) ∈ fillA l ↔ firstT l.reverse k = some t) ?_ (fun l x ih => ?_) l
  · intro t k; simp [fillA, firstT]
  · intro t k
    rw [fillA_snoc]
    unfold stepA
    rw [mem_armed, ih, List.reverse_append]
    unfold firstT
    simp only [List.reverse_cons, List.reverse_nil, List.nil_append, List.singleton_append, List.find?_cons]
    by_cases e : ofK x = k
    · rw [keyB_iff.2 e]
      simp only [Option.map_some, Option.some.injEq]
      constructor
      · rintro (h | ⟨_, h⟩)
        · injection h with h _; exact h.symm
        · exact absurd e.symm h
      · intro h; exact Or.inl (by rw [h, e])
    · rw [keyB_ne e]
      constructor
      · rintro (h | ⟨h, _⟩)
        · injection h with _ h; exact absurd h.symm e
        · exact h
      · intro h; exact Or.inr ⟨h, fun e' => e e'.symm⟩
theorem mem_fillB (l : List St) : ∀ t k, (⟨t, k⟩ : Fd) ∈ fillB l ↔ firstT l k = some t := by
  refine snoc_ind (P := fun l => ∀ t k, (⟨t, k⟩ : Fd) ∈ fillB l ↔ firstT l k = some t) ?_ (fun l x ih => ?_) l
  · intro t k; simp [fillB, firstT]
  · intro t k
    have hw := (fillB_whl l).1
    have hlk : ∀ k, lookF (fillB l) k = firstT l k := fun k => by
      cases e : firstT l k with
      | some t => exact hw.look ((ih t k).2 e)
      | none =>
        cases e2 : lookF (fillB l) k with
        | none => rfl
        | some t => have := (ih t k).1 (lookF_some e2); rw [e] at this; cases this
    rw [fillB_snoc]
    unfold stepB
    have hf : firstT (l ++ [x]) k = (firstT l k).or (if keyB (ofK x) k then some x.tick else none) := by
      unfold firstT
      rw [List.find?_append]
      cases l.find? (fun x => keyB (ofK x) k) with
      | some y => simp
      | none =>
        simp only [Option.none_or, List.find?_cons, List.find?_nil]
        cases keyB (ofK x) k <;> simp
    rw [hf]
    by_cases e : ofK x = k
    · subst e
      rw [keyB_self, hlk]
      cases e1 : firstT l (ofK x) with
      | some u =>
        simp only [Option.isSome_some, if_true, Option.some_or]
        rw [ih, e1]
      | none =>
        simp only [Option.isSome_none, Bool.false_eq_true, if_false, if_true, Option.none_or]
        rw [mem_armed]
        constructor
        · rintro (h | ⟨_, h⟩)
          · injection h with h _; rw [h]
          · exact absurd rfl h
        · intro h; injection h with h; exact Or.inl (by rw [h])
    · rw [keyB_ne e]
      simp only [Bool.false_eq_true, if_false, Option.or_none]
      split
      · exact ih t k
      · rw [mem_armed, ih]
        constructor
        · rintro (h | ⟨h, _⟩)
          · injection h with _ h; exact absurd h.symm e
          · exact h
        · intro h; exact Or.inr ⟨h, fun e' => e e'.symm⟩
theorem fill_same (l : List St) : fillA l = fillB l.reverse :=
  order_unique (fillA_whl l).1.ord (fillB_whl l.reverse).1.ord (fun ⟨t, k⟩ => by rw [mem_fillA, mem_fillB])
/-- Timers by small numbers that a slice holds. -/
structure SetsAt (w : World) (bk off : Nat) (l : List St) : Prop where
  cell : ∀ j (h : j < l.length), w.cell? ⟨bk, off + j * 4, none⟩ = some (.int .u8 (l[j].kind : Int)) ∧ w.cell? ⟨bk, off + j * 4 + 1, none⟩ = some (.int .u8 (l[j].peer : Int)) ∧ w.cell? ⟨bk, off + j * 4 + 2, none⟩ = some (.int .u8 (l[j].fam : Int)) ∧ w.cell? ⟨bk, off + j * 4 + 3, none⟩ = some (.int .u8 (l[j].tick : Int))
theorem SetsAt.kept {w w' : World} {bk off b : Nat} {l : List St} (h : SetsAt w bk off l) (hg : w.grownBy w' (some b)) (hne : bk ≠ b) : SetsAt w' bk off l := by
  have hne' : some bk ≠ some b := fun e => hne (by injection e)
  exact ⟨fun j hj => by obtain ⟨h0, h1, h2, h3⟩ := h.cell j hj; exact ⟨hg.cell h0 hne', hg.cell h1 hne', hg.cell h2 hne', hg.cell h3 hne'⟩⟩
theorem SetsAt.below {w w' : World} {bk off : Nat} {l : List St} (h : SetsAt w bk off l) (hb : Below w.heap.size w w') : SetsAt w' bk off l :=
  ⟨fun j hj => by obtain ⟨h0, h1, h2, h3⟩ := h.cell j hj; exact ⟨cell2 hb h0, cell2 hb h1, cell2 hb h2, cell2 hb h3⟩⟩
end Go.Proofs.Ytgplhdhnailpfaa
