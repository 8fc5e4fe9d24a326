/-
  Texts in pieces: plain facts.
-/
import Derived.Test.YtkgedoedojkdkaaDoorTm
import Derived.Lib.Split
import Derived.Lib.Join
set_option linter.unusedVariables false
set_option linter.unusedSimpArgs false
set_option maxRecDepth 100000
namespace Go.Proofs.YtkgedoedojkdkaaDoor
theorem idx_no (c : UInt8) (x : List UInt8) (h : c ∉ x) : Lib.index x [c] = -1 := by
  induction x with
  | nil => rfl
  | cons a x ih =>
    have h1 : ¬ c = a := fun e => h (by simp [e])
    have h2 : Lib.index x [c] = -1 := ih fun e => h (List.mem_cons_of_mem _ e)
    simp [Lib.index, List.isPrefixOf, h1, h2]
theorem idx_in (c : UInt8) (x r : List UInt8) (h : c ∉ x) : Lib.index (x ++ c :: r) [c] = x.length := by
  induction x with
  | nil => simp [Lib.index, List.isPrefixOf]
  | cons a x ih =>
    have h1 : ¬ c = a := fun e => h (by simp [e])
    have h2 : Lib.index (x ++ c :: r) [c] = x.length := ih fun e => h (List.mem_cons_of_mem _ e)
    have h3 : ¬ ((x.length : Int) = -1) := by omega
    simp [Lib.index, List.isPrefixOf, h1, h2, h3]
theorem first_at (c : UInt8) (l : List UInt8) : c ∉ l ∨ ∃ x r, c ∉ x ∧ l = x ++ c :: r := by
  induction l with
  | nil => left; simp
  | cons a l ih =>
    by_cases h : a = c
    · right; exact ⟨[], l, by simp, by simp [h]⟩
    · rcases ih with h2 | ⟨x, r, h2, h3⟩
      · left
        intro hm
        rcases List.mem_cons.1 hm with e | e
        · exact h e.symm
        · exact h2 e
      · right
        refine ⟨a :: x, r, fun hm => ?_, by rw [h3]; rfl⟩
        rcases List.mem_cons.1 hm with e | e
        · exact h e.symm
        · exact h2 e
/-- Pieces, the sign behind each. -/
def flat (c : UInt8) (A : List (List UInt8)) : List UInt8 := A.flatMap fun x => x ++ [c]
theorem flat_cons (c : UInt8) (x : List UInt8) (A : List (List UInt8)) : flat c (x :: A) = x ++ c :: flat c A := by simp [flat]
theorem flat_app (c : UInt8) (A : List (List UInt8)) (x : List UInt8) : flat c (A ++ [x]) = flat c A ++ x ++ [c] := by simp [flat]
theorem join_flat (c : UInt8) (A : List (List UInt8)) (z : List UInt8) : Lib.join (A ++ [z]) [c] = flat c A ++ z := by
  induction A with
  | nil => rw [List.nil_append, Lib.join_one]; rfl
  | cons x A ih =>
    rw [List.cons_append, Lib.join_cons, flat_cons]
    cases A with
    | nil => simp [Lib.joinTail, flat]
    | cons y A =>
      rw [List.cons_append, Lib.join_cons] at ih
      rw [List.cons_append]
      simp only [Lib.joinTail, List.map_cons, List.flatten_cons] at ih ⊢
      rw [List.append_assoc [c], ih]
      simp
theorem head_inj (c : UInt8) (x y r t : List UInt8) (hx : c ∉ x) (hy : c ∉ y) (h : x ++ c :: r = y ++ c :: t) : x = y ∧ r = t := by
  have h1 := idx_in c x r hx
  rw [h, idx_in c y t hy] at h1
  have hl : y.length = x.length := by omega
  have := List.append_inj h hl.symm
  exact ⟨this.1, (List.cons.inj this.2).2⟩
/-- No piece has the sign. -/
def Free (c : UInt8) (A : List (List UInt8)) : Prop := ∀ x ∈ A, c ∉ x
theorem Free.app {c : UInt8} {A : List (List UInt8)} {x : List UInt8} (h : Free c A) (hx : c ∉ x) : Free c (A ++ [x]) := by
  intro y hy
  rcases List.mem_append.1 hy with e | e
  · exact h y e
  · rw [List.mem_singleton.1 e]; exact hx
theorem flat_inj (c : UInt8) : ∀ (A B : List (List UInt8)) (x y : List UInt8), Free c A → Free c B → c ∉ x → c ∉ y → flat c A ++ x = flat c B ++ y → A = B ∧ x = y
  | [], [], x, y, _, _, _, _, h => ⟨rfl, by simpa [flat] using h⟩
  | [], b :: B, x, y, _, _, hx, _, h => by
    exfalso; apply hx
    rw [flat_cons] at h
    have : x = b ++ c :: flat c B ++ y := by simpa [flat] using h
    rw [this]; simp
  | a :: A, [], x, y, _, _, _, hy, h => by
    exfalso; apply hy
    rw [flat_cons] at h
    have : a ++ c :: flat c A ++ x = y := by simpa [flat] using h
    rw [← this]; simp
  | a :: A, b :: B, x, y, hA, hB, hx, hy, h => by
    rw [flat_cons, flat_cons, List.append_assoc, List.append_assoc, List.cons_append, List.cons_append] at h
    obtain ⟨rfl, h2⟩ := head_inj c a b _ _ (hA a (List.mem_cons_self ..)) (hB b (List.mem_cons_self ..)) h
    obtain ⟨rfl, rfl⟩ := flat_inj c A B x y (fun z hz => hA z (List.mem_cons_of_mem _ hz)) (fun z hz => hB z (List.mem_cons_of_mem _ hz)) hx hy h2
    exact ⟨rfl, rfl⟩
theorem count_flat (c : UInt8) (A : List (List UInt8)) (h : Free c A) (x : List UInt8) : (flat c A ++ x).count c = A.length + x.count c := by
  induction A with
  | nil => simp [flat]
  | cons a A ih =>
    have ha : a.count c = 0 := List.count_eq_zero.2 (h a (List.mem_cons_self ..))
    have := ih fun z hz => h z (List.mem_cons_of_mem _ hz)
    rw [flat_cons, List.append_assoc, List.cons_append, List.count_append, List.count_cons_self, this, ha, List.length_cons]
    omega
/-- A text cut at the first k signs. -/
theorem splitK_is (c : UInt8) : ∀ (k : Nat) (l : List UInt8), ∃ A z, Lib.splitK [c] 0 k l = A ++ [z] ∧ l = flat c A ++ z ∧ Free c A ∧ A.length ≤ k ∧ (A.length < k → c ∉ z)
  | 0, l => ⟨[], l, rfl, by simp [flat], fun _ h => by simp at h, Nat.le_refl _, fun h => by simp at h⟩
  | k + 1, l => by
    rcases first_at c l with h | ⟨x, r, hx, rfl⟩
    · refine ⟨[], l, ?_, by simp [flat], fun _ h => by simp at h, Nat.zero_le _, fun _ => h⟩
      unfold Lib.splitK
      rw [idx_no c l h]; rfl
    · obtain ⟨A, z, h1, h2, h3, h4, h5⟩ := splitK_is c k r
      refine ⟨x :: A, z, ?_, ?_, ?_, by simp; omega, fun h => h5 (by simp at h; omega)⟩
      · unfold Lib.splitK
        rw [idx_in c x r hx, if_neg (by simp)]
        simp only [Nat.add_zero, Int.toNat_natCast, List.length_singleton]
        rw [List.take_left', show x ++ c :: r = (x ++ [c]) ++ r by simp, List.drop_left', h1]
        · rfl
        · simp
        · rfl
      · rw [flat_cons, List.append_assoc, List.cons_append, ← h2]
      · intro y hy
        rcases List.mem_cons.1 hy with e | e
        · rw [e]; exact hx
        · exact h3 y e
/-- What stands in so many pieces is cut into these. -/
theorem splitK_back (c : UInt8) (k : Nat) (A : List (List UInt8)) (z : List UInt8) (hA : Free c A) (hz : c ∉ z) (hk : A.length ≤ k) : Lib.splitK [c] 0 k (flat c A ++ z) = A ++ [z] := by
  obtain ⟨B, y, h1, h2, h3, h4, h5⟩ := splitK_is c k (flat c A ++ z)
  have c1 := count_flat c A hA z
  have c2 := count_flat c B h3 y
  rw [← h2] at c2
  have cz : z.count c = 0 := List.count_eq_zero.2 hz
  have hy : c ∉ y := by
    by_cases h : B.length < k
    · exact h5 h
    · apply List.count_eq_zero.1; omega
  obtain ⟨rfl, rfl⟩ := flat_inj c A B z y hA h3 hz hy h2
  exact h1
theorem cut_is (c : UInt8) (l : List UInt8) : (c ∉ l ∧ Lib.cut l [c] = (l, [], false)) ∨ ∃ x r, c ∉ x ∧ l = x ++ c :: r ∧ Lib.cut l [c] = (x, r, true) := by
  rcases first_at c l with h | ⟨x, r, hx, rfl⟩
  · left
    refine ⟨h, ?_⟩
    unfold Lib.cut
    rw [idx_no c l h, if_neg (by decide)]
  · right
    refine ⟨x, r, hx, rfl, ?_⟩
    unfold Lib.cut
    rw [idx_in c x r hx, if_pos (by omega)]
    simp
end Go.Proofs.YtkgedoedojkdkaaDoor
