/-
  Lists of told prefixes come back from their bytes: plain.
-/
import Derived.Test.YtjliopclpjeieaaDoorQ1
namespace Go.Proofs.YtjliopclpjeieaaDoor
open Go.RowKit
/-- What may be laid comes back. -/
theorem decI_back (f : Int) (add : Bool) (R : List Nl) (hR : ∀ n ∈ R, NlWf n ∧ nchk n.f n.r n.s n.l n.lb = 0 ∧ (n.id = 0 ∨ add = true) ∧ n.f = f) (N : Nat) (hN : R.length ≤ N) : decI f add N (encL add R) = some R := by
  induction R generalizing N with
  | nil => simp [encL, decI_nil]
  | cons n R ih =>
    obtain ⟨h1, h2, h3, rfl⟩ := hR n (List.mem_cons_self)
    obtain ⟨k1, k2, k3⟩ := back_at n add (encL add R) h1 h2 h3
    have hE : encL add (n :: R) = n.enc add ++ encL add R := by simp [encL]
    rw [hE]
    obtain ⟨M, rfl⟩ : ∃ M, N = M + 1 := ⟨N - 1, by simp at hN; omega⟩
    have hne : n.enc add ++ encL add R ≠ [] := by
      intro h
      have := k1.1
      rw [h] at this
      simp at this
    rw [decI_step _ _ _ _ hne k1, k2, k3, ih (fun m hm => hR m (List.mem_cons_of_mem _ hm)) M (by simp at hN; omega)]
    rfl
/-- Every one that is read may be, and all take the bytes that there are. -/
theorem decI_facts (f : Int) (add : Bool) (hz : szOf f ≠ 0) : ∀ (N : Nat) (l : List UInt8) (R : List Nl), decI f add N l = some R → (∀ n ∈ R, NlWf n ∧ nchk n.f n.r n.s n.l n.lb = 0 ∧ (n.id = 0 ∨ add = true) ∧ n.f = f) ∧ (encL add R).length = l.length ∧ R.length ≤ l.length := by
  intro N
  induction N with
  | zero =>
    intro l R h
    by_cases hl : l = []
    · subst hl
      simp [decI] at h
      subst h
      simp [encL]
    · simp [decI, hl] at h
  | succ N ih =>
    intro l R h
    by_cases hl : l = []
    · subst hl
      simp [decI] at h
      subst h
      simp [encL]
    · by_cases hok : okI f add l
      · rw [decI_step _ _ _ _ hl hok] at h
        obtain ⟨R', h1, rfl⟩ := Option.map_eq_some_iff.mp h
        obtain ⟨i1, i2, i3⟩ := ih _ _ h1
        have hlt := rest_lt f add l hl
        have hm := nlI_may f add l hz hok
        refine ⟨?_, ?_, ?_⟩
        · intro n hn
          rcases List.mem_cons.mp hn with rfl | hn
          · exact ⟨nlI_wf f add l, hm, nlI_id f add l, rfl⟩
          · exact i1 n hn
        · have hE : encL add (nlI f add l :: R') = (nlI f add l).enc add ++ encL add R' := by simp [encL]
          rw [hE, List.length_append, i2]
          obtain ⟨o1, o2, o3, o4, _⟩ := hok
          have hb : byN (bitI' f add l) = (((bitI' f add l).toNat + 7) / 8 : Nat) := by
            obtain ⟨b, hb⟩ := Int.eq_ofNat_of_zero_le o2
            rw [hb, byN_nat, Int.toNat_natCast]
          rw [enc_length]
          · show hdN f add + ((bitI' f add l).toNat + 7) / 8 + (restI f add l).length = l.length
            unfold restI
            rw [List.length_drop, hb, Int.toNat_natCast]
            rw [hb] at o4
            omega
          · simp only [nlI, list_size, adr_length]
            have := szOf_bd f
            omega
        · simp only [List.length_cons]; omega
      · rw [decI_bad _ _ _ _ hl hok] at h
        exact absurd h (by simp)
/-- Enough rounds are enough. -/
theorem decI_more (f : Int) (add : Bool) : ∀ (N M : Nat) (l : List UInt8), l.length ≤ N → l.length ≤ M → decI f add N l = decI f add M l := by
  intro N
  induction N with
  | zero =>
    intro M l h1 _
    obtain rfl : l = [] := List.length_eq_zero_iff.mp (by omega)
    rw [decI_nil, decI_nil]
  | succ N ih =>
    intro M l h1 h2
    by_cases hl : l = []
    · subst hl; rw [decI_nil, decI_nil]
    · have hp : 1 ≤ l.length := by
        cases l with
        | nil => exact absurd rfl hl
        | cons => simp
      obtain ⟨M', rfl⟩ : ∃ M', M = M' + 1 := ⟨M - 1, by omega⟩
      by_cases hok : okI f add l
      · have := rest_lt f add l hl
        rw [decI_step _ _ _ _ hl hok, decI_step _ _ _ _ hl hok, ih M' _ (by omega) (by omega)]
      · rw [decI_bad _ _ _ _ hl hok, decI_bad _ _ _ _ hl hok]
end Go.Proofs.YtjliopclpjeieaaDoor
