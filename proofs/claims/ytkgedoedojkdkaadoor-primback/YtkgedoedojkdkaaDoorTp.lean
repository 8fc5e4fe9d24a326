/-
  A prefix' text: plain facts.
-/
import Derived.Test.YtkgedoedojkdkaaDoorTzb
import Derived.Test.YtkgedoedojkdkaaDoorTt
set_option linter.unusedVariables false
set_option linter.unusedSimpArgs false
set_option maxRecDepth 100000
namespace Go.Proofs.YtkgedoedojkdkaaDoor
theorem cut_eq {c : UInt8} {l x r : List UInt8} {m : Bool} (h : Lib.cut l [c] = (x, r, m)) : (m = true ∧ c ∉ x ∧ l = x ++ c :: r) ∨ (m = false ∧ c ∉ l ∧ x = l ∧ r = []) := by
  rcases cut_is c l with ⟨h1, h2⟩ | ⟨y, t, h1, h2, h3⟩
  · rw [h2] at h
    simp only [Prod.mk.injEq] at h
    obtain ⟨rfl, rfl, rfl⟩ := h
    exact Or.inr ⟨rfl, h1, rfl, rfl⟩
  · rw [h3] at h
    simp only [Prod.mk.injEq] at h
    obtain ⟨rfl, rfl, rfl⟩ := h
    exact Or.inl ⟨rfl, h1, h2⟩
theorem cut_at {c : UInt8} {l x r y t : List UInt8} {m : Bool} (h : Lib.cut l [c] = (x, r, m)) (hy : c ∉ y) (e : l = y ++ c :: t) : x = y ∧ r = t := by
  rcases cut_eq h with ⟨_, h2, h3⟩ | ⟨_, h2, _, _⟩
  · exact head_inj c x y r t h2 hy (by rw [← h3, e])
  · exact absurd (by rw [e]; simp) h2
theorem fam_inv (l : List UInt8) (h : famOf l ≠ 0) : ∃ n : Nat, 1 ≤ n ∧ n ≤ 5 ∧ famOf l = n ∧ l = fwL.getD n [] := by
  unfold famOf at h ⊢
  by_cases h0 : ([] == l) = true
  · simp [h0] at h
  · by_cases h1 : ([118, 52] == l) = true
    · refine ⟨1, by omega, by omega, by simp [h0, h1], ?_⟩
      rw [← beq_iff_eq.1 h1]; rfl
    · by_cases h2 : ([118, 54] == l) = true
      · refine ⟨2, by omega, by omega, by simp [h0, h1, h2], ?_⟩
        rw [← beq_iff_eq.1 h2]; rfl
      · by_cases h3 : ([108, 52] == l) = true
        · refine ⟨3, by omega, by omega, by simp [h0, h1, h2, h3], ?_⟩
          rw [← beq_iff_eq.1 h3]; rfl
        · by_cases h4 : ([118, 112, 110, 52] == l) = true
          · refine ⟨4, by omega, by omega, by simp [h0, h1, h2, h3, h4], ?_⟩
            rw [← beq_iff_eq.1 h4]; rfl
          · by_cases h5 : ([118, 112, 110, 54] == l) = true
            · refine ⟨5, by omega, by omega, by simp [h0, h1, h2, h3, h4, h5], ?_⟩
              rw [← beq_iff_eq.1 h5]; rfl
            · simp [h0, h1, h2, h3, h4, h5] at h
theorem fam_of_name (n : Nat) (h1 : 1 ≤ n) (h2 : n ≤ 5) : famOf (fwL.getD n []) = n ∧ (32 : UInt8) ∉ fwL.getD n [] := by
  rcases (show n = 1 ∨ n = 2 ∨ n = 3 ∨ n = 4 ∨ n = 5 by omega) with rfl | rfl | rfl | rfl | rfl <;> exact ⟨by decide +kernel, by decide +kernel⟩
/-- Parts that may stand in a text. -/
structure VP (n r : Nat) (b : ByteArray) (k : Nat) : Prop where
  f1 : 1 ≤ n
  f5 : n ≤ 5
  rd : n < 4 → r = 0
  ad : b.size = 4 ∨ b.size = 16
  k8 : k ≤ 255
  r64 : r < 18446744073709551616
theorem joined_free {b : Nat} {D : Nat → List UInt8} (h : Digs b D) (hb : 2 ≤ b) (hb2 : b ≤ 16) {c d : UInt8} (hc : Mark c) (hcd : c ≠ d) (ns : List Nat) : c ∉ Lib.join (ns.map D) [d] := by
  intro hm
  by_cases hn : ns = []
  · subst hn; rw [List.map_nil, Lib.join_nil] at hm; simp at hm
  · obtain ⟨A, z, rfl⟩ := last_apart ns hn
    simp only [List.map_append, List.map_cons, List.map_nil] at hm
    rw [join_flat] at hm
    have hf := fun u => h.free hb hb2 hc u
    rcases List.mem_append.1 hm with e | e
    · unfold flat at e
      obtain ⟨x, hx, hm⟩ := List.mem_flatMap.1 e
      obtain ⟨n, _, rfl⟩ := List.mem_map.1 hx
      rcases List.mem_append.1 hm with q | q
      · exact hf n q
      · simp at q; exact hcd q
    · exact hf z e
theorem adT_free {c : UInt8} (hc : Mark c) (h1 : c ≠ 46) (h2 : c ≠ 58) (b : ByteArray) (hb : b.size = 4 ∨ b.size = 16) : c ∉ adT b := by
  rcases hb with h | h
  · obtain ⟨ns, p1, p2, rfl⟩ := of_four b h
    rw [adT_4 ns p1 p2]
    exact joined_free digs10 (by omega) (by omega) hc h1 ns
  · obtain ⟨ns, p1, p2, rfl⟩ := of_sixteen b h
    rw [adT_16 ns p1 p2]
    exact joined_free digs16 (by omega) (by omega) hc h2 ns
theorem adT_nonil (b : ByteArray) (hb : b.size = 4 ∨ b.size = 16) : adT b ≠ [] := by
  have hx : ∀ (x y : List UInt8) (r : List (List UInt8)) (c : UInt8), Lib.join (x :: y :: r) [c] ≠ [] := fun x y r c => by
    rw [Lib.join_cons]; simp [Lib.joinTail]
  rcases hb with h | h
  · obtain ⟨ns, p1, p2, rfl⟩ := of_four b h
    rw [adT_4 ns p1 p2]
    match ns, p1 with
    | [a, b, c, d], _ => exact hx _ _ _ _
  · obtain ⟨ns, p1, p2, rfl⟩ := of_sixteen b h
    rw [adT_16 ns p1 p2]
    match ns, p1 with
    | [a, b, c, d, e, f, g, h], _ => exact hx _ _ _ _
theorem adT_inj {b b' : ByteArray} (h : b.size = 4 ∨ b.size = 16) (h' : b'.size = 4 ∨ b'.size = 16) (e : adT b = adT b') : b = b' := by
  obtain ⟨o4, h4⟩ := sty_ex digs10 (by omega) (by omega) 255 4 (by omega) m46 (adT b)
  obtain ⟨o16, h16⟩ := sty_ex digs16 (by omega) (by omega) 65535 8 (by omega) m58 (adT b)
  have hA := ad_of h4 h16
  have e1 := hA.full b h rfl
  rw [hA.full b' h' e] at e1
  exact (Option.some.inj e1).symm
theorem dec_ne (u : Nat) : Lib.decDigits u ≠ [] := by
  have := Digs.ne digs10 (by omega) u
  intro h; rw [h] at this; simp at this
/-- The text's first cut, and what is behind. -/
def pfR (n r : Nat) (b : ByteArray) (k : Nat) : List UInt8 := adT b ++ 47 :: Lib.decDigits k
theorem pfT_low {n r : Nat} {b : ByteArray} {k : Nat} (h : n < 4) : pfT n r b k = fwL.getD n [] ++ 32 :: (adT b ++ 47 :: Lib.decDigits k) := by
  unfold pfT rdT
  rw [if_neg (by omega), Int.toNat_natCast]; simp
theorem pfT_high {n r : Nat} {b : ByteArray} {k : Nat} (h : ¬ n < 4) : pfT n r b k = fwL.getD n [] ++ 32 :: (Lib.decDigits r ++ 32 :: (adT b ++ 47 :: Lib.decDigits k)) := by
  unfold pfT rdT
  rw [if_pos (by omega), Int.toNat_natCast]; simp
theorem dfree {c : UInt8} (hc : Mark c) (u : Nat) : c ∉ Lib.decDigits u := digs10.free (by omega) (by omega) hc u
theorem pf_inj {n r : Nat} {b : ByteArray} {k : Nat} {n' r' : Nat} {b' : ByteArray} {k' : Nat} (h : VP n r b k) (h' : VP n' r' b' k') (e : pfT n r b k = pfT n' r' b' k') : n = n' ∧ r = r' ∧ b = b' ∧ k = k' := by
  have e0 : ∀ {n r : Nat} {b : ByteArray} {k : Nat}, ∃ t, pfT n r b k = fwL.getD n [] ++ 32 :: t := fun {n r b k} => by
    by_cases hn : n < 4
    · exact ⟨_, pfT_low hn⟩
    · exact ⟨_, pfT_high hn⟩
  obtain ⟨t, ht⟩ := @e0 n r b k
  obtain ⟨t', ht'⟩ := @e0 n' r' b' k'
  have h1 := head_inj 32 _ _ _ _ (fam_of_name n h.f1 h.f5).2 (fam_of_name n' h'.f1 h'.f5).2 (by rw [← ht, e, ht'])
  have hn : n = n' := by
    have q1 := (fam_of_name n h.f1 h.f5).1
    have q2 := (fam_of_name n' h'.f1 h'.f5).1
    rw [h1.1] at q1
    omega
  subst hn
  have tail : ∀ {b b' : ByteArray} {k k' : Nat}, (b.size = 4 ∨ b.size = 16) → (b'.size = 4 ∨ b'.size = 16) → adT b ++ 47 :: Lib.decDigits k = adT b' ++ 47 :: Lib.decDigits k' → b = b' ∧ k = k' := fun {b b' k k'} hb hb' q => by
    obtain ⟨q1, q2⟩ := head_inj 47 _ _ _ _ (adT_free m47 (by decide) (by decide) b hb) (adT_free m47 (by decide) (by decide) b' hb') q
    exact ⟨adT_inj hb hb' q1, digs10.inj (by omega) (by omega) q2⟩
  by_cases hl : n < 4
  · rw [pfT_low hl, pfT_low hl] at e
    have q := (head_inj 32 _ _ _ _ (fam_of_name n h.f1 h.f5).2 (fam_of_name n h.f1 h.f5).2 e).2
    obtain ⟨rfl, rfl⟩ := tail h.ad h'.ad q
    exact ⟨rfl, by rw [h.rd hl, h'.rd hl], rfl, rfl⟩
  · rw [pfT_high hl, pfT_high hl] at e
    have q := (head_inj 32 _ _ _ _ (fam_of_name n h.f1 h.f5).2 (fam_of_name n h.f1 h.f5).2 e).2
    obtain ⟨q1, q2⟩ := head_inj 32 _ _ _ _ (dfree m32 r) (dfree m32 r') q
    obtain ⟨rfl, rfl⟩ := tail h.ad h'.ad q2
    exact ⟨rfl, digs10.inj (by omega) (by omega) q1, rfl, rfl⟩
end Go.Proofs.YtkgedoedojkdkaaDoor
