/-
  What is read of bytes is laid as the same bytes (plain).
-/
import Derived.Test.YtbdfigfjoiefiabDoorT5
set_option linter.unusedVariables false
set_option linter.unusedSimpArgs false
namespace Go.Proofs.YtbdfigfjoiefiabDoor
theorem byteAt_up (v c k : Nat) (hc : c < 256) : byteAt (v * 256 + c) (k + 1) = byteAt v k := by
  unfold byteAt
  have e : (v * 256 + c) / 2 ^ (8 * (k + 1)) = v / 2 ^ (8 * k) := by
    rw [show 8 * (k + 1) = 8 + 8 * k by omega, Nat.pow_add, ← Nat.div_div_eq_div_mul]
    congr 1
    omega
  rw [e]
theorem byteAt_low (v : Nat) (c : UInt8) : byteAt (v * 256 + c.toNat) 0 = c := by
  unfold byteAt
  apply UInt8.toNat_inj.mp
  rw [UInt8.toNat_ofNat']
  have := c.toNat_lt
  simp
theorem laid_up (v : Nat) (c : UInt8) : ∀ n, laid (v * 256 + c.toNat) (n + 1) = laid v n ++ [c]
  | 0 => by simp [laid, byteAt_low]
  | n + 1 => by
    have h := laid_up v c n
    rw [laid, h, byteAt_up v c.toNat n c.toNat_lt, laid]
    rfl
theorem laid_worth : ∀ (n : Nat) (l : List UInt8), l.length = n → laid (worth l) n = l
  | 0, l, h => by
    rw [List.length_eq_zero_iff.mp h]
    rfl
  | n + 1, l, h => by
    have hne : l ≠ [] := by intro e; rw [e] at h; simp at h
    have e := List.dropLast_concat_getLast hne
    have hl : l.dropLast.length = n := by rw [List.length_dropLast]; omega
    have hw : worth l = worth l.dropLast * 256 + (l.getLast hne).toNat := by
      rw [← worth_snoc, e]
    rw [hw, laid_up, laid_worth n _ hl, e]
theorem fit_worth (four : Bool) (t : List UInt8) (h : t.length = szN four) : fitN four (worth t) = worth t := by
  have hw := worth_lt t
  rw [h] at hw
  unfold fitN
  cases four with
  | true => simp
  | false =>
    have : worth t < 65536 := by simpa [szN] using hw
    rw [if_neg]
    simp
    omega
theorem asE_asI (four : Bool) : ∀ (n : Nat) (l : List UInt8), n * szN four ≤ l.length → asE four (asI (szN four) n l) = l.take (n * szN four)
  | 0, l, h => by simp [asI, asE]
  | n + 1, l, h => by
    have h1 : (n + 1) * szN four = szN four + n * szN four := by rw [Nat.succ_mul, Nat.add_comm]
    have ht : (l.take (szN four)).length = szN four := by rw [List.length_take]; omega
    have ih := asE_asI four n (l.drop (szN four)) (by rw [List.length_drop]; omega)
    rw [asI, show asE four (worth (l.take (szN four)) :: asI (szN four) n (l.drop (szN four))) = laid (fitN four (worth (l.take (szN four)))) (szN four) ++ asE four (asI (szN four) n (l.drop (szN four))) by simp [asE], fit_worth four _ ht, laid_worth _ _ ht, ih, h1, List.take_add]
theorem segE_segI (four : Bool) (l r : List UInt8) (s : Sg) (h : segI (szN four) l = some (s, r)) : segE four s ++ r = l := by
  unfold segI at h
  split at h
  · cases h
  · rename_i h2
    split at h
    · cases h
    · rename_i h3
      injection h with h
      injection h with hs hr
      match l, h2 with
      | [], h2 => simp at h2
      | [a], h2 => simp at h2
      | a :: b :: t, h2 =>
        simp only [List.drop_succ_cons, List.drop_zero, List.take_succ_cons, List.take_zero] at hs hr h3
        have e1 : laid (worth [a]) 1 = [a] := laid_worth 1 [a] rfl
        have e2 : laid (worth [b]) 1 = [b] := laid_worth 1 [b] rfl
        have e3 := asE_asI four (worth [b]) t (by omega)
        rw [← hs, ← hr]
        unfold segE
        simp only [asI_length, Int.toNat_natCast]
        rw [e1, e2, e3, List.append_assoc, List.take_append_drop]
        rfl
theorem dec_enc (four : Bool) : ∀ (m : Nat) (l : List UInt8) (L : List Sg), decI (szN four) m l = some L → L.length ≤ m ∧ (∀ s ∈ L, okSeg s = true) ∧ encOf four L = l
  | 0, l, L, h => by
    unfold decI at h
    split at h
    · rename_i hl
      obtain rfl := Option.some.inj h
      exact ⟨by simp, by simp, by rw [hl]; rfl⟩
    · cases h
  | m + 1, l, L, h => by
    unfold decI at h
    split at h
    · rename_i hl
      obtain rfl := Option.some.inj h
      exact ⟨by simp, by simp, by rw [hl]; rfl⟩
    · split at h
      · cases h
      · rename_i s r hs
        split at h
        · rename_i hok
          cases hd : decI (szN four) m r with
          | none => rw [hd] at h; cases h
          | some M =>
            rw [hd] at h
            obtain rfl := Option.some.inj h
            obtain ⟨h1, h2, h3⟩ := dec_enc four m r M hd
            refine ⟨by simp; omega, ?_, ?_⟩
            · intro t ht
              rcases List.mem_cons.1 ht with rfl | ht
              · exact hok
              · exact h2 t ht
            · rw [show encOf four (s :: M) = segE four s ++ encOf four M by simp [encOf], h3]
              exact segE_segI four l r s hs
        · cases h
theorem dec_ok (four : Bool) (l : List UInt8) (L : List Sg) (h : decI (szN four) 16 l = some L) : okPath L = true ∧ encOf four L = l := by
  obtain ⟨h1, h2, h3⟩ := dec_enc four 16 l L h
  refine ⟨?_, h3⟩
  unfold okPath
  simp only [Bool.and_eq_true, decide_eq_true_eq, List.all_eq_true]
  exact ⟨h1, h2⟩
end Go.Proofs.YtbdfigfjoiefiabDoor
