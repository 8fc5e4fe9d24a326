/-
  Told prefixes come back from their bytes: plain.
-/
import Derived.Test.YtjliopclpjeieaaDoorE3
namespace Go.Proofs.YtjliopclpjeieaaDoor
open Go.RowKit
theorem szOf_fam {f : Int} (h : szOf f ≠ 0) : f = 1 ∨ f = 2 ∨ f = 3 ∨ f = 4 ∨ f = 5 := by
  have := szOf_pos f h
  omega
theorem lbN_zero {f : Int} (h : lab f = false) : lbN f = 0 := by simp [lbN, h]
theorem rdN_zero {f : Int} (h : dst f = false) : rdN f = 0 := by simp [rdN, h]
theorem dst_iff {f : Int} (h : szOf f ≠ 0) : dst f = true ↔ 4 ≤ f := by
  rcases szOf_fam h with rfl | rfl | rfl | rfl | rfl <;> decide
theorem lab_of_dst {f : Int} (h : dst f = true) : lab f = true := by simp [lab, h]
theorem labI_le (v : Nat) (h : v < 16777216) : (labI v).1 ≤ 1048575 := by
  unfold labI
  split
  · simp
  · split
    · simp
    · simp; omega
theorem worth_nil : worth [] = 0 := rfl
theorem adr_msk (l : List UInt8) (bits n : Nat) : msk (adr l bits n) (bits : Int) = adr l bits n := by
  unfold adr
  exact msk_idem _ _
/-- What is read may be. -/
theorem nlI_may (f : Int) (add : Bool) (l : List UInt8) (hz : szOf f ≠ 0) (h : okI f add l) : nchk f (nlI f add l).r (nlI f add l).s (nlI f add l).l (nlI f add l).lb = 0 := by
  obtain ⟨h1, h2, h3, h4, h5⟩ := h
  have hb := szOf_bd f
  unfold nchk
  rw [if_pos]
  have hmc : labV f add l < 16777216 := by
    unfold labV
    refine Nat.lt_of_lt_of_le (worth_le _ 3 ?_) (by decide)
    have : lbN f ≤ 3 := by unfold lbN; split <;> omega
    simp; omega
  refine ⟨?_, ?_, ?_⟩
  · unfold chk
    rw [if_pos]
    refine ⟨hz, ?_, h2, h3, ?_, ?_⟩
    · simp only [nlI, list_size, adr_length]
      omega
    · by_cases hd : dst f = true
      · right; exact (dst_iff hz).1 hd
      · left
        simp only [nlI]
        rw [rdN_zero (by simpa using hd)]
        rfl
    · obtain ⟨n, hn⟩ := Int.eq_ofNat_of_zero_le h2
      simp only [nlI, hn, Int.toNat_natCast]
      exact adr_msk _ _ _
  · simp only [nlI]
    have := labI_le _ hmc
    omega
  · by_cases hl : lab f = true
    · right; exact hl
    · left
      simp only [nlI, labV, lbN_zero (by simpa using hl : lab f = false), List.take_zero]
      rfl
theorem nlI_wf (f : Int) (add : Bool) (l : List UInt8) : NlWf (nlI f add l) := by
  have a1 : idN add ≤ 4 := by unfold idN; split <;> omega
  have a2 : lbN f ≤ 3 := by unfold lbN; split <;> omega
  have a3 : rdN f ≤ 8 := by unfold rdN; split <;> omega
  have w1 : worth ((l.drop (idN add + 1 + lbN f)).take (rdN f)) < 18446744073709551616 := Nat.lt_of_lt_of_le (worth_le _ 8 (by simp; omega)) (by decide)
  have w2 : worth (l.take (idN add)) < 4294967296 := Nat.lt_of_lt_of_le (worth_le _ 4 (by simp; omega)) (by decide)
  have w3 : labV f add l < 16777216 := Nat.lt_of_lt_of_le (worth_le _ 3 (by simp; omega)) (by decide)
  have w4 := labI_le _ w3
  have hb := szOf_bd f
  refine ⟨?_, ?_, ?_, ?_, ?_, ?_, ?_⟩ <;> simp only [nlI]
  · omega
  · omega
  · omega
  · omega
  · omega
  · omega
  · rw [list_size, adr_length]; unfold maxLen; omega
/-- With no ids an id is 0. -/
theorem nlI_id (f : Int) (add : Bool) (l : List UInt8) : (nlI f add l).id = 0 ∨ add = true := by
  cases add with
  | true => exact Or.inr rfl
  | false => left; simp [nlI, idN, worth]
theorem enc_length (n : Nl) (add : Bool) (h : (n.l.toNat + 7) / 8 ≤ n.s.size) : (n.enc add).length = hdN n.f add + (n.l.toNat + 7) / 8 := by
  simp only [Nl.enc, nlE, List.length_append, laid_length, List.length_take, hdN]
  rw [show n.s.data.toList.length = n.s.size by simp]
  omega
/-- Bytes of a told prefix that may be, and what stands behind them, are read as it. -/
theorem back_at (n : Nl) (add : Bool) (rest : List UInt8) (hw : NlWf n) (hc : nchk n.f n.r n.s n.l n.lb = 0) (hi : n.id = 0 ∨ add = true) :
    okI n.f add (n.enc add ++ rest) ∧ nlI n.f add (n.enc add ++ rest) = n ∧ restI n.f add (n.enc add ++ rest) = rest := by
  obtain ⟨f, r, s, l, id, lb⟩ := n
  obtain ⟨r0, r1, i0, i1, b0, b1, _⟩ := hw
  simp only at r0 r1 i0 i1 b0 b1 hc hi ⊢
  obtain ⟨hk, hlb, hlab⟩ := nchk_zero hc
  obtain ⟨hz, hs, hl0, hl1, hrd, hm⟩ := chk_zero hk
  obtain ⟨r, rfl⟩ := Int.eq_ofNat_of_zero_le r0
  obtain ⟨id, rfl⟩ := Int.eq_ofNat_of_zero_le i0
  obtain ⟨lb, rfl⟩ := Int.eq_ofNat_of_zero_le b0
  obtain ⟨l, rfl⟩ := Int.eq_ofNat_of_zero_le hl0
  have hb := szOf_bd f
  have a1 : idN add ≤ 4 := by unfold idN; split <;> omega
  have a2 : lbN f ≤ 3 := by unfold lbN; split <;> omega
  have a3 : rdN f ≤ 8 := by unfold rdN; split <;> omega
  have hex : exN f ≤ 88 := by unfold exN; omega
  obtain ⟨S, hS⟩ : ∃ S, S = s.data.toList.take ((l + 7) / 8) := ⟨_, rfl⟩
  have hSl : S.length = (l + 7) / 8 := by
    rw [hS, List.length_take, show s.data.toList.length = s.size by simp]; omega
  have hE : (Nl.enc ⟨f, r, s, l, id, lb⟩ add) ++ rest = laid id (idN add) ++ (laid (l + exN f) 1 ++ (laid (lb * 16 + 1) (lbN f) ++ (laid r (rdN f) ++ (S ++ rest)))) := by
    simp only [Nl.enc, nlE, Int.toNat_natCast, ← hS, List.append_assoc]
  rw [hE]
  have d1 : ∀ X, (laid id (idN add) ++ X).drop (idN add) = X := fun X => by
    have := List.drop_left (l₁ := laid id (idN add)) (l₂ := X); rwa [laid_length] at this
  have t1 : ∀ X, (laid id (idN add) ++ X).take (idN add) = laid id (idN add) := fun X => by
    have := List.take_left (l₁ := laid id (idN add)) (l₂ := X); rwa [laid_length] at this
  have d2 : ∀ X, (laid (l + exN f) 1 ++ X).drop 1 = X := fun X => by
    have := List.drop_left (l₁ := laid (l + exN f) 1) (l₂ := X); rwa [laid_length] at this
  have t2 : ∀ X, (laid (l + exN f) 1 ++ X).take 1 = laid (l + exN f) 1 := fun X => by
    have := List.take_left (l₁ := laid (l + exN f) 1) (l₂ := X); rwa [laid_length] at this
  have d3 : ∀ X, (laid (lb * 16 + 1) (lbN f) ++ X).drop (lbN f) = X := fun X => by
    have := List.drop_left (l₁ := laid (lb * 16 + 1) (lbN f)) (l₂ := X); rwa [laid_length] at this
  have t3 : ∀ X, (laid (lb * 16 + 1) (lbN f) ++ X).take (lbN f) = laid (lb * 16 + 1) (lbN f) := fun X => by
    have := List.take_left (l₁ := laid (lb * 16 + 1) (lbN f)) (l₂ := X); rwa [laid_length] at this
  have d4 : ∀ X, (laid r (rdN f) ++ X).drop (rdN f) = X := fun X => by
    have := List.drop_left (l₁ := laid r (rdN f)) (l₂ := X); rwa [laid_length] at this
  have t4 : ∀ X, (laid r (rdN f) ++ X).take (rdN f) = laid r (rdN f) := fun X => by
    have := List.take_left (l₁ := laid r (rdN f)) (l₂ := X); rwa [laid_length] at this
  have hbits : bitI' f add (laid id (idN add) ++ (laid (l + exN f) 1 ++ (laid (lb * 16 + 1) (lbN f) ++ (laid r (rdN f) ++ (S ++ rest))))) = (l : Int) := by
    unfold bitI'
    rw [d1, t2, worth_laid, Nat.mod_eq_of_lt (by omega)]
    omega
  have hlv : labV f add (laid id (idN add) ++ (laid (l + exN f) 1 ++ (laid (lb * 16 + 1) (lbN f) ++ (laid r (rdN f) ++ (S ++ rest))))) = worth (laid (lb * 16 + 1) (lbN f)) := by
    unfold labV
    rw [← List.drop_drop, d1, d2, t3]
  have hlv2 : lbN f = 0 ∧ lb = 0 ∧ labI (worth (laid (lb * 16 + 1) (lbN f))) = (0, false) ∨ labI (worth (laid (lb * 16 + 1) (lbN f))) = (lb, true) := by
    by_cases hl : lab f = true
    · right
      have : lbN f = 3 := by simp [lbN, hl]
      rw [this, worth_laid, Nat.mod_eq_of_lt (by omega)]
      unfold labI
      rw [if_neg (by omega), if_neg (by omega)]
      congr 1
      omega
    · left
      have h0 : lbN f = 0 := lbN_zero (by simpa using hl)
      refine ⟨h0, ?_, ?_⟩
      · rcases hlab with h | h
        · omega
        · exact absurd h hl
      · rw [h0]; rfl
  have hby : byN (l : Int) = ((l + 7) / 8 : Nat) := byN_nat l
  have hlen : (laid id (idN add) ++ (laid (l + exN f) 1 ++ (laid (lb * 16 + 1) (lbN f) ++ (laid r (rdN f) ++ (S ++ rest))))).length = hdN f add + (l + 7) / 8 + rest.length := by
    simp only [List.length_append, laid_length, hSl, hdN]; omega
  have hdr : (laid id (idN add) ++ (laid (l + exN f) 1 ++ (laid (lb * 16 + 1) (lbN f) ++ (laid r (rdN f) ++ (S ++ rest))))).drop (hdN f add) = S ++ rest := by
    unfold hdN
    rw [← List.drop_drop, ← List.drop_drop, ← List.drop_drop, d1, d2, d3, d4]
  refine ⟨⟨?_, ?_, ?_, ?_, ?_⟩, ?_, ?_⟩
  · rw [hlen]; unfold hdN; omega
  · rw [hbits]; omega
  · rw [hbits]; exact hl1
  · rw [hbits, hby, hlen]; omega
  · rw [hlv]
    rcases hlv2 with h | h
    · exact Or.inl h.1
    · right; rw [h]
  · unfold nlI
    rw [hbits, hlv, hdr, hby]
    simp only [Int.toNat_natCast]
    have e1 : worth ((laid id (idN add) ++ (laid (l + exN f) 1 ++ (laid (lb * 16 + 1) (lbN f) ++ (laid r (rdN f) ++ (S ++ rest))))).take (idN add)) = id := by
      rw [t1, worth_laid]
      cases add with
      | true => simp only [idN, if_true]; rw [Nat.mod_eq_of_lt (by omega)]
      | false =>
        rcases hi with h | h
        · have : id = 0 := by omega
          subst this; simp
        · exact absurd h (by decide)
    have e2 : worth (((laid id (idN add) ++ (laid (l + exN f) 1 ++ (laid (lb * 16 + 1) (lbN f) ++ (laid r (rdN f) ++ (S ++ rest))))).drop (idN add + 1 + lbN f)).take (rdN f)) = r := by
      rw [← List.drop_drop, ← List.drop_drop, d1, d2, d3, t4, worth_laid]
      by_cases hd : dst f = true
      · have : rdN f = 8 := by simp [rdN, hd]
        rw [this, Nat.mod_eq_of_lt (by omega)]
      · have h0 : rdN f = 0 := rdN_zero (by simpa using hd)
        have : ¬ (4 ≤ f) := fun h => hd ((dst_iff hz).2 h)
        rw [h0]
        have : r = 0 := by omega
        subst this; simp
    have e3 : (labI (worth (laid (lb * 16 + 1) (lbN f)))).1 = lb := by
      rcases hlv2 with h | h
      · rw [h.2.2, h.2.1]
      · rw [h]
    have e4 : adr ((S ++ rest).take ((l + 7) / 8)) l (szOf f).toNat = s.data.toList := by
      rw [show (S ++ rest).take ((l + 7) / 8) = S by rw [← hSl]; exact List.take_left]
      refine bits_ext _ _ (by rw [adr_length, show s.data.toList.length = s.size by simp]; omega) ?_
      intro i hi
      rw [adr_length] at hi
      unfold adr
      by_cases hil : i < l
      · rw [bitAt_msk _ _ _ (by omega), bitAt_pad _ _ _ (by omega)]
        unfold bitAt
        rw [hS, List.getD_eq_getElem?_getD, List.getElem?_take_of_lt (by omega), List.getD_eq_getElem?_getD]
      · rw [bitAt_msk_out _ _ _ (by omega), bits_of_msk _ _ hm i (by omega)]
    rw [e1, e2, e3, e4]
  · unfold restI
    rw [hbits, hby, Int.toNat_natCast, ← List.drop_drop, hdr, ← hSl]
    exact List.drop_left
end Go.Proofs.YtjliopclpjeieaaDoor
