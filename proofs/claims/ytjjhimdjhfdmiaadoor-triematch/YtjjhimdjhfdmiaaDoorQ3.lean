/-
  Keys and prefixes: a key tells its prefix, covering is beginning.
-/
import Derived.Test.YtjjhimdjhfdmiaaDoorD1
import Derived.Test.YtjjhimdjhfdmiaaDoorM2
import Derived.Test.YtjjhimdjhfdmiaaDoorM3
namespace Go.Proofs.YtjjhimdjhfdmiaaDoor
open Go.RowKit
theorem bitAt_keyRow_addr (f r : Nat) (s : ByteArray) (i : Nat) : bt (keyRow f r s) (72 + i) = bitAt s.data.toList i := by
  unfold bt bitAt
  rw [show (72 + i) / 8 = 9 + i / 8 by omega, show (72 + i) % 8 = i % 8 by omega]
  have e : (keyRow f r s).data.toList.getD (9 + i / 8) 0 = s.data.toList.getD (i / 8) 0 := by
    show (keyHd f r ++ s.data.toList).toArray.toList.getD (9 + i / 8) 0 = _
    rw [List.getD_eq_getElem?_getD, List.getD_eq_getElem?_getD, List.toList_toArray, List.getElem?_append_right (by rw [keyHd_length]; omega), keyHd_length, show 9 + i / 8 - 9 = i / 8 by omega]
  rw [e]
theorem bitAt_keyRow_head (f r : Nat) (s : ByteArray) (i : Nat) (h : i < 72) : bt (keyRow f r s) i = bitAt (keyHd f r) i := by
  unfold bt bitAt
  have e : (keyRow f r s).data.toList.getD (i / 8) 0 = (keyHd f r).getD (i / 8) 0 := by
    show (keyHd f r ++ s.data.toList).toArray.toList.getD (i / 8) 0 = _
    rw [List.getD_eq_getElem?_getD, List.getD_eq_getElem?_getD, List.toList_toArray, List.getElem?_append_left (by rw [keyHd_length]; omega)]
  rw [e]
theorem rdL_inj {r r' : Nat} (hr : r < 18446744073709551616) (hr' : r' < 18446744073709551616) (h : rdL r = rdL r') : r = r' := by
  have g : ∀ i, ((rdL r).getD i 0).toNat = ((rdL r').getD i 0).toNat := fun i => by rw [h]
  have g0 := g 0
  have g1 := g 1
  have g2 := g 2
  have g3 := g 3
  have g4 := g 4
  have g5 := g 5
  have g6 := g 6
  have g7 := g 7
  simp only [rdL, List.getD_cons_zero, List.getD_cons_succ, UInt8.toNat_ofNat'] at g0 g1 g2 g3 g4 g5 g6 g7
  omega
theorem keyHd_inj {f f' r r' : Nat} (hf : f ≤ 5) (hf' : f' ≤ 5) (hr : r < 18446744073709551616) (hr' : r' < 18446744073709551616) (h : keyHd f r = keyHd f' r') : f = f' ∧ r = r' := by
  unfold keyHd at h
  obtain ⟨h1, h2⟩ := List.cons.inj h
  refine ⟨?_, rdL_inj hr hr' h2⟩
  have := congrArg UInt8.toNat h1
  rw [UInt8.toNat_ofNat', UInt8.toNat_ofNat'] at this
  omega
theorem keyRow_inj {f f' r r' : Nat} {s s' : ByteArray} (hf : f ≤ 5) (hf' : f' ≤ 5) (hr : r < 18446744073709551616) (hr' : r' < 18446744073709551616) (h : keyRow f r s = keyRow f' r' s') : f = f' ∧ r = r' ∧ s = s' := by
  have h0 : keyHd f r ++ s.data.toList = keyHd f' r' ++ s'.data.toList := by
    have := congrArg (fun x : ByteArray => x.data.toList) h
    simpa [keyRow] using this
  obtain ⟨h1, h2⟩ := List.append_inj h0 (by rw [keyHd_length, keyHd_length])
  obtain ⟨h3, h4⟩ := keyHd_inj hf hf' hr hr' h1
  exact ⟨h3, h4, ByteArray.ext (Array.toList_inj.1 h2)⟩
theorem chk_size {f r : Nat} {s : ByteArray} {l : Nat} (h : chk f r s l = 0) : (s.size : Int) = szOf f := (chk_zero h).2.1
/-- Keys of prefixes that may be: the one begins with the other just where the prefixes cover. -/
theorem cov_keys {f r f' r' : Nat} {s s' : ByteArray} {l l' : Nat} (h : chk f r s l = 0) (h' : chk f' r' s' l' = 0) (hr : r < 18446744073709551616) (hr' : r' < 18446744073709551616) :
    (72 + l ≤ 72 + l' ∧ ∀ i, i < 72 + l → bt (keyRow f r s) i = bt (keyRow f' r' s') i) ↔ covB f r s l f' r' s' l' = true := by
  have b := chk_bd h
  have b' := chk_bd h'
  have z := chk_zero h
  constructor
  · rintro ⟨h1, h2⟩
    have e1 : keyHd f r = keyHd f' r' := bits_ext _ _ rfl (fun i hi => by
      rw [keyHd_length] at hi
      rw [← bitAt_keyRow_head f r s i (by omega), ← bitAt_keyRow_head f' r' s' i (by omega)]
      exact h2 i (by omega))
    obtain ⟨rfl, rfl⟩ := keyHd_inj b.1 b'.1 hr hr' e1
    have e2 : s.data.toList.length = s'.data.toList.length := by have := chk_size h; have := chk_size h'; simp; omega
    have e3 : msk s'.data.toList l = s.data.toList := msk_eq_of_bits _ _ _ e2 z.2.2.2.2.2 (fun i hi => by
      rw [← bitAt_keyRow_addr f r s i, ← bitAt_keyRow_addr f r s' i]
      exact h2 (72 + i) (by omega))
    unfold covB
    exact decide_eq_true ⟨h', by omega, by omega, rfl, rfl, e3⟩
  · intro hc
    obtain ⟨_, _, h3, h4, h5, h6⟩ := cov_parts hc
    have e4 : f' = f := by omega
    have e5 : r' = r := by omega
    subst e4
    subst e5
    refine ⟨by omega, fun i hi => ?_⟩
    by_cases c : i < 72
    · rw [bitAt_keyRow_head _ _ s i c, bitAt_keyRow_head _ _ s' i c]
    · obtain ⟨j, rfl⟩ : ∃ j, i = 72 + j := ⟨i - 72, by omega⟩
      rw [bitAt_keyRow_addr, bitAt_keyRow_addr]
      exact bits_of_eq _ _ _ h6 j (by omega)
theorem can_uniq : Uniq Can := by
  rintro a b n ⟨f, r, s, l, h, hr, rfl, rfl⟩ ⟨f', r', s', l', h', hr', rfl, hl⟩ hag
  have el : l = l' := by omega
  subst el
  have c1 := (cov_keys h h' hr hr').1 ⟨Nat.le_refl _, hag⟩
  have c2 := (cov_keys h' h hr' hr).1 ⟨Nat.le_refl _, fun i hi => (hag i hi).symm⟩
  obtain ⟨e1, e2, e3, _⟩ := cov_both c1 c2
  have e4 : f = f' := by omega
  have e5 : r = r' := by omega
  rw [e4, e5, e3]
end Go.Proofs.YtjjhimdjhfdmiaaDoor
