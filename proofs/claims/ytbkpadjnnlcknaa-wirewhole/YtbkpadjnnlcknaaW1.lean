/-
  Digits come back as the bytes they were made of (no program in here).
-/
import Derived.Test.YtbkpadjnnlcknaaH5
namespace Go.Proofs.Ytbkpadjnnlcknaa
theorem hexL_even (l : List UInt8) (j : Nat) (h : j < l.length) : (hexL l).getD (2 * j) 0 = dig (l[j].toNat / 16) ∧ (hexL l).getD (2 * j + 1) 0 = dig (l[j].toNat % 16) := by
  induction l generalizing j with
  | nil => simp at h
  | cons c l ih =>
    cases j with
    | zero => simp [hexL, two]
    | succ j =>
      have := ih j (by simpa using h)
      rw [show 2 * (j + 1) = 2 * j + 1 + 1 from by omega, show 2 * j + 1 + 1 + 1 = (2 * j + 1) + 1 + 1 from rfl]
      simpa [hexL, two] using this
theorem hex_atB (s : ByteArray) (j : Nat) (h : j < s.data.toList.length) :
    dv (atB ⟨(hexL s.data.toList).toArray⟩ (2 * j)) = ((s.data.toList[j].toNat / 16 : Nat) : Int) ∧ dv (atB ⟨(hexL s.data.toList).toArray⟩ (2 * j + 1)) = ((s.data.toList[j].toNat % 16 : Nat) : Int) := by
  have e := hexL_even s.data.toList j h
  have hc := s.data.toList[j].toNat_lt
  unfold atB
  rw [e.1, e.2]
  exact ⟨dv_dig _ (by omega), dv_dig _ (by omega)⟩
theorem unB_at (s : ByteArray) (k i : Nat) (h : i < (unB s k).length) : (unB s k)[i] = pv s i := by simp [unB]
theorem unOut_hex (s : ByteArray) : unOut ⟨(hexL s.data.toList).toArray⟩ = .tuple #[.string s, .int .i64 0] := by
  have hs : (ByteArray.mk (hexL s.data.toList).toArray).size = 2 * s.data.toList.length := hexL_length s.data.toList
  have hd : (ByteArray.mk (hexL s.data.toList).toArray).size / 2 = s.data.toList.length := by rw [hs]; omega
  rw [unOut_good _ (by rw [hs]; omega) (fun j hj => by
    rw [hd] at hj
    have := hex_atB s j hj
    unfold okp
    rw [this.1, this.2]
    omega), hd]
  have : unB ⟨(hexL s.data.toList).toArray⟩ s.data.toList.length = s.data.toList := by
    apply List.ext_getElem
    · rw [unB_length]
    · intro i h1 h2
      have e := hex_atB s i h2
      have hc := s.data.toList[i].toNat_lt
      rw [unB_at]
      apply UInt8.toNat_inj.1
      rw [pv_toNat _ i _ _ e.1 e.2 (by omega) (by omega)]
      omega
  rw [this]
end Go.Proofs.Ytbkpadjnnlcknaa
