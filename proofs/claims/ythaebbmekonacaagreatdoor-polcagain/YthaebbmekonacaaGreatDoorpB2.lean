/-
  Contracts of mask and of the bits (the program's and the reference's), for every argument of their kinds.
-/
import Derived.Test.YthaebbmekonacaaGreatDoorpB1
import Derived.Test.YthaebbmekonacaaGreatDoorpP0
namespace Go.Proofs.YthaebbmekonacaaGreatDoor.Pr
open Go.RowKit
theorem ret_int {k : IntKind} {a b : Int} (h : a = b) : Ending.returned (.int k a) = .returned (.int k b) := by rw [h]
theorem mask_any (n : Int) (w : World) (h0 : -200 ≤ n) (h1 : n ≤ 200) :
    Calls Tryz.prog 209 #[.int .i64 n] w fun e w' => e = .returned (.int .u8 (mk n).toNat) ∧ w' = w := by
  go_enter Tryz.func209, Tryz.ntmps209
  go_wp2
  go_ret
  exact ⟨ret_int (mk_all n).symm, rfl⟩
/-- The bit of bytes at any number. -/
def bitI (s : ByteArray) (n : Int) : Int := if 0 ≤ n then (bitAt s.data.toList n.toNat : Nat) else 0
theorem bitI_at (s : ByteArray) (n : Nat) (h : n / 8 < s.size) : bitI s n = bits .and .i64 (wrap64 ((s[n / 8].toNat : Int) / 2 ^ (7 - n % 8))) 1 := by
  rw [bit_form _ _ s[n / 8].toNat_lt]
  unfold bitI bitAt
  rw [if_pos (by omega), Int.toNat_natCast]
  have e : s.data.toList.getD (n / 8) 0 = s[n / 8] := by
    rw [List.getD_eq_getElem?_getD, List.getElem?_eq_getElem (by simpa using h)]; rfl
  rw [e]
theorem bitI_out (s : ByteArray) (n : Int) (h : n < 0 ∨ (s.size : Int) ≤ n / 8) : bitI s n = 0 := by
  unfold bitI
  by_cases a : 0 ≤ n
  · obtain ⟨n, rfl⟩ := Int.eq_ofNat_of_zero_le a
    rw [if_pos a, Int.toNat_natCast]
    unfold bitAt
    rw [List.getD_eq_getElem?_getD, List.getElem?_eq_none (by simp; have : s.data.size = s.size := rfl; omega)]
    simp
  · rw [if_neg a]
set_option maxHeartbeats 400000 in
theorem refbit_any (s : ByteArray) (n : Int) (w : World) (hs : s.size ≤ maxLen) (hn : n ≤ 9223372036854775807) (hm : -9223372036854775808 ≤ n) :
    Calls Tryz.prog 155 #[.string s, .int .i64 n] w fun e w' => e = .returned (.int .i64 (bitI s n)) ∧ w' = w := by
  unfold maxLen at hs
  by_cases h0 : n < 0
  · have H : Hid (bitI s n = 0) := bitI_out s n (Or.inl h0)
    go_enter Tryz.func155, Tryz.ntmps155
    go_wp2
    go_ret
    exact ⟨ret_int H.out.symm, rfl⟩
  · obtain ⟨n, rfl⟩ := Int.eq_ofNat_of_zero_le (Int.not_lt.1 h0)
    by_cases h1 : (n : Int) / 8 < s.size
    · have H : Hid (_ = _) := bitI_at s n (by omega)
      go_enter Tryz.func155, Tryz.ntmps155
      go_wp2
      go_ret
      exact ⟨ret_int H.out.symm, rfl⟩
    · have H : Hid (bitI s n = 0) := bitI_out s n (Or.inr (by omega))
      go_enter Tryz.func155, Tryz.ntmps155
      go_wp2
      go_ret
      exact ⟨ret_int H.out.symm, rfl⟩
end Go.Proofs.YthaebbmekonacaaGreatDoor.Pr
