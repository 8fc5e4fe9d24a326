/-
  The contracts of the reference's Take, Value and Number.
-/
import Derived.Test.YtbkpadjnnlcknaaA6
import Derived.Deep.QuietTactic
import Derived.BigQuiet
namespace Go.Proofs.Ytbkpadjnnlcknaa
open Go.RowKit
theorem ret3 {a b : Int} {x y : Value} {k : IntKind} (h : a = b) : Ending.returned (.tuple #[.int k a, x, y]) = .returned (.tuple #[.int k b, x, y]) := by rw [h]
theorem ret_int {k : IntKind} {a b : Int} (h : a = b) : Ending.returned (.int k a) = .returned (.int k b) := by rw [h]
theorem rtake_no (s : ByteArray) (n : Int) (w : World) (h : n < 0 ∨ (s.size : Int) < n) :
    Calls Try.prog 11 #[.string s, .int .i64 n] w fun e w' => e = .returned (.tuple #[.string ⟨#[]⟩, .string s, .bool false]) ∧ w' = w := by
  by_cases h0 : n < 0
  · clear h
    go_enter Try.func11, Try.ntmps11
    go_wp2
    go_ret3
    exact ⟨rfl, rfl⟩
  · have h1 : (s.size : Int) < n := by omega
    clear h
    go_enter Try.func11, Try.ntmps11
    go_wp2
    go_ret3
    exact ⟨rfl, rfl⟩
theorem rtake_yes (s : ByteArray) (n : Nat) (w : World) (h : n ≤ s.size) :
    Calls Try.prog 11 #[.string s, .int .i64 (n : Int)] w fun e w' => e = .returned (.tuple #[.string (s.extract 0 n), .string (s.extract n s.size), .bool true]) ∧ ∃ q, w' = w.drewN q := by
  go_enter Try.func11, Try.ntmps11
  go_wp2_with fail
  go_quiet (fail)
  go_wp2
  go_ret3
  exact ⟨rfl, _, rfl⟩
set_option maxHeartbeats 400000 in
theorem value_any (s : ByteArray) (w : World) (h : s.size ≤ 8) :
    Calls Try.prog 25 #[.string s] w fun e w' => e = .returned (.int .u64 (worth s.data.toList : Int)) ∧ w' = w := by
  have hb8 : ∀ k, k < s.size → worth (s.data.toList.take k) < 72057594037927936 := by
    intro k hk
    have := worth_lt (s.data.toList.take k)
    have hl : (s.data.toList.take k).length ≤ 7 := by simp; omega
    exact Nat.lt_of_lt_of_le this (Nat.le_trans (Nat.pow_le_pow_right (by omega) hl) (by decide))
  have HB : Hid (∀ k, k < s.size → worth (s.data.toList.take k) < 72057594037927936) := hb8
  clear hb8
  go_enter Try.func25, Try.ntmps25
  go_wp2
  go_loopw [3, 4] (fun v i wr => ∃ k : Nat, k ≤ s.size ∧ i = .int .i64 k ∧ v = .int .u64 (worth (s.data.toList.take k) : Int) ∧ wr = w) (fun _ i _ => s.size - (intOf i).toNat)
  case atStart => exact ⟨0, by omega, rfl, rfl, rfl⟩
  case round =>
    obtain ⟨k, hk, rfl, rfl, rfl⟩ := hrel
    by_cases hlt : k < s.size
    · have hb := HB.out k hlt
      have hc := s[k].toNat_lt
      have hk' : k < s.data.toList.length := by simpa using hlt
      have HN : Hid (worth (s.data.toList.take (k + 1)) = worth (s.data.toList.take k) * 256 + s[k].toNat) := by
        unfold Hid; rw [← worth_snoc, List.take_succ_eq_append_getElem hk']; rfl
      generalize worth (s.data.toList.take k) = v at *
      go_wp2
      go_roundw
      case rel => exact ⟨k + 1, by omega, by go_num, by rw [HN.out]; simp, by trivial⟩
      case measure => simp [intOf]; omega
    · obtain rfl : s.size = k := by omega
      have e : s.data.toList.take s.size = s.data.toList := List.take_of_length_le (by simp)
      go_wp2
      go_ret
      exact ⟨ret_int (by rw [e]), rfl⟩
theorem rnum_no (s : ByteArray) (n : Int) (w : World) (h : n < 1 ∨ 8 < n ∨ (s.size : Int) < n) :
    Calls Try.prog 13 #[.string s, .int .i64 n] w fun e w' => e = .returned (.tuple #[.int .u64 0, .string s, .bool false]) ∧ w' = w := by
  by_cases h0 : n < 1
  · clear h
    go_enter Try.func13, Try.ntmps13
    go_wp2
    go_ret3
    exact ⟨rfl, rfl⟩
  · by_cases h1 : 8 < n
    · clear h
      go_enter Try.func13, Try.ntmps13
      go_wp2
      go_ret3
      exact ⟨rfl, rfl⟩
    · have h2 : (s.size : Int) < n := by omega
      clear h
      go_enter Try.func13, Try.ntmps13
      go_wp2
      go_ret3
      exact ⟨rfl, rfl⟩
set_option maxHeartbeats 400000 in
theorem rnum_yes (s : ByteArray) (n : Nat) (w : World) (h0 : 1 ≤ n) (h1 : n ≤ 8) (h : n ≤ s.size) :
    Calls Try.prog 13 #[.string s, .int .i64 (n : Int)] w fun e w' => e = .returned (.tuple #[.int .u64 (worth (s.data.toList.take n) : Int), .string (s.extract n s.size), .bool true]) ∧ ∃ q, w' = w.drewN q := by
  have hx : (s.extract 0 n).data.toList = s.data.toList.take n := by simp
  have HX : Hid (_ = _) := hx
  clear hx
  go_enter Try.func13, Try.ntmps13
  go_wp2_with fail
  go_quiet ((go_at_call 25; refine Calls.quiet_of_same (value_any (s.extract 0 n) _ (by simp; omega))))
  go_wp2
  go_ret3
  exact ⟨ret3 (by rw [HX.out]), _, rfl⟩
end Go.Proofs.Ytbkpadjnnlcknaa
