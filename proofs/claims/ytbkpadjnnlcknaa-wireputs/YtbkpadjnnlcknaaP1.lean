/-
  WirePuts answers true, for every argument, and leaves what was there.
-/
import Derived.Test.YtbkpadjnnlcknaaA8
namespace Go.Proofs.Ytbkpadjnnlcknaa
open Go.RowKit
/-- Both ways of laying a number answer the same. -/
theorem put_both (b : ByteArray) (v : Nat) (n : Int) (hb : b.size ≤ 281474976710656) (hv : v < 18446744073709551616) :
    ∃ (s : ByteArray) (x : Int), (∀ w, Calls Try.prog 17 #[.string b, .int .u64 (v : Int), .int .i64 n] w fun e w' => e = .returned (.tuple #[.string s, .int .i64 x]) ∧ Below w.heap.size w w') ∧
      (∀ w, Calls Try.prog 18 #[.string b, .int .u64 (v : Int), .int .i64 n] w fun e w' => e = .returned (.tuple #[.string s, .int .i64 x]) ∧ Below w.heap.size w w') := by
  by_cases hn : n < 1 ∨ 8 < n
  · exact ⟨_, _, fun w => put_arg b v n w hn, fun w => rput_arg b v n w hn⟩
  · obtain ⟨n, rfl⟩ := Int.eq_ofNat_of_zero_le (show 0 ≤ n by omega)
    by_cases hl : v < 256 ^ n
    · exact ⟨_, _, fun w => put_yes b v n w (by omega) (by omega) hl hb, fun w => rput_yes b v n w (by omega) (by omega) hl hb⟩
    · have h8 : n ≠ 8 := by
        intro e; subst e
        exact hl (Nat.lt_of_lt_of_le hv (by decide))
      exact ⟨_, _, fun w => put_long b v n w (by omega) (by omega) (by omega), fun w => rput_long b v n w (by omega) (by omega) (by omega)⟩
set_option maxRecDepth 100000 in
set_option maxHeartbeats 400000 in
theorem puts_walk (b : ByteArray) (v n : Int) (w : World) (h0 : 0 ≤ v) (h1 : v < 18446744073709551616) :
    Calls Try.prog 4 #[.string b, .int .u64 v, .int .i64 n] w fun e w' => e = .returned (.bool true) ∧ Below w.heap.size w w' := by
  obtain ⟨v, rfl⟩ := Int.eq_ofNat_of_zero_le h0
  by_cases hl : (1000 : Int) < b.size
  · obtain ⟨s, x, P, R⟩ := put_both (b.extract 0 1000) v n (by simp; omega) (by omega)
    clear h0 h1
    go_enter Try.func4, Try.ntmps4
    go_wp2_with fail
    refine (P _).mono ?_
    rintro e w1 ⟨rfl, hb1⟩
    go_wp2_with fail
    refine (R _).mono ?_
    rintro e w2 ⟨rfl, hb2⟩
    go_wp2_with fail
    refine (works_any _).mono ?_
    rintro e w3 ⟨rfl, hb3⟩
    go_wp2
    go_ret
    exact ⟨rfl, (hb1.trans (hb2.mono hb1.size)).trans (hb3.mono (Nat.le_trans hb1.size hb2.size))⟩
  · obtain ⟨s, x, P, R⟩ := put_both b v n (by omega) (by omega)
    clear h0 h1
    go_enter Try.func4, Try.ntmps4
    go_wp2_with fail
    refine (P _).mono ?_
    rintro e w1 ⟨rfl, hb1⟩
    go_wp2_with fail
    refine (R _).mono ?_
    rintro e w2 ⟨rfl, hb2⟩
    go_wp2_with fail
    refine (works_any _).mono ?_
    rintro e w3 ⟨rfl, hb3⟩
    go_wp2
    go_ret
    exact ⟨rfl, (hb1.trans (hb2.mono hb1.size)).trans (hb3.mono (Nat.le_trans hb1.size hb2.size))⟩
end Go.Proofs.Ytbkpadjnnlcknaa
