/-
  The walks of DrawOf and DrawBetween.
-/
import Derived.Test.YtjgnnbbimkhjjaaA2
set_option linter.unusedSimpArgs false
set_option maxRecDepth 100000
namespace Go.Proofs.Ytjgnnbbimkhjjaa
open Go.RowKit
theorem of_walk (W : World) (b : Int) (hb : -9223372036854775808 ≤ b ∧ b ≤ 9223372036854775807) (n : Nat) (hn : n < 4294967296) : Calls Try.prog 4 #[.int .i64 b, .int .u32 (n : Int)] W fun e W' => e = .returned (.bool true) ∧ Below W.heap.size W W' := by
  have H1 : Hid (_ : Prop) := fun w => of_any (b := b) (n := n) (by omega) hn w
  have H2 : Hid (_ : Prop) := fun w => rof_any (b := b) (n := n) (by omega) hn w
  have H3 : Hid (_ : Prop) := fun w => works_any w
  generalize ofI b n = r at *
  clear hb hn
  go_enter Try.func4, Try.ntmps4
  go_wp2_with fail
  refine Calls.mono (H1.out _) ?_
  rintro e w1 ⟨rfl, hw⟩
  subst w1
  go_wp2_with fail
  refine Calls.mono (H2.out _) ?_
  rintro e w1 ⟨rfl, hw⟩
  subst w1
  go_wp2_with fail
  refine Calls.mono (H3.out _) ?_
  rintro e w1 ⟨rfl, hw⟩
  have HW : Hid (_ : Prop) := hw
  clear hw
  go_wp2
  go_ret
  exact ⟨rfl, HW.out⟩
theorem between_low (W : World) (b : Int) (hb : b ≤ 0) (n : Nat) (hn : n < 4294967296) : Calls Try.prog 5 #[.int .i64 b, .int .u32 (n : Int)] W fun e W' => e = .returned (.bool true) ∧ Below W.heap.size W W' := by
  have H1 : Hid (∀ w, Calls Try.prog 15 #[.int .i64 b, .int .u32 (n : Int)] w fun e w' => e = .returned (.int .i64 0) ∧ w' = w) := fun w => by
    have := of_any (b := b) (n := n) (by omega) hn w
    rwa [ofI_no hb] at this
  have H3 : Hid (_ : Prop) := fun w => works_any w
  clear hn
  go_enter Try.func5, Try.ntmps5
  go_wp2_with fail
  refine Calls.mono (H3.out _) ?_
  rintro e w1 ⟨rfl, hw⟩
  have HW : Hid (_ : Prop) := hw
  clear hw
  go_wp2_with fail
  refine Calls.mono (H1.out _) ?_
  rintro e w2 ⟨rfl, hw⟩
  subst w2
  go_wp2
  go_ret
  exact ⟨rfl, HW.out⟩
theorem between_pos (W : World) (m : Nat) (h0 : 0 < m) (hm : m < 9223372036854775808) (n : Nat) (hn : n < 4294967296) : Calls Try.prog 5 #[.int .i64 (m : Int), .int .u32 (n : Int)] W fun e W' => e = .returned (.bool true) ∧ Below W.heap.size W W' := by
  have H1 : Hid (_ : Prop) := fun w => of_pos (m := m) (n := n) h0 hm hn w
  have H2 : Hid (∀ w, Calls Try.prog 15 #[.int .i64 (m : Int), .int .u32 ((n : Int) % 26)] w fun e w' => e = .returned (.int .i64 (ofN m n : Int)) ∧ w' = w) := fun w => by
    have := of_pos (m := m) (n := n % 26) h0 hm (by omega) w
    rw [ofN_mod] at this
    simpa using this
  have H3 : Hid (_ : Prop) := fun w => works_any w
  obtain ⟨b1, b2, b3⟩ := ofN_between h0 n
  generalize ofN m n = r at *
  have c0 : ¬ (m : Int) ≤ 0 := by omega
  have c1 : (1 : Int) ≤ (r : Int) := by omega
  have c2 : (r : Int) ≤ (m : Int) := by omega
  have c3 : (m : Int) - (m : Int) / 4 - 1 ≤ (r : Int) := by omega
  clear b1 b2 b3
  go_enter Try.func5, Try.ntmps5
  go_wp2_with fail
  refine Calls.mono (H3.out _) ?_
  rintro e w1 ⟨rfl, hw⟩
  have HW : Hid (_ : Prop) := hw
  clear hw
  go_wp2_with fail
  refine Calls.mono (H1.out _) ?_
  rintro e w2 ⟨rfl, hw⟩
  subst w2
  go_wp2_with fail
  refine Calls.mono (H2.out _) ?_
  rintro e w2 ⟨rfl, hw⟩
  subst w2
  go_wp2
  go_ret
  exact ⟨rfl, HW.out⟩
theorem between_walk (W : World) (b : Int) (hb : -9223372036854775808 ≤ b ∧ b ≤ 9223372036854775807) (n : Nat) (hn : n < 4294967296) : Calls Try.prog 5 #[.int .i64 b, .int .u32 (n : Int)] W fun e W' => e = .returned (.bool true) ∧ Below W.heap.size W W' := by
  by_cases h : b ≤ 0
  · exact between_low W b h n hn
  · obtain ⟨m, rfl⟩ : ∃ m : Nat, b = m := ⟨b.toNat, by omega⟩
    exact between_pos W m (by omega) (by omega) n hn
end Go.Proofs.Ytjgnnbbimkhjjaa
