/-
  The contract of Unhex.
-/
import Derived.Test.YtbkpadjnnlcknaaH5
namespace Go.Proofs.Ytbkpadjnnlcknaa
open Go.RowKit
theorem ret_val {a b : Value} (h : a = b) : Ending.returned a = .returned b := by rw [h]
theorem or_digits : ∀ a, a < 16 → ∀ b, b < 16 → bits .or .i64 ((a : Nat) * 16 : Int) ((b : Nat) : Int) % 256 = ((16 * a + b : Nat) : Int) := by decide +kernel
set_option maxRecDepth 100000 in
set_option maxHeartbeats 400000 in
theorem unhex_any (s : ByteArray) (w : World) (h : s.size ≤ 140737488351232) :
    Calls Try.prog 19 #[.string s] w fun e w' => e = .returned (unOut s) ∧ Below w.heap.size w w' := by
  by_cases he : s.size % 2 = 0
  · obtain ⟨i0, hi, hz0, hz1, hz2⟩ := info_parts info5'
    obtain ⟨n, hn⟩ : ∃ n, s.size = 2 * n := ⟨s.size / 2, by omega⟩
    obtain ⟨wm, hm, hown, hgrow⟩ := run_make_own w w.heap.size 52 5 i0 (.int .u8 0) 1 Try.underlying52 hi hz0 hz1 .i64 .i64 n (by rw [hz2]; omega) (by unfold maxLen; omega) (Nat.le_refl _)
    have hd : ((s.size : Nat) : Int).tdiv 2 = (n : Int) := by rw [Int.tdiv_eq_ediv_of_nonneg (by omega)]; omega
    have hr : ((s.size : Nat) : Int).tmod 2 = 0 := by rw [Int.tmod_eq_emod_of_nonneg (by omega)]; omega
    have hwn : wrap64 (n : Int) = (n : Int) := by unfold wrap64; omega
    have HN : Hid (s.size = 2 * n) := hn
    clear hn
    go_enter Try.func19, Try.ntmps19
    go_wp2_with fail
    clear hm hd hr hwn
    go_loopw [4, 5] (fun v i wr => ∃ k : Nat, k ≤ n ∧ i = .int .i64 (2 * (k : Int)) ∧ wr.ownsRow w.heap.size 5 1 v k (cellsOf (unB s k)) ∧ Below w.heap.size w wr ∧ ∀ j, j < k → okp s j) (fun _ i _ => 2 * n - (intOf i).toNat)
    case atStart => exact ⟨0, by omega, rfl, hown, (Below.refl _ _).grown hgrow (Nat.le_refl _) (fun k e => by cases e), fun j hj => by omega⟩
    case round =>
      obtain ⟨k, hk, rfl, hown, hbel, hall⟩ := hrel
      have HA : Hid (∀ j, j < k → okp s j) := hall
      clear hall hgrow
      by_cases hlt : k < n
      · have l1 : 2 * k < s.size := by have := HN.out; omega
        have l2 : 2 * k + 1 < s.size := by have := HN.out; omega
        have l3 : 2 * (k : Int) < s.size := by omega
        have l4 : 2 * (k : Int) + 1 < s.size := by omega
        have x1 := atB_eq s (2 * k) l1
        have x2 := atB_eq s (2 * k + 1) l2
        have b1 := dv_bd (atB s (2 * k))
        have b2 := dv_bd (atB s (2 * k + 1))
        have C1 := fun w => idx_any (atB s (2 * k)) w
        have C2 := fun w => idx_any (atB s (2 * k + 1)) w
        by_cases n1 : dv (atB s (2 * k)) < 0
        · have B : Hid (¬ okp s k) := fun x => by have := x.1; omega
          generalize dv (atB s (2 * k)) = d1 at *
          generalize dv (atB s (2 * k + 1)) = d2 at *
          generalize atB s (2 * k) = c1 at *
          generalize atB s (2 * k + 1) = c2 at *
          have K1 : Hid (_ : Prop) := C1
          have K2 : Hid (_ : Prop) := C2
          clear C1 C2
          go_wp2_with fail
          refine (K1.out _).mono ?_
          rintro e w1 ⟨rfl, rfl⟩
          go_wp2_with fail
          refine (K2.out _).mono ?_
          rintro e w2 ⟨rfl, rfl⟩
          go_wp2
          go_ret2
          exact ⟨ret_val (unOut_bad s k (by have := HN.out; omega) B.out).symm, hbel⟩
        · by_cases n2 : dv (atB s (2 * k + 1)) < 0
          · have B : Hid (¬ okp s k) := fun x => by have := x.2; omega
            generalize dv (atB s (2 * k)) = d1 at *
            generalize dv (atB s (2 * k + 1)) = d2 at *
            generalize atB s (2 * k) = c1 at *
            generalize atB s (2 * k + 1) = c2 at *
            have K1 : Hid (_ : Prop) := C1
            have K2 : Hid (_ : Prop) := C2
            clear C1 C2
            go_wp2_with fail
            refine (K1.out _).mono ?_
            rintro e w1 ⟨rfl, rfl⟩
            go_wp2_with fail
            refine (K2.out _).mono ?_
            rintro e w2 ⟨rfl, rfl⟩
            go_wp2
            go_ret2
            exact ⟨ret_val (unOut_bad s k (by have := HN.out; omega) B.out).symm, hbel⟩
          · have G : Hid (okp s k) := ⟨by omega, by omega⟩
            have P := pv_toNat s k
            have HP : Hid (_ : Prop) := P
            clear P
            generalize dv (atB s (2 * k)) = d1 at *
            generalize dv (atB s (2 * k + 1)) = d2 at *
            generalize atB s (2 * k) = c1 at *
            generalize atB s (2 * k + 1) = c2 at *
            obtain ⟨a, rfl⟩ := Int.eq_ofNat_of_zero_le (show 0 ≤ d1 by omega)
            obtain ⟨b, rfl⟩ := Int.eq_ofNat_of_zero_le (show 0 ≤ d2 by omega)
            have hX : bits .or .i64 ((a : Int) * 16) (b : Int) % 256 = ((pv s k).toNat : Int) := by
              rw [HP.out a b rfl rfl (by omega) (by omega)]
              exact or_digits a (by omega) b (by omega)
            have hsz := hbel.size
            have K1 : Hid (_ : Prop) := C1
            have K2 : Hid (_ : Prop) := C2
            clear C1 C2
            go_wp2_with fail
            refine (K1.out _).mono ?_
            rintro e w1 ⟨rfl, rfl⟩
            go_wp2_with fail
            refine (K2.out _).mono ?_
            rintro e w2 ⟨rfl, rfl⟩
            go_wp2_with (at_builtin; refine wpList_append_own _ rfl _ _ 52 rfl w.heap.size 5 i0 (.int .u8 0) 1 1 Try.underlying52 hi hz0 hz1 hz2 rfl (by decide) _ _ _ rfl (hown.alloc _) ⟨w2.heap.size, 0, none⟩ 1 1 [.int .u8 ((pv s k).toNat : Int)] rfl rfl (news1 w2 _ 5) (one1 _) (by unfold maxLen; omega) (by omega) (Nat.le_trans hsz (by simp)) ?_; intro v3 w3 hown3 hgrow3 _; have hb3 : Below w.heap.size w w3 := (hbel.alloc hsz _).grown hgrow3 (Nat.le_trans hsz (by simp)) (fun j e => (hown.lt j e).1); clear hgrow3)
            have hown4 : w3.ownsRow w.heap.size 5 1 v3 (k + 1) (cellsOf (unB s (k + 1))) := by
              rw [unB_succ, cells_one]; exact hown3
            clear hown3 hown hX
            go_roundw
            case rel => exact ⟨k + 1, by omega, by go_num, hown4, hb3, fun j hj => by
              by_cases h : j = k
              · subst h; exact G.out
              · exact HA.out j (by omega)⟩
            case measure => simp [intOf]; omega
      · obtain rfl : n = k := by omega
        have hback := conv_own (unB s n) (by rw [unB_length]; exact hown)
        have hs2 : ¬ (2 * (n : Int) < s.size) := by have := HN.out; omega
        have hu : unOut s = .tuple #[.string ⟨(unB s n).toArray⟩, .int .i64 0] := by
          have e : s.size / 2 = n := by have := HN.out; omega
          rw [unOut_good s he (by rw [e]; exact HA.out), e]
        have HU : Hid (_ = _) := hu
        clear hu
        go_wp2
        go_ret2
        exact ⟨ret_val HU.out.symm, hbel⟩
  · have hr : ((s.size : Nat) : Int).tmod 2 = 1 := by rw [Int.tmod_eq_emod_of_nonneg (by omega)]; omega
    go_enter Try.func19, Try.ntmps19
    go_wp2
    go_ret2
    exact ⟨ret_val (unOut_odd s he).symm, Below.refl _ _⟩
end Go.Proofs.Ytbkpadjnnlcknaa
