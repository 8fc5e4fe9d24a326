/-
  The contract of the reference's Unhex.
-/
import Derived.Test.YtbkpadjnnlcknaaH6
namespace Go.Proofs.Ytbkpadjnnlcknaa
open Go.RowKit
set_option maxRecDepth 100000 in
set_option maxHeartbeats 400000 in
theorem runhex_any (s : ByteArray) (w : World) (h : s.size ≤ 140737488351232) :
    Calls Try.prog 20 #[.string s] w fun e w' => e = .returned (unOut s) ∧ Below w.heap.size w w' := by
  by_cases he : s.size % 2 = 0
  · obtain ⟨i0, hi, hz0, hz1, hz2⟩ := info_parts info5'
    obtain ⟨n, hn⟩ : ∃ n, s.size = 2 * n := ⟨s.size / 2, by omega⟩
    have hd : ((s.size : Nat) : Int).tdiv 2 = (n : Int) := by rw [Int.tdiv_eq_ediv_of_nonneg (by omega)]; omega
    have hr : ((s.size : Nat) : Int).tmod 2 = 0 := by rw [Int.tmod_eq_emod_of_nonneg (by omega)]; omega
    have hwn : wrap64 (n : Int) = (n : Int) := by unfold wrap64; omega
    have HN : Hid (s.size = 2 * n) := hn
    clear hn
    go_enter Try.func20, Try.ntmps20
    go_wp2_with fail
    clear hd hr hwn
    go_loopw [4, 5] (fun v i wr => ∃ k : Nat, k ≤ n ∧ i = .int .i64 (2 * (k : Int)) ∧ wr.ownsRow w.heap.size 5 1 v k (cellsOf (unB s k)) ∧ Below w.heap.size w wr ∧ ∀ j, j < k → okp s j) (fun _ i _ => 2 * n - (intOf i).toNat)
    case atStart => exact ⟨0, by omega, rfl, World.ownsRow_nil _ _ _ _, Below.refl _ _, fun j hj => by omega⟩
    case round =>
      obtain ⟨k, hk, rfl, hown, hbel, hall⟩ := hrel
      have HA : Hid (∀ j, j < k → okp s j) := hall
      clear hall
      by_cases hlt : k < n
      · have l1 : 2 * k < s.size := by have := HN.out; omega
        have l2 : 2 * k + 1 < s.size := by have := HN.out; omega
        have l3 : 2 * (k : Int) < s.size := by omega
        have l4 : 2 * (k : Int) + 1 < s.size := by omega
        have x1 := atB_eq s (2 * k) l1
        have x2 := atB_eq s (2 * k + 1) l2
        have b1 := dv_bd (atB s (2 * k))
        have b2 := dv_bd (atB s (2 * k + 1))
        have C1 := fun w => digit_any (atB s (2 * k)) w
        have C2 := fun w => digit_any (atB s (2 * k + 1)) w
        by_cases n1 : dv (atB s (2 * k)) < 0
        · have g1 : dw (atB s (2 * k)) = 16 := if_pos n1
          have B : Hid (¬ okp s k) := fun x => by have := x.1; omega
          generalize dw (atB s (2 * k)) = d1 at *
          generalize dw (atB s (2 * k + 1)) = d2 at *
          generalize atB s (2 * k) = c1 at *
          generalize atB s (2 * k + 1) = c2 at *
          have K1 : Hid (_ : Prop) := C1
          have K2 : Hid (_ : Prop) := C2
          clear C1 C2
          go_wp2_with fail
          refine (K1.out _).mono ?_
          rintro e w1 ⟨rfl, rfl⟩
          go_wp2_with fail
          refine (K2.out _).mono ?_
          rintro e w2 ⟨rfl, rfl⟩
          go_wp2
          go_ret2
          exact ⟨ret_val (unOut_bad s k (by have := HN.out; omega) B.out).symm, hbel⟩
        · by_cases n2 : dv (atB s (2 * k + 1)) < 0
          · have g2 : dw (atB s (2 * k + 1)) = 16 := if_pos n2
            have g1 : dw (atB s (2 * k)) ≤ 15 := by unfold dw; rw [if_neg n1]; omega
            have B : Hid (¬ okp s k) := fun x => by have := x.2; omega
            generalize dw (atB s (2 * k)) = d1 at *
            generalize dw (atB s (2 * k + 1)) = d2 at *
            generalize atB s (2 * k) = c1 at *
            generalize atB s (2 * k + 1) = c2 at *
            have K1 : Hid (_ : Prop) := C1
            have K2 : Hid (_ : Prop) := C2
            clear C1 C2
            go_wp2_with fail
            refine (K1.out _).mono ?_
            rintro e w1 ⟨rfl, rfl⟩
            go_wp2_with fail
            refine (K2.out _).mono ?_
            rintro e w2 ⟨rfl, rfl⟩
            go_wp2
            go_ret2
            exact ⟨ret_val (unOut_bad s k (by have := HN.out; omega) B.out).symm, hbel⟩
          · have G : Hid (okp s k) := ⟨by omega, by omega⟩
            have P : (pv s k).toNat = 16 * dw (atB s (2 * k)) + dw (atB s (2 * k + 1)) := by
              have e1 : dv (atB s (2 * k)) = (dw (atB s (2 * k)) : Int) := by unfold dw; rw [if_neg n1]; omega
              have e2 : dv (atB s (2 * k + 1)) = (dw (atB s (2 * k + 1)) : Int) := by unfold dw; rw [if_neg n2]; omega
              exact pv_toNat s k _ _ e1 e2 (by omega) (by omega)
            have g1 : dw (atB s (2 * k)) ≤ 15 := by unfold dw; rw [if_neg n1]; omega
            have g2 : dw (atB s (2 * k + 1)) ≤ 15 := by unfold dw; rw [if_neg n2]; omega
            clear n1 n2 b1 b2
            generalize dw (atB s (2 * k)) = a at *
            generalize dw (atB s (2 * k + 1)) = b at *
            generalize atB s (2 * k) = c1 at *
            generalize atB s (2 * k + 1) = c2 at *
            have hX : 16 * (a : Int) + (b : Int) = ((pv s k).toNat : Int) := by rw [P]; omega
            have HP : Hid (_ = _) := P
            clear P
            have hsz := hbel.size
            have K1 : Hid (_ : Prop) := C1
            have K2 : Hid (_ : Prop) := C2
            clear C1 C2
            go_wp2_with fail
            refine (K1.out _).mono ?_
            rintro e w1 ⟨rfl, rfl⟩
            go_wp2_with fail
            refine (K2.out _).mono ?_
            rintro e w2 ⟨rfl, rfl⟩
            go_wp2_with (at_builtin; refine wpList_append_own _ rfl _ _ 52 rfl w.heap.size 5 i0 (.int .u8 0) 1 1 Try.underlying52 hi hz0 hz1 hz2 rfl (by decide) _ _ _ rfl (hown.alloc _) ⟨w2.heap.size, 0, none⟩ 1 1 [.int .u8 ((pv s k).toNat : Int)] rfl rfl (news1 w2 _ 5) (one1 _) (by unfold maxLen; omega) (by omega) (Nat.le_trans hsz (by simp)) ?_; intro v3 w3 hown3 hgrow3 _; have hb3 : Below w.heap.size w w3 := (hbel.alloc hsz _).grown hgrow3 (Nat.le_trans hsz (by simp)) (fun j e => (hown.lt j e).1); clear hgrow3)
            have hown4 : w3.ownsRow w.heap.size 5 1 v3 (k + 1) (cellsOf (unB s (k + 1))) := by
              rw [unB_succ, cells_one]; exact hown3
            clear hown3 hown hX
            go_roundw
            case rel => exact ⟨k + 1, by omega, by go_num, hown4, hb3, fun j hj => by
              by_cases h : j = k
              · subst h; exact G.out
              · exact HA.out j (by omega)⟩
            case measure => simp [intOf]; omega
      · obtain rfl : n = k := by omega
        have hback := conv_own (unB s n) (by rw [unB_length]; exact hown)
        have hs2 : ¬ (2 * (n : Int) < s.size) := by have := HN.out; omega
        have hu : unOut s = .tuple #[.string ⟨(unB s n).toArray⟩, .int .i64 0] := by
          have e : s.size / 2 = n := by have := HN.out; omega
          rw [unOut_good s he (by rw [e]; exact HA.out), e]
        have HU : Hid (_ = _) := hu
        clear hu
        go_wp2
        go_ret2
        exact ⟨ret_val HU.out.symm, hbel⟩
  · have hr : ((s.size : Nat) : Int).tmod 2 = 1 := by rw [Int.tmod_eq_emod_of_nonneg (by omega)]; omega
    go_enter Try.func20, Try.ntmps20
    go_wp2
    go_ret2
    exact ⟨ret_val (unOut_odd s he).symm, Below.refl _ _⟩
end Go.Proofs.Ytbkpadjnnlcknaa
