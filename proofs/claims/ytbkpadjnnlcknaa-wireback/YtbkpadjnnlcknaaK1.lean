/-
  WireBack.
-/
import Derived.Test.YtbkpadjnnlcknaaA8
import Derived.Test.YtbkpadjnnlcknaaA9
import Derived.Deep.QuietTactic
import Derived.BigQuiet
namespace Go.Proofs.Ytbkpadjnnlcknaa
open Go.RowKit
theorem next_body (s : ByteArray) (V : Nat → Nat) (S : Nat → Int) (k n : Nat) (h : szOf (S k) = n) : s ++ ⟨(body V S k).toArray⟩ ++ ⟨(laid (V k % 256 ^ n) n).toArray⟩ = s ++ ⟨(body V S (k + 1)).toArray⟩ := by
  apply ByteArray.ext
  subst h
  simp [body, piece]
theorem ext_head (s : ByteArray) (l : List UInt8) : (s ++ ⟨l.toArray⟩).extract 0 s.size = s := by
  apply ByteArray.ext
  simp
theorem ext_tail (s : ByteArray) (l : List UInt8) : (s ++ ⟨l.toArray⟩).extract s.size (s ++ ⟨l.toArray⟩).size = ⟨l.toArray⟩ := by
  have h1 : s.data.toList.length = s.size := by simp
  have h2 : (ByteArray.mk l.toArray).size = l.length := rfl
  apply ByteArray.ext
  simp [h2]
theorem ext_list (a l : List UInt8) : (ByteArray.mk (a ++ l).toArray).extract a.length (ByteArray.mk (a ++ l).toArray).size = ⟨l.toArray⟩ := by
  have h2 : (ByteArray.mk (a ++ l).toArray).size = (a ++ l).length := rfl
  apply ByteArray.ext
  simp [h2]
theorem below_drewN {B : Nat} {a w : World} (h : Below B a w) (n : Nat) : Below B a (w.drewN n) := ⟨h.os, h.tape, h.output, h.size, h.block⟩
theorem RdrAt.drewN {w : World} {p : Nat} {s : ByteArray} (h : RdrAt w p s) (n : Nat) : RdrAt (w.drewN n) p s := ⟨h.c0, h.c1, h.f0, h.f1⟩
set_option maxRecDepth 100000 in
set_option maxHeartbeats 800000 in
theorem back_more (s : ByteArray) (b off len cap : Nat) (V : Nat → Nat) (S : Nat → Int) (w : World) (hs : s.size ≤ 140737488351232) (hb : b < w.heap.size) (hl : (50 : Int) < len) (hcap : len ≤ cap)
    (hV : ∀ i, i < len → w.cell? ⟨b, off + i * 2, none⟩ = some (.int .u64 (V i : Int)) ∧ V i < 18446744073709551616)
    (hS : ∀ i, i < len → w.cell? ⟨b, off + i * 2 + 1, none⟩ = some (.int .i64 (S i))) :
    Calls Try.prog 6 #[.string s, .slice (some ⟨b, off, none⟩) len cap] w fun e w' => e = .returned (.bool true) ∧ Below w.heap.size w w' := by
  have HV : Hid (_ : Prop) := hV
  have HS : Hid (_ : Prop) := hS
  clear hV hS
  go_enter Try.func6, Try.ntmps6
  go_wp2_with fail
  refine (works_any _).mono ?_
  rintro e w1 ⟨rfl, hb1⟩
  go_wp2_with fail
  go_loopw [5, 6] (fun t i wr => ∃ (k : Nat) (cur : ByteArray), k ≤ 50 ∧ i = .int .i64 k ∧ t = .string cur ∧ cur = s ++ ⟨(body V S k).toArray⟩ ∧ cur.size ≤ s.size + 8 * k ∧ Below w.heap.size w wr) (fun _ i _ => 50 - (intOf i).toNat)
  case atStart => exact ⟨0, s, by omega, rfl, rfl, by apply ByteArray.ext; simp [body], by omega, hb1⟩
  case round =>
    obtain ⟨k, cur, hk, rfl, rfl, hcur, hsz, hbel⟩ := hrel
    have HC : Hid (cur = s ++ ⟨(body V S k).toArray⟩) := hcur
    clear hcur
    by_cases hlt : k < 50
    · have cV := (hbel.cell (p := ⟨b, off + k * 2, none⟩) hb).trans (HV.out k (by omega)).1
      have cS := (hbel.cell (p := ⟨b, off + k * 2 + 1, none⟩) hb).trans (HS.out k (by omega))
      have hz := szOf_form (S k)
      have hzb := szOf_bd (S k)
      generalize hn : szOf (S k) = n at *
      have HN : Hid (szOf (S k) = n) := hn
      clear hn
      by_cases h8 : n < 8
      · obtain ⟨M, hM, hw, hM0⟩ : ∃ M : Nat, M = 256 ^ n ∧ IntKind.u64.wrap (2 ^ (8 * n)) = (M : Int) ∧ ¬ (M : Int) = 0 := ⟨256 ^ n, rfl, shl_form n h8, by have : 0 < 256 ^ n := Nat.pow_pos (by omega); omega⟩
        have HM : Hid (M = 256 ^ n) := hM
        clear hM
        go_wp2_with fail
        rw [show (V k : Int) % (M : Int) = ((V k % 256 ^ n : Nat) : Int) from by rw [← HM.out]; simp]
        refine (put_yes cur (V k % 256 ^ n) n wr (by omega) (by omega) (Nat.mod_lt _ (Nat.pow_pos (by omega))) (by omega)).mono ?_
        rintro e w2 ⟨rfl, hb2⟩
        obtain ⟨T, hT, hTs, hTb⟩ : ∃ T, T = cur ++ ⟨(laid (V k % 256 ^ n) n).toArray⟩ ∧ T = s ++ ⟨(body V S (k + 1)).toArray⟩ ∧ (T.size : Int) = cur.size + (n : Nat) := by
          refine ⟨_, rfl, ?_, ?_⟩
          · rw [HC.out]; exact next_body s V S k n HN.out
          · rw [ByteArray.size_append, show (ByteArray.mk (laid (V k % 256 ^ n) n).toArray).size = n from laid_length _ _]; omega
        rw [← hT]
        have HT : Hid (T = s ++ ⟨(body V S (k + 1)).toArray⟩) := hTs
        clear hT hTs cV cS
        go_wp2
        go_roundw
        case rel => exact ⟨k + 1, T, by omega, by go_num, rfl, HT.out, by omega, hbel.trans (hb2.mono hbel.size)⟩
        case measure => simp [intOf]; omega
      · obtain rfl : n = 8 := by omega
        have hv8 : V k % 256 ^ 8 = V k := Nat.mod_eq_of_lt (Nat.lt_of_lt_of_le (HV.out k (by omega)).2 (by decide))
        have H8 : Hid (V k % 256 ^ 8 = V k) := hv8
        clear hv8
        go_wp2_with fail
        rw [show (V k : Int) = ((V k % 256 ^ 8 : Nat) : Int) from by rw [H8.out]]
        refine (put_yes cur (V k % 256 ^ 8) 8 wr (by omega) (by omega) (Nat.mod_lt _ (Nat.pow_pos (by omega))) (by omega)).mono ?_
        rintro e w2 ⟨rfl, hb2⟩
        obtain ⟨T, hT, hTs, hTb⟩ : ∃ T, T = cur ++ ⟨(laid (V k % 256 ^ 8) 8).toArray⟩ ∧ T = s ++ ⟨(body V S (k + 1)).toArray⟩ ∧ (T.size : Int) = cur.size + (8 : Nat) := by
          refine ⟨_, rfl, ?_, ?_⟩
          · rw [HC.out]; exact next_body s V S k 8 HN.out
          · rw [ByteArray.size_append, show (ByteArray.mk (laid (V k % 256 ^ 8) 8).toArray).size = 8 from laid_length _ _]; omega
        rw [← hT]
        have HT : Hid (T = s ++ ⟨(body V S (k + 1)).toArray⟩) := hTs
        clear hT hTs cV cS
        go_wp2
        go_roundw
        case rel => exact ⟨k + 1, T, by omega, by go_num, rfl, HT.out, by omega, hbel.trans (hb2.mono hbel.size)⟩
        case measure => simp [intOf]; omega
    · obtain rfl : 50 = k := by omega
      have hp := hbel.size
      have x1 : cur.extract 0 s.size = s := by rw [HC.out]; exact ext_head _ _
      have x2 : cur.extract s.size cur.size = ⟨(tail V S 50 0).toArray⟩ := by rw [HC.out, tail_zero]; exact ext_tail _ _
      have x3 : s.size ≤ cur.size := by rw [HC.out, ByteArray.size_append]; omega
      have X1 : Hid (_ = _) := x1
      have X2 : Hid (_ = _) := x2
      clear x1 x2
      go_wp2_with fail
      refine (new_any cur wr).mono ?_
      rintro e w2 ⟨rfl, hr2, hb2, _⟩
      generalize hpp : wr.heap.size = p at *
      clear hpp
      go_wp2_with fail
      refine (take_yes p cur s.size w2 hr2 x3).mono ?_
      rintro e w3 ⟨rfl, rfl⟩
      rw [X1.out, X2.out]
      have hr3 := hr2.set ⟨(tail V S 50 0).toArray⟩
      have hb3 : Below w.heap.size w (w2.setCell ⟨p, 1, none⟩ (.string ⟨(tail V S 50 0).toArray⟩)) := (hbel.trans (hb2.mono hp)).setCell hp _
      generalize w2.setCell ⟨p, 1, none⟩ (.string ⟨(tail V S 50 0).toArray⟩) = w3 at *
      clear hr2 hb2 x3 hlt
      go_wp2_with fail
      go_loopw [14] (fun i wr => ∃ k : Nat, k ≤ 50 ∧ i = .int .i64 k ∧ RdrAt wr p ⟨(tail V S 50 k).toArray⟩ ∧ Below w.heap.size w wr) (fun i _ => 50 - (intOf i).toNat)
      case atStart => exact ⟨0, by omega, rfl, hr3, hb3⟩
      case round =>
        obtain ⟨j, hj, rfl, hrd, hbl⟩ := hrel
        clear hr3 hb3 hbel hb1
        by_cases hlt : j < 50
        · have cV := (hbl.cell (p := ⟨b, off + j * 2, none⟩) hb).trans (HV.out j (by omega)).1
          have cS := (hbl.cell (p := ⟨b, off + j * 2 + 1, none⟩) hb).trans (HS.out j (by omega))
          have hz := szOf_form (S j)
          have hzb := szOf_bd (S j)
          generalize hn : szOf (S j) = n at *
          have HN : Hid (szOf (S j) = n) := hn
          clear hn
          have ht : n ≤ (ByteArray.mk (tail V S 50 j).toArray).size := by
            show n ≤ (tail V S 50 j).length
            rw [tail_succ V S 50 j hlt, List.length_append, piece_length, HN.out]; omega
          have y1 : worth ((ByteArray.mk (tail V S 50 j).toArray).data.toList.take n) = V j % 256 ^ n := by
            have e := worth_piece V S j
            rw [HN.out] at e
            rw [← e, tail_succ V S 50 j hlt]
            simp [← HN.out, ← piece_length V S j]
          have y2 : (ByteArray.mk (tail V S 50 j).toArray).extract n (ByteArray.mk (tail V S 50 j).toArray).size = ⟨(tail V S 50 (j + 1)).toArray⟩ := by
            rw [tail_succ V S 50 j hlt, ← HN.out, ← piece_length V S j]
            exact ext_list _ _
          have Y1 : Hid (_ = _) := y1
          have Y2 : Hid (_ = _) := y2
          clear y1 y2
          go_wp2_with fail
          refine (num_yes p _ n wr hrd (by omega) (by omega) ht).mono ?_
          rintro e w4 ⟨rfl, hr4, hb4⟩
          rw [Y1.out]
          rw [Y2.out] at hr4
          have hbl4 : Below w.heap.size w w4 := hbl.trans (hb4.below hp hbl.size)
          have cV4 := (hbl4.cell (p := ⟨b, off + j * 2, none⟩) hb).trans (HV.out j (by omega)).1
          clear cV cS hrd ht
          by_cases h8 : n < 8
          · obtain ⟨M, hM, hw, hM0⟩ : ∃ M : Nat, M = 256 ^ n ∧ IntKind.u64.wrap (2 ^ (8 * n)) = (M : Int) ∧ ¬ (M : Int) = 0 := ⟨256 ^ n, rfl, shl_form n h8, by have : 0 < 256 ^ n := Nat.pow_pos (by omega); omega⟩
            rw [← hM]
            clear hM
            have g1 : ((n : Int) == 8) = false := by simp; omega
            have g2 : (n : Int) < 8 := by omega
            go_wp2_with fail
            go_quiet (fail)
            go_wp2
            go_roundw
            case rel => exact ⟨j + 1, by omega, by go_num, hr4.drewN nq, below_drewN hbl4 nq⟩
            case measure => simp [intOf]; omega
          · obtain rfl : n = 8 := by omega
            have hv8 : V j % 256 ^ 8 = V j := Nat.mod_eq_of_lt (Nat.lt_of_lt_of_le (HV.out j (by omega)).2 (by decide))
            rw [hv8]
            clear hv8
            go_wp2_with fail
            go_quiet (fail)
            go_wp2
            go_roundw
            case rel => exact ⟨j + 1, by omega, by go_num, hr4.drewN nq, below_drewN hbl4 nq⟩
            case measure => simp [intOf]; omega
        · obtain rfl : 50 = j := by omega
          have HR : Hid (RdrAt wr p ⟨#[]⟩) := by unfold Hid; rw [tail_all] at hrd; exact hrd
          clear hrd
          go_wp2_with fail
          refine (left_any p _ wr HR.out).mono ?_
          rintro e w5 ⟨rfl, rfl⟩
          go_wp2_with fail
          refine (rest_any p _ _ HR.out).mono ?_
          rintro e w6 ⟨rfl, rfl⟩
          go_wp2
          go_ret
          exact ⟨rfl, hbl.setCell hp _⟩
end Go.Proofs.Ytbkpadjnnlcknaa
