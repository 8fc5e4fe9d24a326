/-
  The contract of the reference's Hex.
-/
import Derived.Test.YtbkpadjnnlcknaaH2
namespace Go.Proofs.Ytbkpadjnnlcknaa
open Go.RowKit
theorem news1 (w : World) (a : Value) (t : TypeId) : ∀ j u, [a][j]? = some u → (w.alloc (.cells #[a] t)).cell? (Addr.add ⟨w.heap.size, 0, none⟩ j) = some u := by
  intro j u hj
  match j, hj with
  | 0, hj => simp at hj; subst hj; simp [Addr.add]
theorem one1 (a : Int) : ∀ u ∈ [Value.int .u8 a], u.oneCell' = true := by
  intro u hu; simp at hu; subst hu; rfl
theorem cells_one (l : List UInt8) (a : UInt8) : cellsOf (l ++ [a]) = cellsOf l ++ [.int .u8 (a.toNat : Int)] := by simp [cellsOf]
set_option maxRecDepth 100000 in
set_option maxHeartbeats 400000 in
theorem rhex_any (s : ByteArray) (w : World) (h : s.size ≤ 1048576) :
    Calls Try.prog 22 #[.string s] w fun e w' => e = .returned (.string ⟨(hexL s.data.toList).toArray⟩) ∧ Below w.heap.size w w' := by
  obtain ⟨i0, hi, hz0, hz1, hz2⟩ := info_parts info5'
  go_enter Try.func22, Try.ntmps22
  go_wp2_with fail
  go_loopw [3, 4] (fun v i wr => ∃ k : Nat, k ≤ s.size ∧ i = .int .i64 k ∧ wr.ownsRow w.heap.size 5 1 v (2 * k) (cellsOf (hexL (s.data.toList.take k))) ∧ Below w.heap.size w wr) (fun _ i _ => s.size - (intOf i).toNat)
  case atStart => exact ⟨0, by omega, rfl, World.ownsRow_nil _ _ _ _, Below.refl _ _⟩
  case round =>
    obtain ⟨k, hk, rfl, hown, hbel⟩ := hrel
    by_cases hlt : k < s.size
    · have hc := s[k].toNat_lt
      have hk' : k < s.data.toList.length := by simpa using hlt
      have HN : Hid (hexL (s.data.toList.take (k + 1)) = hexL (s.data.toList.take k) ++ two s[k]) := by
        unfold Hid; rw [List.take_succ_eq_append_getElem hk', hexL_snoc]; rfl
      obtain ⟨p1, e1, b1, t1⟩ : ∃ p1 : Nat, (s[k].toNat : Int) / 16 = (p1 : Int) ∧ p1 < 16 ∧ p1 = s[k].toNat / 16 := ⟨s[k].toNat / 16, by omega, by omega, rfl⟩
      obtain ⟨p2, e2, b2, t2⟩ : ∃ p2 : Nat, (s[k].toNat : Int) % 16 = (p2 : Int) ∧ p2 < 16 ∧ p2 = s[k].toNat % 16 := ⟨s[k].toNat % 16, by omega, by omega, rfl⟩
      have T : Hid (two s[k] = [dig p1, dig p2]) := by unfold Hid; rw [t1, t2]; rfl
      have i1 : (p1 : Int) < 16 := by omega
      have i2 : (p2 : Int) < 16 := by omega
      have g1 : digs[p1]'b1 = dig p1 := dig_at p1 b1
      have g2 : digs[p2]'b2 = dig p2 := dig_at p2 b2
      have G1 : Hid (_ = _) := g1
      have G2 : Hid (_ = _) := g2
      have hsz := hbel.size
      clear t1 t2 g1 g2
      go_wp2_with (first
        | (at_builtin; refine wpList_append_own _ rfl _ _ 52 rfl w.heap.size 5 i0 (.int .u8 0) 1 1 Try.underlying52 hi hz0 hz1 hz2 rfl (by decide) _ _ _ rfl (hown.alloc _) ⟨wr.heap.size, 0, none⟩ 1 1 [.int .u8 ((digs[p1]'b1).toNat : Int)] rfl rfl (news1 wr _ 5) (one1 _) (by unfold maxLen; omega) (by omega) (Nat.le_trans hsz (by simp)) ?_; intro v1 w1 hown1 hgrow1 _; have hb1 : Below w.heap.size w w1 := (hbel.alloc hsz _).grown hgrow1 (Nat.le_trans hsz (by simp)) (fun j e => (hown.lt j e).1); clear hgrow1)
        | (at_builtin; refine wpList_append_own _ rfl _ _ 52 rfl w.heap.size 5 i0 (.int .u8 0) 1 1 Try.underlying52 hi hz0 hz1 hz2 rfl (by decide) _ _ _ rfl (hown1.alloc _) ⟨w1.heap.size, 0, none⟩ 1 1 [.int .u8 ((digs[p2]'b2).toNat : Int)] rfl rfl (news1 w1 _ 5) (one1 _) (by unfold maxLen; omega) (by omega) (Nat.le_trans hb1.size (by simp)) ?_; intro v2 w2 hown2 hgrow2 _; have hb2 : Below w.heap.size w w2 := (hb1.alloc hb1.size _).grown hgrow2 (Nat.le_trans hb1.size (by simp)) (fun j e => (hown1.lt j e).1); clear hgrow2))
      have hown3 : w2.ownsRow w.heap.size 5 1 v2 (2 * (k + 1)) (cellsOf (hexL (s.data.toList.take (k + 1)))) := by
        rw [HN.out, T.out]
        rw [G1.out, G2.out] at hown2
        rw [cells_two]
        rw [List.append_assoc] at hown2
        exact hown2
      clear hown2 hown1 hown
      go_roundw
      case rel => exact ⟨k + 1, by omega, by go_num, hown3, hb2⟩
      case measure => simp [intOf]; omega
    · obtain rfl : s.size = k := by omega
      have e : s.data.toList.take s.size = s.data.toList := List.take_of_length_le (by simp)
      rw [e] at hown
      have hback := conv_own (hexL s.data.toList) (by rw [hexL_length]; simpa using hown)
      go_wp2
      go_ret
      exact ⟨rfl, hbel⟩
end Go.Proofs.Ytbkpadjnnlcknaa
