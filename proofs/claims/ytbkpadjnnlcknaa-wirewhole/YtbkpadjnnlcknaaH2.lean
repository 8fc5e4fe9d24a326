/-
  The contract of Hex.
-/
import Derived.Test.YtbkpadjnnlcknaaH1
import Derived.Deep.RegionLaw
import Derived.Deep.RegionHeldLaw
import Derived.Deep.AppendLies
import Derived.OwnWalk
import Derived.Laws.IdiomStrings
import Derived.Laws.BytesArg
namespace Go.Proofs.Ytbkpadjnnlcknaa
open Go.RowKit
theorem info5' : (Try.prog.info? 5).map (fun i => (i.zero, i.size, i.bytes)) = some (some (.int .u8 0), 1, 1) := by kernel_rfl
/-- The cells of bytes. -/
def cellsOf (l : List UInt8) : List Value := l.map fun b => Value.int .u8 (b.toNat : Int)
theorem conv_own {w : World} {base : Nat} {v : Value} (l : List UInt8) (h : w.ownsRow base 5 1 v l.length (cellsOf l)) : (convert 52 9 v).run Try.prog w = .ok (.string ⟨l.toArray⟩) w := by
  have h' := h
  obtain ⟨h1, h2⟩ := h
  rcases h2 with ⟨hv, h0⟩ | ⟨g, cap, cur, hv, hg, hh, r⟩
  · obtain rfl : l = [] := List.length_eq_zero_iff.1 h0
    rw [hv]
    exact run_convert_bytes_nil w 52 5 Try.underlying52 Try.underlying5 0 0 9 Try.underlying9
  · rw [hv]
    refine run_convert_bytes_back w 52 9 5 ⟨g, 0, none⟩ cap l Try.underlying52 Try.underlying5 Try.underlying9 fun j hj => h'.cells (g := g) (by rw [hv]; rfl) j _ ?_
    unfold cellsOf
    rw [List.getElem?_map, List.getElem?_eq_getElem hj]; rfl
theorem cells_two (l : List UInt8) (a b : UInt8) : cellsOf (l ++ [a, b]) = cellsOf l ++ [.int .u8 (a.toNat : Int), .int .u8 (b.toNat : Int)] := by simp [cellsOf]
theorem news2 (w : World) (a b : Value) (t : TypeId) : ∀ j u, [a, b][j]? = some u → (w.alloc (.cells #[a, b] t)).cell? (Addr.add ⟨w.heap.size, 0, none⟩ j) = some u := by
  intro j u hj
  match j, hj with
  | 0, hj => simp at hj; subst hj; simp [Addr.add]
  | 1, hj => simp at hj; subst hj; simp [Addr.add]
theorem one2 (a b : Int) : ∀ u ∈ [Value.int .u8 a, Value.int .u8 b], u.oneCell' = true := by
  intro u hu; simp at hu; rcases hu with rfl | rfl <;> rfl
set_option maxRecDepth 100000 in
set_option maxHeartbeats 400000 in
theorem hex_any (s : ByteArray) (w : World) (h : s.size ≤ 1048576) :
    Calls Try.prog 21 #[.string s] w fun e w' => e = .returned (.string ⟨(hexL s.data.toList).toArray⟩) ∧ Below w.heap.size w w' := by
  obtain ⟨i0, hi, hz0, hz1, hz2⟩ := info_parts info5'
  obtain ⟨wm, hm, hown, hgrow⟩ := run_make_own w w.heap.size 52 5 i0 (.int .u8 0) 1 Try.underlying52 hi hz0 hz1 .i64 .i64 (2 * s.size) (by rw [hz2]; omega) (by unfold maxLen; omega) (Nat.le_refl _)
  rw [show ((2 * s.size : Nat) : Int) = 2 * (s.size : Int) from by omega] at hm
  go_enter Try.func21, Try.ntmps21
  go_wp2_with fail
  clear hm
  go_loopw [3, 11] (fun v i wr => ∃ k : Nat, k ≤ s.size ∧ i = .int .i64 k ∧ wr.ownsRow w.heap.size 5 1 v (2 * k) (cellsOf (hexL (s.data.toList.take k))) ∧ Below w.heap.size w wr) (fun _ i _ => s.size - (intOf i).toNat)
  case atStart => exact ⟨0, by omega, rfl, hown, (Below.refl _ _).grown hgrow (Nat.le_refl _) (fun k e => by cases e)⟩
  case round =>
    obtain ⟨k, hk, rfl, hown, hbel⟩ := hrel
    clear hgrow
    by_cases hlt : k < s.size
    · have hc := s[k].toNat_lt
      have hk' : k < s.data.toList.length := by simpa using hlt
      have HN : Hid (hexL (s.data.toList.take (k + 1)) = hexL (s.data.toList.take k) ++ two s[k]) := by
        unfold Hid; rw [List.take_succ_eq_append_getElem hk', hexL_snoc]; rfl
      obtain ⟨p1, e1, b1, t1⟩ : ∃ p1 : Nat, (s[k].toNat : Int) / 16 = (p1 : Int) ∧ p1 < 16 ∧ p1 = s[k].toNat / 16 := ⟨s[k].toNat / 16, by omega, by omega, rfl⟩
      obtain ⟨p2, e2, b2, t2⟩ : ∃ p2 : Nat, bits .and .u8 (s[k].toNat : Int) 15 = (p2 : Int) ∧ p2 < 16 ∧ p2 = s[k].toNat % 16 := ⟨s[k].toNat % 16, and15 _ hc, by omega, rfl⟩
      have T : Hid (two s[k] = [dig p1, dig p2]) := by unfold Hid; rw [t1, t2]; rfl
      have i1 : (p1 : Int) < 16 := by omega
      have i2 : (p2 : Int) < 16 := by omega
      clear t1 t2
      go_wp2_with fail
      go_region_held_law (fun _ => True) (trivial) (first | (refine step_append_lies _ rfl _ _ 52 rfl w.heap.size 5 i0 (.int .u8 0) 1 1 Try.underlying52 hi hz0 hz1 hz2 rfl (by decide) _ _ _ rfl (hown.alloc _) ⟨wr.heap.size, 0, none⟩ 2 2 [.int .u8 ((digs[p1]'b1).toNat : Int), .int .u8 ((digs[p2]'b2).toNat : Int)] rfl rfl (news2 wr _ _ 5) (one2 _ _) (by decide) (by unfold maxLen; omega) (by omega) (Nat.le_trans hbel.size (by simp)) _ rfl ?_; intro g cap w1 hown2 hgrow2 hat hlt2))
      all_goals
        have hb2 : Below w.heap.size w w1 := (hbel.alloc hbel.size _).drew.grown hgrow2 (Nat.le_trans hbel.size (by simp)) (fun j e => (hown.lt j e).1)
        have hown3 : w1.ownsRow w.heap.size 5 1 (.slice (some ⟨g, 0, none⟩) (2 * k + 2) cap) (2 * (k + 1)) (cellsOf (hexL (s.data.toList.take (k + 1)))) := by
          rw [HN.out, T.out]
          rw [show digs[p1]'b1 = dig p1 from dig_at p1 b1, show digs[p2]'b2 = dig p2 from dig_at p2 b2] at hown2
          rw [cells_two]
          exact hown2
        clear hgrow2 hat hown2 hown
        go_wp2
        go_roundw
        case rel => exact ⟨k + 1, by omega, by go_num, hown3, hb2⟩
        case measure => simp [intOf]; omega
    · obtain rfl : s.size = k := by omega
      have e : s.data.toList.take s.size = s.data.toList := List.take_of_length_le (by simp)
      rw [e] at hown
      have hback := conv_own (hexL s.data.toList) (by rw [hexL_length]; simpa using hown)
      go_wp2
      go_ret
      exact ⟨rfl, hbel⟩
end Go.Proofs.Ytbkpadjnnlcknaa
