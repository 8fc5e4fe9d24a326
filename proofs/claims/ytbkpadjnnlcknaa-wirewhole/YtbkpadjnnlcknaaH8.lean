/-
  Hex of whatever text an argument may be: its digits lie in a row that was made long enough.
-/
import Derived.Test.YtbkpadjnnlcknaaH2
import Derived.Laws.OwnMore
namespace Go.Proofs.Ytbkpadjnnlcknaa
open Go.RowKit
theorem step_append_fits {P : Program} (w : World) {ops : Array Oper} {o : Oper} {a : Act} {K : Act → World → Prop} {Q : Exit → Act → World → Prop} {E : Prop} (hgd : o.guard = none) (s x : Operand) (t : TypeId)
    (ho : o.op = .call { callee := .builtin .append, args := #[s, x], argTypes := #[t, t] })
    (base : Nat) (e : TypeId) (i : TypeInfo) (size : Nat) (ht : P.underlying t = some (.slice e)) (hi : P.info? e = some i) (hsize : i.size = size)
    (g n cap : Nat) (xs : List Value) (hs : a.eval s = .slice (some ⟨g, 0, none⟩) n cap) (hown : w.ownsRow base e size (.slice (some ⟨g, 0, none⟩) n cap) n xs)
    (ad : Addr) (m c : Nat) (news : List Value) (hx : a.eval x = .slice (some ad) m c) (hl : news.length = m * size) (hnews : ∀ j u, news[j]? = some u → w.cell? (ad.add j) = some u) (h1 : ∀ u ∈ news, u.oneCell' = true)
    (hroom : n + m ≤ cap)
    (h : ∀ w', w'.ownsRow base e size (.slice (some ⟨g, 0, none⟩) (n + m) cap) (n + m) (xs ++ news) → w.grownBy w' (some g) → K (a.put o.dst (.slice (some ⟨g, 0, none⟩) (n + m) cap)) w') :
    if Region.wanted o (yielded ops a.tmps) = true then Oper.wp P o a w K Q else E := by
  have hw : Region.wanted o (yielded ops a.tmps) = true := by simp [Region.wanted, hgd]
  rw [if_pos hw]
  obtain ⟨w', hr, h2, h3⟩ := run_append_fits (P := P) w base t o.type e i size ht hi hsize g n cap xs hown ad m c news hl hnews h1 hroom
  unfold Oper.wp execOp
  simp only [ho, resolve, invoke, builtin, Sem.run_bind, Sem.run_pure, Result.andThen_ok, List.map_toArray, List.map_cons, List.map_nil, hs, hx, hr]
  exact h w' h2 h3
set_option maxRecDepth 100000 in
set_option maxHeartbeats 1600000 in
theorem hex_big (s : ByteArray) (w : World) (h : s.size ≤ 140737488351232) :
    Calls Try.prog 21 #[.string s] w fun e w' => e = .returned (.string ⟨(hexL s.data.toList).toArray⟩) ∧ Below w.heap.size w w' := by
  obtain ⟨i0, hi, hz0, hz1, hz2⟩ := info_parts info5'
  obtain ⟨wm, hm, hown, hgrow⟩ := run_make_own w w.heap.size 52 5 i0 (.int .u8 0) 1 Try.underlying52 hi hz0 hz1 .i64 .i64 (2 * s.size) (by rw [hz2]; omega) (by unfold maxLen; omega) (Nat.le_refl _)
  rw [show ((2 * s.size : Nat) : Int) = 2 * (s.size : Int) from by omega] at hm
  go_enter Try.func21, Try.ntmps21
  go_wp2_with fail
  clear hm
  go_loopw [3, 11] (fun v i wr => ∃ k : Nat, k ≤ s.size ∧ i = .int .i64 k ∧ v = .slice (some ⟨w.heap.size, 0, none⟩) (2 * k) (2 * s.size) ∧ wr.ownsRow w.heap.size 5 1 v (2 * k) (cellsOf (hexL (s.data.toList.take k))) ∧ Below w.heap.size w wr) (fun _ i _ => s.size - (intOf i).toNat)
  case atStart => exact ⟨0, by omega, rfl, rfl, hown, (Below.refl _ _).grown hgrow (Nat.le_refl _) (fun k e => by cases e)⟩
  case round =>
    obtain ⟨k, hk, rfl, rfl, hown, hbel⟩ := hrel
    clear hgrow
    by_cases hlt : k < s.size
    · have hc := s[k].toNat_lt
      have hk' : k < s.data.toList.length := by simpa using hlt
      have HN : Hid (hexL (s.data.toList.take (k + 1)) = hexL (s.data.toList.take k) ++ two s[k]) := by
        unfold Hid; rw [List.take_succ_eq_append_getElem hk', hexL_snoc]; rfl
      obtain ⟨p1, e1, b1, t1⟩ : ∃ p1 : Nat, (s[k].toNat : Int) / 16 = (p1 : Int) ∧ p1 < 16 ∧ p1 = s[k].toNat / 16 := ⟨s[k].toNat / 16, by omega, by omega, rfl⟩
      obtain ⟨p2, e2, b2, t2⟩ : ∃ p2 : Nat, bits .and .u8 (s[k].toNat : Int) 15 = (p2 : Int) ∧ p2 < 16 ∧ p2 = s[k].toNat % 16 := ⟨s[k].toNat % 16, and15 _ hc, by omega, rfl⟩
      have T : Hid (two s[k] = [dig p1, dig p2]) := by unfold Hid; rw [t1, t2]; rfl
      have i1 : (p1 : Int) < 16 := by omega
      have i2 : (p2 : Int) < 16 := by omega
      clear t1 t2
      go_wp2_with fail
      go_region_held_law (fun _ => True) (trivial) (first | (refine step_append_fits _ rfl _ _ 52 rfl w.heap.size 5 i0 1 Try.underlying52 hi hz1 w.heap.size (2 * k) (2 * s.size) _ rfl (hown.alloc _) ⟨wr.heap.size, 0, none⟩ 2 2 [.int .u8 ((digs[p1]'b1).toNat : Int), .int .u8 ((digs[p2]'b2).toNat : Int)] rfl rfl (news2 wr _ _ 5) (one2 _ _) (by omega) ?_; intro w1 hown2 hgrow2))
      all_goals
        have hb2 : Below w.heap.size w w1 := (hbel.alloc hbel.size _).drew.grown hgrow2 (Nat.le_trans hbel.size (by simp)) (fun j e => (hown.lt j e).1)
        have hown3 : w1.ownsRow w.heap.size 5 1 (.slice (some ⟨w.heap.size, 0, none⟩) (2 * k + 2) (2 * s.size)) (2 * (k + 1)) (cellsOf (hexL (s.data.toList.take (k + 1)))) := by
          rw [HN.out, T.out]
          rw [show digs[p1]'b1 = dig p1 from dig_at p1 b1, show digs[p2]'b2 = dig p2 from dig_at p2 b2] at hown2
          rw [cells_two]
          exact hown2
        clear hgrow2 hown2 hown
        go_wp2
        go_roundw
        case rel => exact ⟨k + 1, by omega, by go_num, rfl, hown3, hb2⟩
        case measure => simp [intOf]; omega
    · obtain rfl : s.size = k := by omega
      have e : s.data.toList.take s.size = s.data.toList := List.take_of_length_le (by simp)
      rw [e] at hown
      have hback := conv_own (hexL s.data.toList) (by rw [hexL_length]; simpa using hown)
      go_wp2
      go_ret
      exact ⟨rfl, hbel⟩
end Go.Proofs.Ytbkpadjnnlcknaa
