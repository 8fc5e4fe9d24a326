/-
  The reference's Split, at a colon.
-/
import Derived.Test.YteldgfmcfkmpdaaDoorR2
import Derived.Test.YteldgfmcfkmpdaaDoorD3
namespace Go.Proofs.YteldgfmcfkmpdaaDoor
open Go.RowKit
/-- What is split off when i places have been looked at, and where the next piece begins. -/
def splTo (l : List UInt8) : Nat → List (List UInt8) × Nat
  | 0 => ([], 0)
  | i + 1 => if i = l.length ∨ l[i]? = some 58 then ((splTo l i).1 ++ [(l.take i).drop (splTo l i).2], i + 1) else splTo l i
theorem splTo_at (l : List UInt8) (i : Nat) (h : i = l.length ∨ l[i]? = some 58) : splTo l (i + 1) = ((splTo l i).1 ++ [(l.take i).drop (splTo l i).2], i + 1) := by rw [splTo, if_pos h]
theorem splTo_no (l : List UInt8) (i : Nat) (h : ¬ (i = l.length ∨ l[i]? = some 58)) : splTo l (i + 1) = splTo l i := by rw [splTo, if_neg h]
theorem splTo_le (l : List UInt8) (i : Nat) : (splTo l i).2 ≤ i ∧ (splTo l i).1.length ≤ i := by
  induction i with
  | zero => simp [splTo]
  | succ i ih =>
    unfold splTo
    split
    · simp; omega
    · omega
theorem splTo_mem (l : List UInt8) (i : Nat) : ∀ x ∈ (splTo l i).1, x.length ≤ l.length := by
  induction i with
  | zero => simp [splTo]
  | succ i ih =>
    unfold splTo
    split
    · intro x hx
      rcases List.mem_append.mp hx with h | h
      · exact ih x h
      · simp at h; subst h; simp; omega
    · exact ih
theorem spl_one (x y : List UInt8) (hx : (58 : UInt8) ∉ x) (i : Nat) (hi : i ≤ x.length) : splTo (x ++ 58 :: y) i = ([], 0) := by
  induction i with
  | zero => rfl
  | succ i ih =>
    rw [splTo_no _ _ ?_, ih (by omega)]
    rintro (h | h)
    · simp at h; omega
    · rw [List.getElem?_append_left (by omega)] at h
      exact hx (List.mem_of_getElem? h)
theorem spl_two (x y : List UInt8) (hx : (58 : UInt8) ∉ x) (hy : (58 : UInt8) ∉ y) (j : Nat) (hj : j ≤ y.length) : splTo (x ++ 58 :: y) (x.length + 1 + j) = ([x], x.length + 1) := by
  induction j with
  | zero =>
    rw [Nat.add_zero, splTo_at _ _ (Or.inr (by simp)), spl_one x y hx _ (Nat.le_refl _)]
    simp
  | succ j ih =>
    rw [← Nat.add_assoc, splTo_no _ _ ?_, ih (by omega)]
    rintro (h | h)
    · simp at h; omega
    · rw [List.getElem?_append_right (by omega)] at h
      rw [show x.length + 1 + j - x.length = j + 1 by omega, List.getElem?_cons_succ] at h
      exact hy (List.mem_of_getElem? h)
theorem colon_no (u : Nat) : (58 : UInt8) ∉ Lib.decDigits u := fun e => by
  have := (digits_are u _ e).2
  revert this; decide
theorem spl_numT (h l : Nat) : (splTo (numT h l) ((numT h l).length + 1)).1 = [Lib.decDigits h, Lib.decDigits l] := by
  unfold numT
  have e : (Lib.decDigits h ++ 58 :: Lib.decDigits l).length = (Lib.decDigits h).length + 1 + (Lib.decDigits l).length := by simp; omega
  rw [splTo_at _ _ (Or.inl rfl), e, spl_two _ _ (colon_no h) (colon_no l) _ (Nat.le_refl _)]
  simp only [List.cons_append, List.nil_append, List.cons.injEq, and_true, true_and]
  rw [← e, List.take_length, show Lib.decDigits h ++ 58 :: Lib.decDigits l = (Lib.decDigits h ++ [58]) ++ Lib.decDigits l by simp, List.drop_left' (by simp)]
/-- The cells of texts. -/
def cellsT (l : List (List UInt8)) : List Value := l.map fun x => .string ⟨x.toArray⟩
theorem infoT : (Tryd.prog.info? 9).map (fun i => (i.zero, i.size, i.bytes)) = some (some (.string ⟨#[]⟩), 1, 16) := by kernel_rfl
theorem one_str (s : ByteArray) : ∀ u ∈ [Value.string s], u.oneCell' = true := by
  intro u h; simp at h; subst h; rfl
theorem sub_bytes (s : ByteArray) (a b : Nat) : s.extract a b = ⟨((s.data.toList.take b).drop a).toArray⟩ := by
  apply ByteArray.ext
  apply Array.toList_inj.mp
  simp [List.drop_take]
set_option maxRecDepth 100000 in
set_option maxHeartbeats 1600000 in
theorem split_any (s : ByteArray) (w : World) (hs : s.size ≤ 4294967296) :
    Calls Tryd.prog 55 #[.string s, .int .u8 58] w fun e w' => ∃ v, e = .returned v ∧ w'.ownsRow w.heap.size 9 1 v (splTo s.data.toList (s.size + 1)).1.length (cellsT (splTo s.data.toList (s.size + 1)).1) ∧ Below w.heap.size w w' := by
  obtain ⟨i0, hi, hz0, hz1, hz2⟩ := info_parts infoT
  go_enter Tryd.func55, Tryd.ntmps55
  go_wp2
  go_loopw [5, 6, 7] (fun t st i wr => ∃ k : Nat, k ≤ s.size + 1 ∧ i = .int .i64 k ∧ st = .int .i64 ((splTo s.data.toList k).2 : Int) ∧ wr.ownsRow w.heap.size 9 1 t (splTo s.data.toList k).1.length (cellsT (splTo s.data.toList k).1) ∧ Below w.heap.size w wr) (fun _ _ i _ => s.size + 1 - (intOf i).toNat)
  case atStart => exact ⟨0, by omega, rfl, rfl, World.ownsRow_nil _ _ _ _, Below.refl _ _⟩
  case round =>
    obtain ⟨k, hk, rfl, rfl, hown, hb⟩ := hrel
    obtain ⟨ad, c, rfl⟩ := slice_of_owns hown
    have HO : Hid (World.ownsRow _ _ _ _ _ _ _) := hown
    have HB : Hid (Below w.heap.size w wr) := hb
    have hle := splTo_le s.data.toList k
    have hll : s.data.toList.length = s.size := by simp
    clear hown hb
    by_cases hlt : k ≤ s.size
    · have hlti : (k : Int) ≤ (s.size : Int) := by omega
      by_cases hat : k = s.data.toList.length ∨ s.data.toList[k]? = some 58
      · have HE : Hid (_ = _) := splTo_at s.data.toList k hat
        have hsb := sub_bytes s (splTo s.data.toList k).2 k
        have hsl : ∀ W, (Instr.slice 9 (.string s) (some (.int .i64 ((splTo s.data.toList k).2 : Int))) (some (.int .i64 (k : Int))) none).run Tryd.prog W = .ok (.string ⟨((s.data.toList.take k).drop (splTo s.data.toList k).2).toArray⟩) W := fun W => by
          rw [run_slice_string W 9 _ .i64 .i64 ((splTo s.data.toList k).2 : Int) (k : Int) Tryd.underlying9 (by omega) (by omega) (by omega), Int.toNat_natCast, Int.toNat_natCast, hsb]
        clear hsb
        generalize (s.data.toList.take k).drop (splTo s.data.toList k).2 = piece at *
        generalize splTo s.data.toList k = sp at *
        obtain ⟨acc, st⟩ := sp
        simp only at *
        have hs0 := HB.out.size
        by_cases hend : k = s.size
        · subst hend
          go_wp2_with (at_builtin; refine wpList_append_own _ rfl _ _ 82 rfl w.heap.size 9 i0 (.string ⟨#[]⟩) 1 16 Tryd.underlying82 hi hz0 hz1 hz2 rfl (by decide) _ _ _ rfl (HO.out.alloc _) ⟨wr.heap.size, 0, none⟩ 1 1 [.string ⟨piece.toArray⟩] rfl rfl (news1 wr _ 9) (one_str _) (by unfold maxLen; omega) (by omega) (Nat.le_trans hs0 (by simp)) ?_; intro v5 w5 hown5 hgrow5 _)
          have hg5 := (World.grownBy_alloc wr _ _).trans hgrow5
          have HO5 : Hid (w5.ownsRow w.heap.size 9 1 v5 (acc ++ [piece]).length (cellsT (acc ++ [piece]))) := by
            unfold Hid
            rw [List.length_append, List.length_singleton, show cellsT (acc ++ [piece]) = cellsT acc ++ [.string ⟨piece.toArray⟩] by simp [cellsT]]
            exact hown5
          have HB5 : Hid (Below w.heap.size w w5) := HB.out.grown hg5 hs0 (fun j hj => (HO.out.lt j hj).1)
          clear hown5 hgrow5 hg5
          try go_wp2
          go_roundw
          case rel => exact ⟨s.size + 1, by omega, by go_num, by rw [HE.out]; go_num, by rw [HE.out]; exact HO5.out, HB5.out⟩
          case measure => simp [intOf] <;> omega
        · have hk2 : k < s.size := by omega
          have hne : ¬ ((k : Int) = (s.size : Int)) := by omega
          have h58 : (s[k].toNat : Int) = 58 := by
            rcases hat with h | h
            · omega
            · obtain ⟨hlt2, h⟩ := List.getElem?_eq_some_iff.mp h
              have : s[k] = 58 := h
              rw [this]; rfl
          go_wp2_with (at_builtin; refine wpList_append_own _ rfl _ _ 82 rfl w.heap.size 9 i0 (.string ⟨#[]⟩) 1 16 Tryd.underlying82 hi hz0 hz1 hz2 rfl (by decide) _ _ _ rfl (HO.out.alloc _) ⟨wr.heap.size, 0, none⟩ 1 1 [.string ⟨piece.toArray⟩] rfl rfl (news1 wr _ 9) (one_str _) (by unfold maxLen; omega) (by omega) (Nat.le_trans hs0 (by simp)) ?_; intro v5 w5 hown5 hgrow5 _)
          have hg5 := (World.grownBy_alloc wr _ _).trans hgrow5
          have HO5 : Hid (w5.ownsRow w.heap.size 9 1 v5 (acc ++ [piece]).length (cellsT (acc ++ [piece]))) := by
            unfold Hid
            rw [List.length_append, List.length_singleton, show cellsT (acc ++ [piece]) = cellsT acc ++ [.string ⟨piece.toArray⟩] by simp [cellsT]]
            exact hown5
          have HB5 : Hid (Below w.heap.size w w5) := HB.out.grown hg5 hs0 (fun j hj => (HO.out.lt j hj).1)
          clear hown5 hgrow5 hg5
          try go_wp2
          go_roundw
          case rel => exact ⟨k + 1, by omega, by go_num, by rw [HE.out]; go_num, by rw [HE.out]; exact HO5.out, HB5.out⟩
          case measure => simp [intOf] <;> omega
      · have HE : Hid (_ = _) := splTo_no s.data.toList k hat
        have hk2 : k < s.size := by
          have : ¬ (k = s.data.toList.length) := fun h => hat (Or.inl h)
          omega
        have hne : ¬ ((k : Int) = (s.size : Int)) := by omega
        have h58 : ¬ ((s[k].toNat : Int) = 58) := fun h => by
          refine hat (Or.inr ?_)
          rw [List.getElem?_eq_some_iff]
          refine ⟨by omega, ?_⟩
          show s[k] = 58
          apply UInt8.toNat_inj.mp
          have : (58 : UInt8).toNat = 58 := rfl
          omega
        have hneb : ((k : Int) == (s.size : Int)) = false := by rw [beq_eq_false_iff_ne]; exact hne
        have h58b : ((s[k].toNat : Int) == 58) = false := by rw [beq_eq_false_iff_ne]; exact h58
        generalize splTo s.data.toList k = sp at *
        go_wp2
        go_roundw
        case rel => exact ⟨k + 1, by omega, by go_num, by rw [HE.out], by rw [HE.out]; exact HO.out, HB.out⟩
        case measure => simp [intOf] <;> omega
    · obtain rfl : k = s.size + 1 := by omega
      have hge : ¬ ((s.size : Int) + 1 ≤ (s.size : Int)) := by omega
      go_wp2
      go_ret
      exact ⟨_, rfl, HO.out, HB.out⟩
end Go.Proofs.YteldgfmcfkmpdaaDoor
