/-
  Flat, and the reference's Flat and Has.
-/
import Derived.Test.YtbdfigfjoiefiabGreatDoorM1
import Derived.Test.YtbdfigfjoiefiabGreatDoorQ1
namespace Go.Proofs.YtbdfigfjoiefiabGreatDoor
open Go.RowKit
theorem flat_le (L : List Sg) (h : ∀ s ∈ L, s.2.length ≤ 1048576) : (flatOf L).length ≤ L.length * 1048576 := by
  induction L with
  | nil => simp [flatOf]
  | cons s L ih =>
    have h1 := h s (by simp)
    have h2 := ih (fun t ht => h t (by simp [ht]))
    simp only [flatOf, List.flatMap_cons, List.length_append, List.length_cons, Nat.add_mul] at *
    omega
theorem cellsU_append (l m : List Nat) : cellsU (l ++ m) = cellsU l ++ cellsU m := by simp [cellsU]
theorem cellsU_length (l : List Nat) : (cellsU l).length = l.length := by simp [cellsU]
/-- More ASs behind. -/
theorem OwnU.more {w : World} {base n : Nat} {v : Value} {l m : List Nat} (h : w.ownsRow base 26 1 v n (cellsU l ++ cellsU m)) (hn : n = l.length + m.length) (hl : ∀ x ∈ l, x < 4294967296) (hm : ∀ x ∈ m, x < 4294967296) (hb : l.length + m.length ≤ 35184372088832) : OwnU w base v (l ++ m) := by
  refine ⟨?_, fun x hx => ?_, by simpa using hb⟩
  · rw [List.length_append, ← hn, cellsU_append]; exact h
  · rcases List.mem_append.mp hx with h | h
    · exact hl x h
    · exact hm x h
set_option maxRecDepth 100000 in
set_option maxHeartbeats 800000 in
theorem flat_any (v : Value) (L : List Sg) (w : World) (h : PathAt w v L) (hL : L.length ≤ 20) (hs : ∀ s ∈ L, s.2.length ≤ 1048576) :
    Calls Tryz.prog 7 #[v] w fun e w' => ∃ v', e = .returned v' ∧ OwnU w' w.heap.size v' (flatOf L) ∧ Below w.heap.size w w' := by
  obtain ⟨i0, hi, hz0, hz1, hz2⟩ := info_parts info23
  have HLT : Hid (_ : Prop) := h.lt
  obtain ⟨ad, b, off, cap, rfl, had, ⟨hcap, hl⟩, hr⟩ := h
  have HR : Hid (RowS _ _ _ _) := hr
  have HS : Hid (∀ s ∈ L, s.2.length ≤ 1048576) := hs
  clear hr hs
  go_enter Tryz.func7, Tryz.ntmps7
  go_wp2
  go_loopw [3, 8] (fun t i wr => ∃ n : Nat, n ≤ L.length ∧ i = .int .i64 n ∧ OwnU wr w.heap.size t (flatOf (L.take n)) ∧ Below w.heap.size w wr) (fun _ i _ => L.length - (intOf i).toNat)
  case atStart => exact ⟨0, Nat.zero_le _, rfl, ⟨World.ownsRow_nil _ _ _ _, by simp [flatOf], by simp [flatOf]⟩, Below.refl _ _⟩
  case round =>
    obtain ⟨n, hn, rfl, hown, hb⟩ := hrel
    have HB : Hid (Below _ _ _) := hb
    have HO : Hid (OwnU _ _ _ _) := hown
    by_cases hlt : n < L.length
    · obtain ⟨adq, cq, rfl⟩ := slice_of_owns hown.1
      have hq : (adq = none ∧ (flatOf (L.take n)).length = 0) ∨ (flatOf (L.take n)).length ≤ cq := by
        rcases hown.1.2 with ⟨h, h0⟩ | ⟨g', cap', cur, e, _, _, hc, _⟩
        · simp only [Value.slice.injEq] at h; exact Or.inl ⟨h.1, h0⟩
        · simp only [Value.slice.injEq] at e; exact Or.inr (by rw [e.2.2]; exact hc)
      clear hown
      obtain rfl : ad = some ⟨b, off, none⟩ := by rcases had with h | h; exact h; omega
      obtain ⟨c0, va, c1, hva⟩ := (HR.out.below hb) n hlt
      have HX : Hid (flatOf (L.take (n + 1)) = flatOf (L.take n) ++ L[n].2) := by unfold Hid; rw [take_snoc L n hlt, flatOf_snoc]
      have hfl := flat_le (L.take n) (fun s hs => HS.out s (List.mem_of_mem_take hs))
      have htk : (L.take n).length ≤ 20 := by simp; omega
      have h1l := HS.out _ (List.getElem_mem hlt)
      have HAL : Hid (∀ x ∈ L[n].2, x < 4294967296) := HLT.out _ (List.getElem_mem hlt)
      have hsz := hb.size
      clear hb had
      generalize L[n] = s at *
      generalize flatOf (L.take n) = F at *
      obtain ⟨kd, av⟩ := s
      obtain ⟨ad2, b2, off2, cap2, rfl, had2, _, hr2⟩ := id hva
      have HRU : Hid (RowU _ _ _ _) := hr2
      clear hva hr2
      simp only at c0 h1l had2
      have hba : Below wr.heap.size wr (wr.alloc (.cells #[.int .i64 kd, .slice ad2 av.length cap2] 24)) := (Below.refl _ _).alloc (Nat.le_refl _) _
      have HB1 : Hid (Below w.heap.size w (wr.alloc (.cells #[.int .i64 kd, .slice ad2 av.length cap2] 24))) := HB.out.trans (hba.mono hsz)
      have HO1 : Hid (OwnU (wr.alloc (.cells #[.int .i64 kd, .slice ad2 av.length cap2] 24)) w.heap.size (.slice adq F.length cq) F) := HO.out.below hba
      cases ad2 with
      | none =>
        have h0 : av.length = 0 := by rcases had2 with h | h; exact absurd h (by simp); exact h
        have hav : av = [] := List.length_eq_zero_iff.mp h0
        subst hav
        have HS2 : Hid (OwnU (wr.alloc (.cells #[.int .i64 kd, .slice none 0 cap2] 24)) w.heap.size (.slice adq F.length cq) (flatOf (L.take (n + 1)))) := by unfold Hid; rw [HX.out, List.append_nil]; exact HO1.out
        clear had2 h0 hba
        cases adq with
        | none =>
          have hF : F = [] := by
            rcases HO.out.1.2 with ⟨h, h0⟩ | ⟨g', cap', cur, e, _⟩
            · exact List.length_eq_zero_iff.mp h0
            · simp at e
          subst hF
          go_wp2
          go_roundw
          case rel => exact ⟨n + 1, by omega, by go_num, HS2.out, HB1.out⟩
          case measure => simp [intOf]; omega
        | some aq =>
          have hq' : F.length ≤ cq := by rcases hq with h | h; simp at h; exact h
          go_wp2
          go_roundw
          case rel => exact ⟨n + 1, by omega, by go_num, HS2.out, HB1.out⟩
          case measure => simp [intOf]; omega
      | some a2 =>
        have HN : Hid (∀ (j : Nat) (u : Value), (cellsU av)[j]? = some u → (wr.alloc (.cells #[.int .i64 kd, .slice (some a2) av.length cap2] 24)).cell? (a2.add j) = some u) := by
          rcases had2 with h | h
          · injection h with h
            subst h
            exact cellsU_at (HRU.out.below hba)
          · intro j u hj
            obtain rfl : av = [] := List.length_eq_zero_iff.mp h
            simp [cellsU] at hj
        have hn1 : (cellsU av).length = av.length * 1 := by simp [cellsU]
        clear had2 hba
        go_wp2_with (at_builtin; refine wpList_append_own _ rfl _ _ 22 rfl w.heap.size 26 i0 (.int .u32 0) 1 4 Tryz.underlying22 hi hz0 hz1 hz2 rfl (by decide) (.slice adq F.length cq) F.length (cellsU F) rfl HO1.out.1 a2 av.length cap2 (cellsU av) rfl hn1 HN.out (cellsU_one av) (by unfold maxLen; omega) (by omega) HB1.out.size ?_; intro v3 w3 hown3 hgrow3 _)
        have hos : OwnU w3 w.heap.size v3 (F ++ av) := OwnU.more hown3 rfl HO.out.2.1 HAL.out (by omega)
        have HB3 : Hid (Below w.heap.size w w3) := HB1.out.grown hgrow3 HB1.out.size (fun j e => (HO1.out.1.lt j e).1)
        have HS2 : Hid (OwnU w3 w.heap.size v3 (flatOf (L.take (n + 1)))) := by unfold Hid; rw [HX.out]; exact hos
        clear hown3 hgrow3 hos
        go_roundw
        case rel => exact ⟨n + 1, by omega, by go_num, HS2.out, HB3.out⟩
        case measure => simp [intOf]; omega
    · obtain rfl : n = L.length := by omega
      rw [List.take_length] at HO
      clear hb
      go_wp2
      go_ret
      exact ⟨_, rfl, HO.out, HB.out⟩
end Go.Proofs.YtbdfigfjoiefiabGreatDoor
