/-
  Flat, and the reference's Flat and Has.
-/
import Derived.Test.YtbdfigfjoiefiaaDoorM1
import Derived.Test.YtbdfigfjoiefiaaDoorQ1
namespace Go.Proofs.YtbdfigfjoiefiaaDoor
open Go.RowKit
theorem flat_le (L : List Sg) (h : ∀ s ∈ L, s.2.length ≤ 1048576) : (flatOf L).length ≤ L.length * 1048576 := by
  induction L with
  | nil => simp [flatOf]
  | cons s L ih =>
    have h1 := h s (by simp)
    have h2 := ih (fun t ht => h t (by simp [ht]))
    simp only [flatOf, List.flatMap_cons, List.length_append, List.length_cons, Nat.add_mul] at *
    omega
theorem cellsU_append (l m : List Nat) : cellsU (l ++ m) = cellsU l ++ cellsU m := by simp [cellsU]
theorem cellsU_length (l : List Nat) : (cellsU l).length = l.length := by simp [cellsU]
/-- More ASs behind. -/
theorem OwnU.more {w : World} {base n : Nat} {v : Value} {l m : List Nat} (h : w.ownsRow base 23 1 v n (cellsU l ++ cellsU m)) (hn : n = l.length + m.length) (hl : ∀ x ∈ l, x < 4294967296) (hm : ∀ x ∈ m, x < 4294967296) (hb : l.length + m.length ≤ 35184372088832) : OwnU w base v (l ++ m) := by
  refine ⟨?_, fun x hx => ?_, by simpa using hb⟩
  · rw [List.length_append, ← hn, cellsU_append]; exact h
  · rcases List.mem_append.mp hx with h | h
    · exact hl x h
    · exact hm x h
set_option maxRecDepth 100000 in
set_option maxHeartbeats 800000 in
theorem flat_any (v : Value) (L : List Sg) (w : World) (h : PathAt w v L) (hL : L.length ≤ 20) (hs : ∀ s ∈ L, s.2.length ≤ 1048576) :
    Calls Tryd.prog 20 #[v] w fun e w' => ∃ v', e = .returned v' ∧ OwnU w' w.heap.size v' (flatOf L) ∧ Below w.heap.size w w' := by
  obtain ⟨i0, hi, hz0, hz1, hz2⟩ := info_parts info23
  have HLT : Hid (_ : Prop) := h.lt
  obtain ⟨ad, b, off, cap, rfl, had, ⟨hcap, hl⟩, hr⟩ := h
  have HR : Hid (RowS _ _ _ _) := hr
  have HS : Hid (∀ s ∈ L, s.2.length ≤ 1048576) := hs
  clear hr hs
  go_enter Tryd.func20, Tryd.ntmps20
  go_wp2
  go_loopw [3, 8] (fun t i wr => ∃ n : Nat, n ≤ L.length ∧ i = .int .i64 n ∧ OwnU wr w.heap.size t (flatOf (L.take n)) ∧ Below w.heap.size w wr) (fun _ i _ => L.length - (intOf i).toNat)
  case atStart => exact ⟨0, Nat.zero_le _, rfl, ⟨World.ownsRow_nil _ _ _ _, by simp [flatOf], by simp [flatOf]⟩, Below.refl _ _⟩
  case round =>
    obtain ⟨n, hn, rfl, hown, hb⟩ := hrel
    have HB : Hid (Below _ _ _) := hb
    have HO : Hid (OwnU _ _ _ _) := hown
    by_cases hlt : n < L.length
    · obtain ⟨adq, cq, rfl⟩ := slice_of_owns hown.1
      have hq : (adq = none ∧ (flatOf (L.take n)).length = 0) ∨ (flatOf (L.take n)).length ≤ cq := by
        rcases hown.1.2 with ⟨h, h0⟩ | ⟨g', cap', cur, e, _, _, hc, _⟩
        · simp only [Value.slice.injEq] at h; exact Or.inl ⟨h.1, h0⟩
        · simp only [Value.slice.injEq] at e; exact Or.inr (by rw [e.2.2]; exact hc)
      clear hown
      obtain rfl : ad = some ⟨b, off, none⟩ := by rcases had with h | h; exact h; omega
      obtain ⟨c0, va, c1, hva⟩ := (HR.out.below hb) n hlt
      have HX : Hid (flatOf (L.take (n + 1)) = flatOf (L.take n) ++ L[n].2) := by unfold Hid; rw [take_snoc L n hlt, flatOf_snoc]
      have hfl := flat_le (L.take n) (fun s hs => HS.out s (List.mem_of_mem_take hs))
      have htk : (L.take n).length ≤ 20 := by simp; omega
      have h1l := HS.out _ (List.getElem_mem hlt)
      have HAL : Hid (∀ x ∈ L[n].2, x < 4294967296) := HLT.out _ (List.getElem_mem hlt)
      have hsz := hb.size
      clear hb had
      generalize L[n] = s at *
      generalize flatOf (L.take n) = F at *
      obtain ⟨kd, av⟩ := s
      obtain ⟨ad2, b2, off2, cap2, rfl, had2, _, hr2⟩ := id hva
      have HRU : Hid (RowU _ _ _ _) := hr2
      clear hva hr2
      simp only at c0 h1l had2
      have hba : Below wr.heap.size wr (wr.alloc (.cells #[.int .i64 kd, .slice ad2 av.length cap2] 48)) := (Below.refl _ _).alloc (Nat.le_refl _) _
      have HB1 : Hid (Below w.heap.size w (wr.alloc (.cells #[.int .i64 kd, .slice ad2 av.length cap2] 48))) := HB.out.trans (hba.mono hsz)
      have HO1 : Hid (OwnU (wr.alloc (.cells #[.int .i64 kd, .slice ad2 av.length cap2] 48)) w.heap.size (.slice adq F.length cq) F) := HO.out.below hba
      cases ad2 with
      | none =>
        have h0 : av.length = 0 := by rcases had2 with h | h; exact absurd h (by simp); exact h
        have hav : av = [] := List.length_eq_zero_iff.mp h0
        subst hav
        have HS2 : Hid (OwnU (wr.alloc (.cells #[.int .i64 kd, .slice none 0 cap2] 48)) w.heap.size (.slice adq F.length cq) (flatOf (L.take (n + 1)))) := by unfold Hid; rw [HX.out, List.append_nil]; exact HO1.out
        clear had2 h0 hba
        cases adq with
        | none =>
          have hF : F = [] := by
            rcases HO.out.1.2 with ⟨h, h0⟩ | ⟨g', cap', cur, e, _⟩
            · exact List.length_eq_zero_iff.mp h0
            · simp at e
          subst hF
          go_wp2
          go_roundw
          case rel => exact ⟨n + 1, by omega, by go_num, HS2.out, HB1.out⟩
          case measure => simp [intOf]; omega
        | some aq =>
          have hq' : F.length ≤ cq := by rcases hq with h | h; simp at h; exact h
          go_wp2
          go_roundw
          case rel => exact ⟨n + 1, by omega, by go_num, HS2.out, HB1.out⟩
          case measure => simp [intOf]; omega
      | some a2 =>
        have HN : Hid (∀ (j : Nat) (u : Value), (cellsU av)[j]? = some u → (wr.alloc (.cells #[.int .i64 kd, .slice (some a2) av.length cap2] 48)).cell? (a2.add j) = some u) := by
          rcases had2 with h | h
          · injection h with h
            subst h
            exact cellsU_at (HRU.out.below hba)
          · intro j u hj
            obtain rfl : av = [] := List.length_eq_zero_iff.mp h
            simp [cellsU] at hj
        have hn1 : (cellsU av).length = av.length * 1 := by simp [cellsU]
        clear had2 hba
        go_wp2_with (at_builtin; refine wpList_append_own _ rfl _ _ 31 rfl w.heap.size 23 i0 (.int .u32 0) 1 4 Tryd.underlying31 hi hz0 hz1 hz2 rfl (by decide) (.slice adq F.length cq) F.length (cellsU F) rfl HO1.out.1 a2 av.length cap2 (cellsU av) rfl hn1 HN.out (cellsU_one av) (by unfold maxLen; omega) (by omega) HB1.out.size ?_; intro v3 w3 hown3 hgrow3 _)
        have hos : OwnU w3 w.heap.size v3 (F ++ av) := OwnU.more hown3 rfl HO.out.2.1 HAL.out (by omega)
        have HB3 : Hid (Below w.heap.size w w3) := HB1.out.grown hgrow3 HB1.out.size (fun j e => (HO1.out.1.lt j e).1)
        have HS2 : Hid (OwnU w3 w.heap.size v3 (flatOf (L.take (n + 1)))) := by unfold Hid; rw [HX.out]; exact hos
        clear hown3 hgrow3 hos
        go_roundw
        case rel => exact ⟨n + 1, by omega, by go_num, HS2.out, HB3.out⟩
        case measure => simp [intOf]; omega
    · obtain rfl : n = L.length := by omega
      rw [List.take_length] at HO
      clear hb
      go_wp2
      go_ret
      exact ⟨_, rfl, HO.out, HB.out⟩
set_option maxRecDepth 100000 in
set_option maxHeartbeats 800000 in
theorem rflat_any (v : Value) (L : List Sg) (w : World) (h : PathAt w v L) (hL : L.length ≤ 20) (hs : ∀ s ∈ L, s.2.length ≤ 1048576) :
    Calls Tryd.prog 24 #[v] w fun e w' => ∃ v', e = .returned v' ∧ OwnU w' w.heap.size v' (flatOf L) ∧ Below w.heap.size w w' := by
  obtain ⟨i0, hi, hz0, hz1, hz2⟩ := info_parts info23
  have HLT : Hid (_ : Prop) := h.lt
  obtain ⟨ad, b, off, cap, rfl, had, ⟨hcap, hl⟩, hr⟩ := h
  have HR : Hid (RowS _ _ _ _) := hr
  have HS : Hid (∀ s ∈ L, s.2.length ≤ 1048576) := hs
  clear hr hs
  go_enter Tryd.func24, Tryd.ntmps24
  go_wp2
  go_loopw [3, 4] (fun t i wr => ∃ n : Nat, n ≤ L.length ∧ i = .int .i64 n ∧ OwnU wr w.heap.size t (flatOf (L.take n)) ∧ Below w.heap.size w wr) (fun _ i _ => L.length - (intOf i).toNat)
  case atStart => exact ⟨0, Nat.zero_le _, rfl, ⟨World.ownsRow_nil _ _ _ _, by simp [flatOf], by simp [flatOf]⟩, Below.refl _ _⟩
  case round =>
    obtain ⟨n, hn, rfl, hown, hb⟩ := hrel
    have HB : Hid (Below _ _ _) := hb
    have HO : Hid (OwnU _ _ _ _) := hown
    clear hown
    by_cases hlt : n < L.length
    · obtain rfl : ad = some ⟨b, off, none⟩ := by rcases had with h | h; exact h; omega
      obtain ⟨b0, va, b1, hva⟩ := HR.out n hlt
      have HX : Hid (flatOf (L.take (n + 1)) = flatOf (L.take n) ++ L[n].2) := by unfold Hid; rw [take_snoc L n hlt, flatOf_snoc]
      have hfl := flat_le (L.take n) (fun s hs => HS.out s (List.mem_of_mem_take hs))
      have htk : (L.take n).length ≤ 20 := by simp; omega
      have h1l := HS.out _ (List.getElem_mem hlt)
      have HAL : Hid (∀ x ∈ L[n].2, x < 4294967296) := HLT.out _ (List.getElem_mem hlt)
      clear hb had b0
      generalize L[n] = s at *
      generalize flatOf (L.take n) = F at *
      obtain ⟨kd, av⟩ := s
      obtain ⟨ad2, b2, off2, cap2, rfl, had2, _, hr2⟩ := id hva
      have HRU : Hid (RowU w b2 off2 av) := hr2
      have HA2 : Hid (ad2 = some ⟨b2, off2, none⟩ ∨ av.length = 0) := had2
      have B1 : Hid (w.cell? ⟨b, off + n * 2 + 1, none⟩ = some (.slice ad2 av.length cap2)) := b1
      clear hva hr2 had2 b1
      simp only at h1l
      go_wp2
      go_loopw [3, 5] (fun t i wr2 => ∃ j : Nat, j ≤ av.length ∧ i = .int .i64 j ∧ OwnU wr2 w.heap.size t (F ++ av.take j) ∧ Below w.heap.size w wr2) (fun _ i _ => av.length - (intOf i).toNat)
      case atStart => exact ⟨0, Nat.zero_le _, rfl, by simpa using HO.out, HB.out⟩
      case round =>
        obtain ⟨j, hj, rfl, hown, hb⟩ := hrel
        have HB4 : Hid (Below _ _ _) := hb
        have HO4 : Hid (OwnU _ _ _ _) := hown
        have c1 := below_cell hb B1.out
        have hFl := hown.1.1
        by_cases hlt2 : j < av.length
        · obtain rfl : ad2 = some ⟨b2, off2, none⟩ := by rcases HA2.out with h | h; exact h; omega
          have hc := ((HRU.out.below hb) j hlt2).1
          have hx := (HRU.out j hlt2).2
          have HY : Hid (F ++ av.take (j + 1) = F ++ av.take j ++ [av[j]]) := by unfold Hid; rw [take_snoc av j hlt2, List.append_assoc]
          have hsz := hb.size
          have hG : (F ++ av.take j).length ≤ 100000000 := by simp; omega
          clear hown hb hFl
          generalize av[j] = x at *
          generalize F ++ av.take j = G at *
          go_wp2_with (at_builtin; refine wpList_append_own _ rfl _ _ 31 rfl w.heap.size 23 i0 (.int .u32 0) 1 4 Tryd.underlying31 hi hz0 hz1 hz2 rfl (by decide) _ _ _ rfl (HO4.out.1.alloc _) ⟨wr.heap.size, 0, none⟩ 1 1 [.int .u32 (x : Int)] rfl rfl (news1 wr _ 23) (one_u32 _) (by unfold maxLen; omega) (by omega) (Nat.le_trans hsz (by simp)) ?_; intro v3 w3 hown3 hgrow3 _)
          have hos : OwnU w3 w.heap.size v3 (G ++ [x]) := OwnU.more hown3 rfl HO4.out.2.1 (by simpa using hx) (by simp; omega)
          have HB3 : Hid (Below w.heap.size w w3) := (HB4.out.alloc hsz _).grown hgrow3 (Nat.le_trans hsz (by simp)) (fun j e => (HO4.out.1.lt j e).1)
          have HS2 : Hid (OwnU w3 w.heap.size v3 (F ++ av.take (j + 1))) := by unfold Hid; rw [HY.out]; exact hos
          clear hown3 hgrow3 hos hc c1
          go_roundw
          case rel => exact ⟨j + 1, by omega, by go_num, HS2.out, HB3.out⟩
          case measure => simp [intOf]; omega
        · obtain rfl : j = av.length := by omega
          rw [List.take_length] at HO4
          have HS2 : Hid (OwnU wr w.heap.size u3 (flatOf (L.take (n + 1)))) := by unfold Hid; rw [HX.out]; exact HO4.out
          clear hb hown hFl
          go_wp2
          go_roundw
          case rel => exact ⟨n + 1, by omega, by go_num, HS2.out, HB4.out⟩
          case measure => simp [intOf]; omega
    · obtain rfl : n = L.length := by omega
      rw [List.take_length] at HO
      clear hb
      go_wp2
      go_ret
      exact ⟨_, rfl, HO.out, HB.out⟩
set_option maxRecDepth 100000 in
theorem rhas_any (v : Value) (L : List Sg) (a : Nat) (w : World) (h : PathAt w v L) (hL : L.length ≤ 20) (hs : ∀ s ∈ L, s.2.length ≤ 1048576) :
    Calls Tryd.prog 18 #[v, .int .u32 (a : Int)] w fun e w' => e = .returned (.bool (decide (a ∈ flatOf L))) ∧ Below w.heap.size w w' := by
  have H : Hid (PathAt _ _ _) := h
  have HS : Hid (∀ s ∈ L, s.2.length ≤ 1048576) := hs
  obtain ⟨ad0, b0, off0, cap0, rfl, h2⟩ := h
  clear h2 hs
  go_enter Tryd.func18, Tryd.ntmps18
  go_wp2_with fail
  refine (rflat_any _ L w H.out hL HS.out).mono ?_
  rintro e w1 ⟨v1, rfl, ho, hb⟩
  have HB : Hid (Below _ _ _) := hb
  obtain ⟨ad, b, off, cap, rfl, had, ⟨_, hl⟩, hr⟩ := ho.at
  have HR : Hid (RowU _ _ _ _) := hr
  obtain ⟨l, hfl⟩ : ∃ l, flatOf L = l := ⟨_, rfl⟩
  rw [hfl] at HR had hl
  rw [hfl]
  have HEq : Hid (flatOf L = l) := hfl
  clear hr ho hb hfl
  go_wp2
  go_loopw [6] (fun i wr => ∃ k : Nat, k ≤ l.length ∧ i = .int .i64 k ∧ wr = w1 ∧ ∀ j (h : j < l.length), j < k → l[j] ≠ a) (fun i _ => l.length - (intOf i).toNat)
  case atStart => exact ⟨0, Nat.zero_le _, rfl, rfl, fun j h hj => absurd hj (by omega)⟩
  case round =>
    obtain ⟨k, hk, rfl, hw, hn⟩ := hrel
    obtain rfl : w1 = wr := hw.symm
    have HN : Hid (_ : Prop) := hn
    clear hn hw
    by_cases hlt : k < l.length
    · obtain rfl : ad = some ⟨b, off, none⟩ := by rcases had with h | h; exact h; omega
      have hc := (HR.out k hlt).1
      clear had
      by_cases he : l[k] = a
      · have HM : Hid (a ∈ l) := by unfold Hid; rw [← he]; exact List.getElem_mem hlt
        rw [he] at hc
        clear he
        go_wp2
        go_ret
        exact ⟨ret_bool (by rw [HEq.out]; simp [HM.out]), HB.out⟩
      · have hne : ¬ ((l[k] : Int) = (a : Int)) := by omega
        generalize hv : l[k] = x at *
        go_wp2
        go_roundw
        case rel =>
          refine ⟨k + 1, by omega, by go_num, trivial, fun j h hj => ?_⟩
          by_cases e : j = k
          · subst e; rw [hv]; exact he
          · exact HN.out j h (by omega)
        case measure => simp [intOf]; omega
    · obtain rfl : k = l.length := by omega
      have HM : Hid (a ∉ l) := by
        intro h
        obtain ⟨j, hj, e⟩ := List.getElem_of_mem h
        exact absurd e (HN.out j hj hj)
      go_wp2
      go_ret
      exact ⟨ret_bool (by rw [HEq.out]; simp [HM.out]), HB.out⟩
end Go.Proofs.YtbdfigfjoiefiaaDoor
