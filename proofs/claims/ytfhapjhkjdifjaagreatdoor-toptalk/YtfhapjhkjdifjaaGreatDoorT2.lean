/-
  pieces: bytes, cut.
-/
import Derived.Test.YtfhapjhkjdifjaaGreatDoorT1
namespace Go.Proofs.YtfhapjhkjdifjaaGreatDoor.Fr
open Go.RowKit
/-- Texts that lie in a row of one's own. -/
def cellsS (P : List (List UInt8)) : List Value := P.map fun l => .string ⟨l.toArray⟩
def OwnS (w : World) (base : Nat) (v : Value) (P : List (List UInt8)) : Prop := w.ownsRow base 9 1 v P.length (cellsS P)
theorem cellsS_snoc (P : List (List UInt8)) (l : List UInt8) : cellsS (P ++ [l]) = cellsS P ++ [.string ⟨l.toArray⟩] := by simp [cellsS]
theorem info9 : (Tryz.prog.info? 9).map (fun i => (i.zero, i.size, i.bytes)) = some (some (.string ⟨#[]⟩), 1, 16) := by kernel_rfl
theorem one_s (s : ByteArray) : ∀ u ∈ [Value.string s], u.oneCell' = true := by
  intro u hu
  simp at hu
  subst hu
  rfl
theorem news1 (w : World) (a : Value) (t : TypeId) : ∀ (j : Nat) (u : Value), [a][j]? = some u → (w.alloc (.cells #[a] t)).cell? (Addr.add ⟨w.heap.size, 0, none⟩ j) = some u := by
  intro j u hj
  obtain rfl : j = 0 := by have := (List.getElem?_eq_some_iff.1 hj).1; simp at this; omega
  simp at hj
  subst hj
  simp [Addr.add]
theorem OwnS.at {w : World} {base : Nat} {v : Value} {P : List (List UInt8)} (h : OwnS w base v P) : ∃ (ad : Option Addr) (b cap : Nat), v = .slice ad P.length cap ∧ (ad = some ⟨b, 0, none⟩ ∨ P.length = 0) ∧ ∀ j (h : j < P.length), w.cell? ⟨b, j, none⟩ = some (.string ⟨P[j].toArray⟩) := by
  obtain ⟨hn, hv⟩ := h
  rcases hv with ⟨rfl, h0⟩ | ⟨g, cap, cur, rfl, hg, hh, hc, hm, hs, ht⟩
  · exact ⟨none, 0, 0, by rw [h0], Or.inr h0, fun j hj => by omega⟩
  · refine ⟨some ⟨g, 0, none⟩, g, cap, rfl, Or.inl rfl, fun j hj => ?_⟩
    have e : cur.toList[j]? = (cellsS P)[j]? := by
      have : (cur.toList.take (P.length * 1))[j]? = (cellsS P)[j]? := by rw [ht]
      rwa [List.getElem?_take, if_pos (by omega)] at this
    exact cell_of_row hh _ _ (by rw [e]; simp [cellsS, hj])
set_option maxRecDepth 100000 in
set_option maxHeartbeats 3200000 in
theorem pieces_any (s : List UInt8) (vc : Value) (C : List Nat) (w : World) (hC : U8sAt w vc C) (hc8 : ∀ n ∈ C, n < 256) (hs : s.length ≤ 400000) :
    Calls Tryz.prog 9 #[.string ⟨s.toArray⟩, vc] w fun e w' => ∃ (P : List (List UInt8)) (ad : Option Addr) (cp : Nat), e = .returned (.slice ad P.length cp) ∧ OwnS w' w.heap.size (.slice ad P.length cp) P ∧ P.flatten = s ∧ P.length ≤ s.length + 1 ∧ Below w.heap.size w w' := by
  obtain ⟨i0, hi, hz0, hz1, hz2⟩ := info_parts info9
  obtain ⟨ad, b0, off, cap, rfl, had, hcap, hrow⟩ := hC
  have HROW : Hid (∀ j (h : j < C.length), w.cell? ⟨b0, off + j, none⟩ = some (.int .u8 (C[j] : Int))) := hrow
  have HC8 : Hid (∀ n ∈ C, n < 256) := hc8
  have HAD : Hid (ad = some ⟨b0, off, none⟩ ∨ C.length = 0) := had
  have HS : Hid (s.length ≤ 400000) := hs
  clear hrow had hcap hc8 hs
  go_enter Tryz.func9, Tryz.ntmps9
  go_wp2
  go_loopw [0, 5, 6] (fun t u i wr => ∃ (j : Nat) (s' : List UInt8) (P : List (List UInt8)), t = .string ⟨s'.toArray⟩ ∧ OwnS wr w.heap.size u P ∧ i = .int .i64 (j : Int) ∧ j ≤ P.length ∧ P.flatten ++ s' = s ∧ P.length + s'.length ≤ s.length ∧ Below w.heap.size w wr) (fun t _ _ _ => strLen t)
  case atStart => exact ⟨0, s, [], rfl, World.ownsRow_nil _ _ _ _, rfl, by simp, rfl, by simp, Below.refl _ _⟩
  case round =>
    obtain ⟨j, s', P, rfl, ho, rfl, hj, hfl, hln, hb⟩ := hrel
    obtain ⟨adp, cpp, rfl⟩ := slice_of_owns ho
    have HO : Hid (OwnS wr w.heap.size (.slice adp P.length cpp) P) := ho
    have HFL : Hid (P.flatten ++ s' = s) := hfl
    have HB : Hid (Below w.heap.size w wr) := hb
    have HLN : Hid (P.length + s'.length ≤ s.length) := hln
    have hjb : (j : Int) ≤ 400000 := by have := HS.out; have := HLN.out; omega
    have HJP : Hid (j ≤ P.length) := hj
    have hPL : P.length ≤ 400000 := by have := HS.out; omega
    have hsl : s'.length ≤ 400000 := by have := HS.out; omega
    have hsz : (⟨s'.toArray⟩ : ByteArray).size = s'.length := list_size s'
    have h4 := HB.out.size
    clear ho hfl hb hln hj
    by_cases hgo : j < C.length ∧ 0 < s'.length
    · obtain ⟨hg1, hg2⟩ := hgo
      have g1 : (j : Int) < C.length := by omega
      have g2 : (0 : Int) < s'.length := by omega
      obtain rfl : ad = some ⟨b0, off, none⟩ := by rcases HAD.out with h | h; exact h; omega
      have hc := HROW.out j hg1
      have c0 : wr.cell? ⟨b0, off + j, none⟩ = some (.int .u8 (C[j] : Int)) := (HB.out.cell (p := ⟨b0, off + j, none⟩) (lt_of_cell hc)).trans hc
      have h8 := HC8.out _ (List.getElem_mem hg1)
      generalize C[j] = cj at *
      have h8' : (cj : Int) < 256 := by omega
      have hmin : min (s'.length : Int) (1 + (cj : Int)) = ((min s'.length (1 + cj) : Nat) : Int) := by omega
      have hn1 : min s'.length (1 + cj) ≤ s'.length := by omega
      have hn0 : 1 ≤ min s'.length (1 + cj) := by omega
      have hww : IntKind.i64.wrap (1 + (cj : Int)) = 1 + (cj : Int) := by simp [IntKind.wrap, IntKind.signed, IntKind.bits]; omega
      generalize min s'.length (1 + cj) = n at *
      have hn2 : (n : Int) ≤ s'.length := by omega
      have HN : Hid (1 ≤ n ∧ n ≤ s'.length) := ⟨hn0, hn1⟩
      have hex := ext_take s' n
      have hdr := ext_drop s' n
      clear hc h8 hn0
      have HNW : Hid (_ : Prop) := news1 wr (.string ⟨(s'.take n).toArray⟩) 9
      have HO5 : Hid (wr.ownsRow w.heap.size 9 1 (.slice adp P.length cpp) P.length (cellsS P)) := HO.out
      go_wp2_with (at_builtin; refine wpList_append_own _ rfl _ _ 41 rfl w.heap.size 9 i0 (.string ⟨#[]⟩) 1 16 Tryz.underlying41 hi hz0 hz1 hz2 rfl (by decide) (.slice adp P.length cpp) P.length (cellsS P) rfl (World.ownsRow.alloc HO5.out _) ⟨wr.heap.size, 0, none⟩ 1 1 [.string ⟨(s'.take n).toArray⟩] rfl rfl HNW.out (one_s _) (by unfold maxLen; omega) (by omega) (Nat.le_trans h4 (by simp)) ?_; intro v7 w7 hown7 hgrow7 _)
      have HO7 : Hid (OwnS w7 w.heap.size v7 (P ++ [s'.take n])) := by
        unfold Hid OwnS
        rw [cellsS_snoc, List.length_append]
        exact hown7
      obtain ⟨ad7, c7, rfl⟩ := slice_of_owns hown7
      have HB7 : Hid (Below w.heap.size w w7) := HB.out.trans (((Below.refl _ _).alloc h4 _).grown hgrow7 (Nat.le_trans h4 (by simp)) (fun k e => (owns_lt HO5.out k e).1))
      clear hown7 hgrow7 HNW HO5 c0
      go_wp2
      go_roundw
      case rel =>
        refine ⟨j + 1, s'.drop n, P ++ [s'.take n], rfl, HO7.out, by simp, by have := HJP.out; simp; omega, ?_, ?_, HB7.out⟩
        · rw [← HFL.out]; simp
        · have := HLN.out; have := HN.out; simp; omega
      case measure => have := HN.out; simp only [strLen, list_size, List.length_drop]; omega
    · have hno : ¬ ((j : Int) < C.length) ∨ ((j : Int) < C.length ∧ ¬ ((0 : Int) < s'.length)) := by omega
      have HNW : Hid (_ : Prop) := news1 wr (.string ⟨s'.toArray⟩) 9
      have HO5 : Hid (wr.ownsRow w.heap.size 9 1 (.slice adp P.length cpp) P.length (cellsS P)) := HO.out
      rcases hno with hno | ⟨hyes, hno⟩
      all_goals
        go_wp2_with (at_builtin; refine wpList_append_own _ rfl _ _ 41 rfl w.heap.size 9 i0 (.string ⟨#[]⟩) 1 16 Tryz.underlying41 hi hz0 hz1 hz2 rfl (by decide) (.slice adp P.length cpp) P.length (cellsS P) rfl (World.ownsRow.alloc HO5.out _) ⟨wr.heap.size, 0, none⟩ 1 1 [.string ⟨s'.toArray⟩] rfl rfl HNW.out (one_s _) (by unfold maxLen; omega) (by omega) (Nat.le_trans h4 (by simp)) ?_; intro v7 w7 hown7 hgrow7 _)
        have HO7 : Hid (OwnS w7 w.heap.size v7 (P ++ [s'])) := by
          unfold Hid OwnS
          rw [cellsS_snoc, List.length_append]
          exact hown7
        obtain ⟨ad7, c7, rfl⟩ := slice_of_owns hown7
        have HB7 : Hid (Below w.heap.size w w7) := HB.out.trans (((Below.refl _ _).alloc h4 _).grown hgrow7 (Nat.le_trans h4 (by simp)) (fun k e => (owns_lt HO5.out k e).1))
        clear hown7 hgrow7 HNW HO5
        go_wp2
        go_ret
        refine ⟨P ++ [s'], ad7, c7, ?_, ?_, ?_, ?_, HB7.out⟩
        · simp
        · have k := HO7.out
          rw [List.length_append] at *
          exact k
        · rw [← HFL.out]; simp
        · have := HLN.out; simp; omega
end Go.Proofs.YtfhapjhkjdifjaaGreatDoor.Fr
