/-
  matches and Match, of every pattern and list.
-/
import Derived.Test.YtjchobcmbkiilaaGreatDoorY4
import Derived.Laws.EntriesVeiled
set_option linter.unusedVariables false
set_option linter.unusedSimpArgs false
set_option maxRecDepth 100000
namespace Go.Proofs.YtjchobcmbkiilaaGreatDoor
open Go.RowKit
theorem made_map (w : World) : (Instr.makeMap 104 none).run Tryz.prog w = .ok (.map (some w.heap.size)) (w.alloc (.map #[] 0)) := by kernel_rfl
theorem size_alloc (w : World) (o : Obj) : (w.alloc o).heap.size = w.heap.size + 1 := by simp
theorem start_at (v vl : Value) (p : List Atm) (L : List Nat) (w : World) (hv : AtAt w v p) (hl : ASAt w vl L) {W : World}
    (hW : W = ((((w.alloc (.cells #[v] 51)).alloc (.cells #[vl] 23)).alloc (.map #[] 0)).alloc (.cells #[.map (some (w.heap.size + 1 + 1))] 104)).alloc (.cells #[.func (.func 78) #[] #[.pointer (some ⟨w.heap.size, 0, none⟩), .pointer (some ⟨w.heap.size + 1, 0, none⟩), .pointer (some ⟨w.heap.size + 1 + 1 + 1 + 1, 0, none⟩), .pointer (some ⟨w.heap.size + 1 + 1 + 1, 0, none⟩)]] 105)) :
    FrM W w.heap.size (w.heap.size + 1) (w.heap.size + 1 + 1 + 1 + 1) (w.heap.size + 1 + 1 + 1) (w.heap.size + 1 + 1) v vl p L ∧ Below w.heap.size w W ∧ w.heap.size + 1 + 1 < W.heap.size := by
  obtain ⟨W1, e1⟩ : ∃ X, X = w.alloc (.cells #[v] 51) := ⟨_, rfl⟩
  rw [← e1] at hW
  obtain ⟨W2, e2⟩ : ∃ X, X = W1.alloc (.cells #[vl] 23) := ⟨_, rfl⟩
  rw [← e2] at hW
  obtain ⟨W3, e3⟩ : ∃ X, X = W2.alloc (.map #[] 0) := ⟨_, rfl⟩
  rw [← e3] at hW
  obtain ⟨W4, e4⟩ : ∃ X, X = W3.alloc (.cells #[.map (some (w.heap.size + 1 + 1))] 104) := ⟨_, rfl⟩
  rw [← e4] at hW
  have z1 : W1.heap.size = w.heap.size + 1 := by rw [e1]; exact size_alloc _ _
  have z2 : W2.heap.size = w.heap.size + 1 + 1 := by rw [e2, size_alloc, z1]
  have z3 : W3.heap.size = w.heap.size + 1 + 1 + 1 := by rw [e3, size_alloc, z2]
  have z4 : W4.heap.size = w.heap.size + 1 + 1 + 1 + 1 := by rw [e4, size_alloc, z3]
  have z5 : W.heap.size = w.heap.size + 1 + 1 + 1 + 1 + 1 := by rw [hW, size_alloc, z4]
  have b1 : Below w.heap.size w W1 := by rw [e1]; exact below_box _ _
  have b2 : Below W1.heap.size W1 W2 := by rw [e2]; exact below_box _ _
  have b3 : Below W2.heap.size W2 W3 := by rw [e3]; exact below_box _ _
  have b4 : Below W3.heap.size W3 W4 := by rw [e4]; exact below_box _ _
  have b5 : Below W4.heap.size W4 W := by rw [hW]; exact below_box _ _
  have c1 : W1.cell? ⟨w.heap.size, 0, none⟩ = some v := by rw [e1]; exact new_cell _ _ _
  have c2 : W2.cell? ⟨w.heap.size + 1, 0, none⟩ = some vl := by rw [← z1, e2]; exact new_cell _ _ _
  have c4 : W4.cell? ⟨w.heap.size + 1 + 1 + 1, 0, none⟩ = some (.map (some (w.heap.size + 1 + 1))) := by rw [← z3, e4]; exact new_cell _ _ _
  have c5 : W.cell? ⟨w.heap.size + 1 + 1 + 1 + 1, 0, none⟩ = some (.func (.func 78) #[] #[.pointer (some ⟨w.heap.size, 0, none⟩), .pointer (some ⟨w.heap.size + 1, 0, none⟩), .pointer (some ⟨w.heap.size + 1 + 1 + 1 + 1, 0, none⟩), .pointer (some ⟨w.heap.size + 1 + 1 + 1, 0, none⟩)]) := by rw [hW, ← z4]; exact new_cell _ _ _
  have m3 : MpI W3 (w.heap.size + 1 + 1) p.length (fun _ => none) := by rw [e3, ← z2]; exact MpI.made _ _
  refine ⟨⟨⟨?_, ?_, c5, below_cell b5 c4, ?_, ?_⟩, _, Memo.none _ _, (m3.below b4).below b5⟩, ?_, by omega⟩
  · exact below_cell b5 (below_cell b4 (below_cell b3 (below_cell b2 c1)))
  · exact below_cell b5 (below_cell b4 (below_cell b3 c2))
  · exact ((((hv.below b1).below b2).below b3).below b4).below b5
  · exact ((((hl.below b1).below b2).below b3).below b4).below b5
  · exact (((b1.trans (b2.mono (by omega))).trans (b3.mono (by omega))).trans (b4.mono (by omega))).trans (b5.mono (by omega))
set_option maxHeartbeats 1000000 in
theorem matches_any (v vl : Value) (p : List Atm) (L : List Nat) (w : World) (hv : AtAt w v p) (hl : ASAt w vl L) (hpl : p.length ≤ 1000) (hL : L.length ≤ 1000000000000) :
    Calls Tryz.prog 48 #[v, vl] w fun e w' => e = .returned (.bool (mt p L)) ∧ Below w.heap.size w w' := by
  have HV : Hid (AtAt w v p) := hv
  have HL : Hid (ASAt w vl L) := hl
  obtain ⟨ad, cap, rfl⟩ := hv.len
  obtain ⟨ad2, cap2, rfl⟩ := hl.len
  clear hv hl
  have hmm := made_map
  go_enter Tryz.func48, Tryz.ntmps48
  go_wp2_with fail
  obtain ⟨h1, h2, h3⟩ := start_at _ _ p L w HV.out HL.out rfl
  refine Calls.mono (from_any hpl hL p.length 0 (by omega) 0 (by omega) _ h1) ?_
  rintro e w2 ⟨rfl, hm2, hb2⟩
  have HB : Hid (Below w.heap.size w w2) := h2.trans (hb2.below (by omega) (by omega))
  clear hm2 hb2 h1 h2 h3
  go_wp2
  go_ret
  exact ⟨rfl, HB.out⟩
set_option maxHeartbeats 1000000 in
theorem match_any (v vl : Value) (p : List Atm) (L : List Nat) (w : World) (hv : AtAt w v p) (hl : ASAt w vl L) (hpl : p.length < 9223372036854775808) (hL : L.length ≤ 1000000000000) :
    Calls Tryz.prog 24 #[v, vl] w fun e w' => e = .returned (.bool (okP p && mt p L)) ∧ Below w.heap.size w w' := by
  have HK : Hid (_ : Prop) := mayPattern_any v p w hv hpl
  have HV : Hid (AtAt w v p) := hv
  have HL : Hid (ASAt w vl L) := hl
  obtain ⟨ad, cap, rfl⟩ := hv.len
  obtain ⟨ad2, cap2, rfl⟩ := hl.len
  clear hv hl
  cases hz : okP p with
  | false =>
    rw [hz] at HK
    go_enter Tryz.func24, Tryz.ntmps24
    go_wp2_with (go_at_call 53; refine Calls.mono HK.out ?_; rintro e w2 ⟨rfl, hb2⟩)
    go_ret
    exact ⟨rfl, hb2⟩
  | true =>
    have h64 : p.length ≤ 64 := by
      unfold okP at hz
      rw [Bool.and_eq_true, decide_eq_true_eq] at hz
      exact hz.1
    rw [hz] at HK
    have HM : Hid (∀ X, Below w.heap.size w X → _) := fun X (hX : Below w.heap.size w X) => matches_any _ _ p L X (HV.out.below hX) (HL.out.below hX) (by omega) hL
    go_enter Tryz.func24, Tryz.ntmps24
    go_wp2_with (first | (go_at_call 53; refine Calls.mono HK.out ?_; rintro e w2 ⟨rfl, hb2⟩) | (go_at_call 48; refine Calls.mono (HM.out _ hb2) ?_; rintro e w3 ⟨rfl, hb3⟩))
    go_ret
    exact ⟨rfl, hb2.trans (hb3.mono hb2.size)⟩
end Go.Proofs.YtjchobcmbkiilaaGreatDoor
