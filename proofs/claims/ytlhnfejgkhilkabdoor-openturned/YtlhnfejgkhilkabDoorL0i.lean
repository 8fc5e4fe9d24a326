/-
  An entry at its place in a list that rises by families: placed.
-/
import Derived.Test.YtlhnfejgkhilkabDoorL0
set_option linter.unusedVariables false
set_option linter.unusedSimpArgs false
namespace Go.Proofs.YtlhnfejgkhilkabDoor
open Go.RowKit
theorem splitC_int (L : List Int) (e : Int) (i : Nat) (hi : i ≤ L.length) : intsC (L.take i ++ [e] ++ L.drop i) = (intsC L).take (i) ++ [.int .i64 e] ++ (intsC L).drop (i) := by
  have h1 : intsC (L.take i ++ [e] ++ L.drop i) = intsC (L.take i) ++ [.int .i64 e] ++ intsC (L.drop i) := by simp [intsC]
  have h2 : intsC L = intsC (L.take i) ++ intsC (L.drop i) := by rw [← intsC_app, List.take_append_drop]
  have h3 : (intsC (L.take i)).length = i := by rw [intsC_length, List.length_take, Nat.min_eq_left hi]
  rw [h1]
  conv => rhs; rw [h2]
  rw [List.take_left' h3, List.drop_left' h3]
set_option maxHeartbeats 3200000 in
set_option maxRecDepth 100000 in
theorem placed_int (base : Nat) (v : Value) (L : List Int) (e : Int) (w : World) (hown : w.ownsRow base 3 1 v L.length (intsC L)) (hbase : base ≤ w.heap.size) (hs : Srt L) (hlen : L.length ≤ 900) :
    Calls Tryd.prog 60 #[v, .int .i64 e, .func (.func 31) #[] #[]] w fun x w' => ∃ v', x = .returned v' ∧ w'.ownsRow base 3 1 v' (plA id L e).length (intsC (plA id L e)) ∧ w.grownBy w' v.ownBlock := by
  have hmk : L.map id = L := by simp
  have hb1 : Below w.heap.size w (w.alloc (.cells #[.func (.func 31) #[] #[]] 70)) := (Below.refl _ _).alloc (Nat.le_refl _) _
  have hq1 : (w.alloc (.cells #[.func (.func 31) #[] #[]] 70)).heap[w.heap.size]? = some (.cells #[.func (.func 31) #[] #[]] 70 (0, 0)) := hp_new (by simp)
  have HQ1 : Hid (_ = _) := hq1
  have HB1 : Hid (Below _ _ _) := hb1
  have HO0 : Hid (_ : Prop) := hown
  have HS : Hid (Srt L) := hs
  have HBS : Hid (base ≤ w.heap.size) := hbase
  have KS : Hid (∀ X, Below w.heap.size w X → X.heap[w.heap.size]? = some (.cells #[.func (.func 31) #[] #[]] 70 (0, 0)) → Calls Tryd.prog 74 #[v, .int .i64 e, .func (.func 75) #[] #[.pointer (some ⟨w.heap.size, 0, none⟩)]] X fun x w' => SOk L e x ∧ Below X.heap.size X w') := fun X hX hq => search_int v L e w.heap.size X (ints_of_owns (owns_below HO0.out hX)) HS.out (by omega) hq
  clear hown hs hbase hb1 hq1
  have cb := cl_row (i := 0) HQ1.out rfl
  go_enter Tryd.func60, Tryd.ntmps60
  go_wp2_with fail
  generalize w.alloc (.cells #[.func (.func 31) #[] #[]] 70) = W1 at *
  refine Calls.mono (itself_any e W1) ?_
  rintro x W2 ⟨rfl, hw2⟩
  obtain rfl : W1 = W2 := hw2.symm
  clear hw2
  go_wp2_with fail
  refine Calls.mono (KS.out W1 HB1.out HQ1.out) ?_
  rintro x W3 ⟨⟨i, z, rfl, hfd⟩, hb3⟩
  have HB3 : Hid (Below w.heap.size w W3) := HB1.out.trans (hb3.mono HB1.out.size)
  clear hb3 cb HQ1 HB1 KS
  have HO3 : Hid (_ : Prop) := owns_below HO0.out HB3.out
  have HI : Hid (i ≤ L.length) := by unfold Hid; have := hfd.1; simpa using this
  have hil : i ≤ 900 := by have := HI.out; omega
  cases z with
  | false =>
    have HPL : Hid (plA id L e = L.take i ++ [e] ++ L.drop i) := plA_new id L e i (by rw [hmk]; exact HS.out) (by rw [hmk]; exact hfd)
    have HPN : Hid ((L.take i ++ [e] ++ L.drop i).length = L.length + 1) := by unfold Hid; have := HI.out; simp; omega
    have hba : Below W3.heap.size W3 (W3.alloc (.cells #[.int .i64 e] 3)) := (Below.refl _ _).alloc (Nat.le_refl _) _
    have KI : Hid (_ : Prop) := ins_int base L.length i W3.heap.size v (intsC L) [.int .i64 e] (W3.alloc (.cells #[.int .i64 e] 3)) HI.out (by omega) (owns_below HO3.out hba) (by have := HBS.out; have := HB3.out.size; simp; omega) (hp_new rfl) (fun e' => by
      obtain ⟨_, ⟨rfl, _⟩ | ⟨g, cap, cur, rfl, _, hgg, _⟩⟩ := HO3.out
      · cases e'
      · have h1 := lt_of_heap hgg
        simp [Value.ownBlock] at e'
        omega) rfl (one_ints L) (by intro u hu; simp at hu; subst hu; rfl)
    have HBA : Hid (Below _ _ _) := hba
    clear hfd hba
    go_wp2_with fail
    generalize W3.alloc (.cells #[.int .i64 e] 3) = W4 at *
    refine Calls.mono KI.out ?_
    rintro x W5 ⟨v', rfl, ho5, hg5⟩
    go_wp2
    go_ret
    refine ⟨v', rfl, ?_, grown_trans (grown_trans (grown_of_below HB3.out) (grown_of_below HBA.out)) hg5⟩
    rw [HPL.out, HPN.out, splitC_int L e i HI.out]
    exact ho5
  | true =>
    obtain ⟨hlt, hpl⟩ := plA_old id L e i (by rw [hmk]; exact HS.out) (by rw [hmk]; exact hfd)
    have HPL : Hid (plA id L e = L.set i e) := hpl
    obtain ⟨hln, ⟨rfl, hz⟩ | ⟨g, cap, cur, rfl, hbg, hgg, hnc, hcm, hcsz, htk⟩⟩ := HO3.out
    · omega
    · have HG : Hid (W3.heap[g]? = some (.cells cur 3 (0, 0))) := hgg
      have hlti : (i : Int) < (L.length : Int) := by omega
      have z0 : ∃ u, W3.cell? ⟨g, i, none⟩ = some u := ⟨cur[i]'(by omega), cl_row hgg (by rw [Array.getElem?_eq_getElem])⟩
      obtain ⟨u0, k0⟩ := z0
      have f0 := fz_row (i := i) hgg
      have hh0 : (W3.setCell ⟨g, i, none⟩ (.int .i64 e)).heap[g]? = some (.cells (cur.setIfInBounds (i) (.int .i64 e)) 3 (0, 0)) := heap_setCell_same W3 g (i) cur 3 _ hgg
      have HEND : Hid ((W3.setCell ⟨g, i, none⟩ (.int .i64 e)).ownsRow base 3 1 (.slice (some ⟨g, 0, none⟩) L.length cap) (L.set i e).length (intsC (L.set i e)) ∧ Beside g W3 (W3.setCell ⟨g, i, none⟩ (.int .i64 e))) := by
        refine ⟨⟨by rw [intsC_length]; omega, Or.inr ⟨g, cap, _, by rw [List.length_set], hbg, hh0, by rw [List.length_set]; exact hnc, hcm, by simp [hcsz], ?_⟩⟩, Beside.set _ _ _⟩
        rw [List.length_set, intsC_set]
        simp only [Array.toList_setIfInBounds, List.take_set, htk]
      clear hfd hpl hgg htk hcsz hln hh0
      go_wp2
      go_ret
      rw [HPL.out]
      exact ⟨_, rfl, HEND.out.1, grown_trans (grown_of_below HB3.out) (grown_of_beside HEND.out.2)⟩
end Go.Proofs.YtlhnfejgkhilkabDoor
