/-
  An entry at its place in a list that rises by families: placed.
-/
import Derived.Test.YtlhnfejgkhilkaaGreatDoorL0
set_option linter.unusedVariables false
set_option linter.unusedSimpArgs false
namespace Go.Proofs.YtlhnfejgkhilkaaGreatDoor
open Go.RowKit
theorem splitC_int (L : List Int) (e : Int) (i : Nat) (hi : i ≤ L.length) : intsC (L.take i ++ [e] ++ L.drop i) = (intsC L).take (i) ++ [.int .i64 e] ++ (intsC L).drop (i) := by
  have h1 : intsC (L.take i ++ [e] ++ L.drop i) = intsC (L.take i) ++ [.int .i64 e] ++ intsC (L.drop i) := by simp [intsC]
  have h2 : intsC L = intsC (L.take i) ++ intsC (L.drop i) := by rw [← intsC_app, List.take_append_drop]
  have h3 : (intsC (L.take i)).length = i := by rw [intsC_length, List.length_take, Nat.min_eq_left hi]
  rw [h1]
  conv => rhs; rw [h2]
  rw [List.take_left' h3, List.drop_left' h3]
set_option maxHeartbeats 3200000 in
set_option maxRecDepth 100000 in
theorem placed_int (base : Nat) (v : Value) (L : List Int) (e : Int) (w : World) (hown : w.ownsRow base 3 1 v L.length (intsC L)) (hbase : base ≤ w.heap.size) (hs : Srt L) (hlen : L.length ≤ 900) :
    Calls Tryz.prog 71 #[v, .int .i64 e, .func (.func 30) #[] #[]] w fun x w' => ∃ v', x = .returned v' ∧ w'.ownsRow base 3 1 v' (plA id L e).length (intsC (plA id L e)) ∧ w.grownBy w' v.ownBlock := by
  have hmk : L.map id = L := by simp
  have hb1 : Below w.heap.size w (w.alloc (.cells #[.func (.func 30) #[] #[]] 64)) := (Below.refl _ _).alloc (Nat.le_refl _) _
  have hq1 : (w.alloc (.cells #[.func (.func 30) #[] #[]] 64)).heap[w.heap.size]? = some (.cells #[.func (.func 30) #[] #[]] 64 (0, 0)) := hp_new (by simp)
  have HQ1 : Hid (_ = _) := hq1
  have HB1 : Hid (Below _ _ _) := hb1
  have HO0 : Hid (_ : Prop) := hown
  have HS : Hid (Srt L) := hs
  have HBS : Hid (base ≤ w.heap.size) := hbase
  have KS : Hid (∀ X, Below w.heap.size w X → X.heap[w.heap.size]? = some (.cells #[.func (.func 30) #[] #[]] 64 (0, 0)) → Calls Tryz.prog 81 #[v, .int .i64 e, .func (.func 82) #[] #[.pointer (some ⟨w.heap.size, 0, none⟩)]] X fun x w' => SOk L e x ∧ Below X.heap.size X w') := fun X hX hq => search_int v L e w.heap.size X (ints_of_owns (owns_below HO0.out hX)) HS.out (by omega) hq
  clear hown hs hbase hb1 hq1
  have cb := cl_row (i := 0) HQ1.out rfl
  go_enter Tryz.func71, Tryz.ntmps71
  go_wp2_with fail
  generalize w.alloc (.cells #[.func (.func 30) #[] #[]] 64) = W1 at *
  refine Calls.mono (itself_any e W1) ?_
  rintro x W2 ⟨rfl, hw2⟩
  obtain rfl : W1 = W2 := hw2.symm
  clear hw2
  go_wp2_with fail
  refine Calls.mono (KS.out W1 HB1.out HQ1.out) ?_
  rintro x W3 ⟨⟨i, z, rfl, hfd⟩, hb3⟩
  have HB3 : Hid (Below w.heap.size w W3) := HB1.out.trans (hb3.mono HB1.out.size)
  clear hb3 cb HQ1 HB1 KS
  have HO3 : Hid (_ : Prop) := owns_below HO0.out HB3.out
  have HI : Hid (i ≤ L.length) := by unfold Hid; have := hfd.1; simpa using this
  have hil : i ≤ 900 := by have := HI.out; omega
  cases z with
  | false =>
    have HPL : Hid (plA id L e = L.take i ++ [e] ++ L.drop i) := plA_new id L e i (by rw [hmk]; exact HS.out) (by rw [hmk]; exact hfd)
    have HPN : Hid ((L.take i ++ [e] ++ L.drop i).length = L.length + 1) := by unfold Hid; have := HI.out; simp; omega
    have hba : Below W3.heap.size W3 (W3.alloc (.cells #[.int .i64 e] 3)) := (Below.refl _ _).alloc (Nat.le_refl _) _
    have KI : Hid (_ : Prop) := ins_int base L.length i W3.heap.size v (intsC L) [.int .i64 e] (W3.alloc (.cells #[.int .i64 e] 3)) HI.out (by omega) (owns_below HO3.out hba) (by have := HBS.out; have := HB3.out.size; simp; omega) (hp_new rfl) (fun e' => by
      obtain ⟨_, ⟨rfl, _⟩ | ⟨g, cap, cur, rfl, _, hgg, _⟩⟩ := HO3.out
      · cases e'
      · have h1 := lt_of_heap hgg
        simp [Value.ownBlock] at e'
        omega) rfl (one_ints L) (by intro u hu; simp at hu; subst hu; rfl)
    have HBA : Hid (Below _ _ _) := hba
    clear hfd hba
    go_wp2_with fail
    generalize W3.alloc (.cells #[.int .i64 e] 3) = W4 at *
    refine Calls.mono KI.out ?_
    rintro x W5 ⟨v', rfl, ho5, hg5⟩
    go_wp2
    go_ret
    refine ⟨v', rfl, ?_, grown_trans (grown_trans (grown_of_below HB3.out) (grown_of_below HBA.out)) hg5⟩
    rw [HPL.out, HPN.out, splitC_int L e i HI.out]
    exact ho5
  | true =>
    obtain ⟨hlt, hpl⟩ := plA_old id L e i (by rw [hmk]; exact HS.out) (by rw [hmk]; exact hfd)
    have HPL : Hid (plA id L e = L.set i e) := hpl
    obtain ⟨hln, ⟨rfl, hz⟩ | ⟨g, cap, cur, rfl, hbg, hgg, hnc, hcm, hcsz, htk⟩⟩ := HO3.out
    · omega
    · have HG : Hid (W3.heap[g]? = some (.cells cur 3 (0, 0))) := hgg
      have hlti : (i : Int) < (L.length : Int) := by omega
      have z0 : ∃ u, W3.cell? ⟨g, i, none⟩ = some u := ⟨cur[i]'(by omega), cl_row hgg (by rw [Array.getElem?_eq_getElem])⟩
      obtain ⟨u0, k0⟩ := z0
      have f0 := fz_row (i := i) hgg
      have hh0 : (W3.setCell ⟨g, i, none⟩ (.int .i64 e)).heap[g]? = some (.cells (cur.setIfInBounds (i) (.int .i64 e)) 3 (0, 0)) := heap_setCell_same W3 g (i) cur 3 _ hgg
      have HEND : Hid ((W3.setCell ⟨g, i, none⟩ (.int .i64 e)).ownsRow base 3 1 (.slice (some ⟨g, 0, none⟩) L.length cap) (L.set i e).length (intsC (L.set i e)) ∧ Beside g W3 (W3.setCell ⟨g, i, none⟩ (.int .i64 e))) := by
        refine ⟨⟨by rw [intsC_length]; omega, Or.inr ⟨g, cap, _, by rw [List.length_set], hbg, hh0, by rw [List.length_set]; exact hnc, hcm, by simp [hcsz], ?_⟩⟩, Beside.set _ _ _⟩
        rw [List.length_set, intsC_set]
        simp only [Array.toList_setIfInBounds, List.take_set, htk]
      clear hfd hpl hgg htk hcsz hln hh0
      go_wp2
      go_ret
      rw [HPL.out]
      exact ⟨_, rfl, HEND.out.1, grown_trans (grown_of_below HB3.out) (grown_of_beside HEND.out.2)⟩
end Go.Proofs.YtlhnfejgkhilkaaGreatDoor

set_option linter.unusedVariables false
set_option linter.unusedSimpArgs false
namespace Go.Proofs.YtlhnfejgkhilkaaGreatDoor
open Go.RowKit
theorem splitC_kept (L : List Kp) (e : Kp) (i : Nat) (hi : i ≤ L.length) : keptC (L.take i ++ [e] ++ L.drop i) = (keptC L).take (i * 2) ++ [.int .i64 e.f, .bool e.k] ++ (keptC L).drop (i * 2) := by
  have h1 : keptC (L.take i ++ [e] ++ L.drop i) = keptC (L.take i) ++ [.int .i64 e.f, .bool e.k] ++ keptC (L.drop i) := by simp [keptC]
  have h2 : keptC L = keptC (L.take i) ++ keptC (L.drop i) := by rw [← keptC_app, List.take_append_drop]
  have h3 : (keptC (L.take i)).length = i * 2 := by rw [keptC_length, List.length_take, Nat.min_eq_left hi]
  rw [h1]
  conv => rhs; rw [h2]
  rw [List.take_left' h3, List.drop_left' h3]
set_option maxHeartbeats 3200000 in
set_option maxRecDepth 100000 in
theorem placed_kept (base : Nat) (v : Value) (L : List Kp) (e : Kp) (w : World) (hown : w.ownsRow base 40 2 v L.length (keptC L)) (hbase : base ≤ w.heap.size) (hs : Srt (L.map (·.f))) (hlen : L.length ≤ 900) :
    Calls Tryz.prog 74 #[v, .agg #[.int .i64 e.f, .bool e.k], .func (.func 48) #[] #[]] w fun x w' => ∃ v', x = .returned v' ∧ w'.ownsRow base 40 2 v' (plA (fun x : Kp => x.f) L e).length (keptC (plA (fun x : Kp => x.f) L e)) ∧ w.grownBy w' v.ownBlock := by
  have hb1 : Below w.heap.size w ((w.alloc (.cells #[.int .i64 e.f, .bool e.k] 40)).alloc (.cells #[.func (.func 48) #[] #[]] 82)) := ((Below.refl _ _).alloc (Nat.le_refl _) _).alloc (by simp) _
  have hq1 : ((w.alloc (.cells #[.int .i64 e.f, .bool e.k] 40)).alloc (.cells #[.func (.func 48) #[] #[]] 82)).heap[(w.heap.size + 1)]? = some (.cells #[.func (.func 48) #[] #[]] 82 (0, 0)) := hp_new (by simp)
  have hr1 : ((w.alloc (.cells #[.int .i64 e.f, .bool e.k] 40)).alloc (.cells #[.func (.func 48) #[] #[]] 82)).heap[w.heap.size]? = some (.cells #[.int .i64 e.f, .bool e.k] 40 (0, 0)) := hp_up (hp_new rfl)
  have HR1 : Hid (_ = _) := hr1
  have HQ1 : Hid (_ = _) := hq1
  have HB1 : Hid (Below _ _ _) := hb1
  have HO0 : Hid (_ : Prop) := hown
  have HS : Hid (Srt (L.map (·.f))) := hs
  have HBS : Hid (base ≤ w.heap.size) := hbase
  have KS : Hid (∀ X, Below w.heap.size w X → X.heap[(w.heap.size + 1)]? = some (.cells #[.func (.func 48) #[] #[]] 82 (0, 0)) → Calls Tryz.prog 85 #[v, .int .i64 e.f, .func (.func 86) #[] #[.pointer (some ⟨(w.heap.size + 1), 0, none⟩)]] X fun x w' => SOk (L.map (·.f)) e.f x ∧ Below X.heap.size X w') := fun X hX hq => search_kept v L e.f (w.heap.size + 1) X (kept_of_owns (owns_below HO0.out hX)) HS.out (by omega) hq
  clear hown hs hbase hb1 hq1
  have cb := cl_row (i := 0) HQ1.out rfl
  have ce0 := cl_row (i := 0) HR1.out rfl
  have ce1 := cl_row (i := 1) HR1.out rfl
  go_enter Tryz.func74, Tryz.ntmps74
  go_wp2_with fail
  generalize (w.alloc (.cells #[.int .i64 e.f, .bool e.k] 40)).alloc (.cells #[.func (.func 48) #[] #[]] 82) = W1 at *
  refine Calls.mono (restartFam_any e.f e.k W1) ?_
  rintro x W2 ⟨rfl, hb2⟩
  have HB2 : Hid (Below w.heap.size w W2) := HB1.out.trans (hb2.mono HB1.out.size)
  have HQ2 : Hid (W2.heap[(w.heap.size + 1)]? = _) := (hb2.block _ (lt_of_heap HQ1.out)).trans HQ1.out
  have HR2 : Hid (W2.heap[w.heap.size]? = _) := (hb2.block _ (lt_of_heap HR1.out)).trans HR1.out
  clear hb2 cb ce0 ce1 HQ1 HB1 HR1 hr1
  go_wp2_with fail
  refine Calls.mono (KS.out W2 HB2.out HQ2.out) ?_
  rintro x W3 ⟨⟨i, z, rfl, hfd⟩, hb3⟩
  have HB3 : Hid (Below w.heap.size w W3) := HB2.out.trans (hb3.mono HB2.out.size)
  have HR3 : Hid (W3.heap[w.heap.size]? = _) := (hb3.block _ (lt_of_heap HR2.out)).trans HR2.out
  have ce0 := cl_row (i := 0) HR3.out rfl
  have ce1 := cl_row (i := 1) HR3.out rfl
  clear hb3 HQ2 HB2 KS HR2
  have HO3 : Hid (_ : Prop) := owns_below HO0.out HB3.out
  have HI : Hid (i ≤ L.length) := by unfold Hid; have := hfd.1; simpa using this
  have hil : i ≤ 900 := by have := HI.out; omega
  cases z with
  | false =>
    have HPL : Hid (plA (fun x : Kp => x.f) L e = L.take i ++ [e] ++ L.drop i) := plA_new (fun x : Kp => x.f) L e i HS.out hfd
    have HPN : Hid ((L.take i ++ [e] ++ L.drop i).length = L.length + 1) := by unfold Hid; have := HI.out; simp; omega
    have hba : Below W3.heap.size W3 (W3.alloc (.cells #[.int .i64 e.f, .bool e.k] 40)) := (Below.refl _ _).alloc (Nat.le_refl _) _
    have KI : Hid (_ : Prop) := ins_kept base L.length i W3.heap.size v (keptC L) [.int .i64 e.f, .bool e.k] (W3.alloc (.cells #[.int .i64 e.f, .bool e.k] 40)) HI.out (by omega) (owns_below HO3.out hba) (by have := HBS.out; have := HB3.out.size; simp; omega) (hp_new rfl) (fun e' => by
      obtain ⟨_, ⟨rfl, _⟩ | ⟨g, cap, cur, rfl, _, hgg, _⟩⟩ := HO3.out
      · cases e'
      · have h1 := lt_of_heap hgg
        simp [Value.ownBlock] at e'
        omega) rfl (one_kept L) (by intro u hu; simp at hu; rcases hu with rfl | rfl <;> rfl)
    have HBA : Hid (Below _ _ _) := hba
    clear hfd hba
    go_wp2_with fail
    generalize W3.alloc (.cells #[.int .i64 e.f, .bool e.k] 40) = W4 at *
    refine Calls.mono KI.out ?_
    rintro x W5 ⟨v', rfl, ho5, hg5⟩
    go_wp2
    go_ret
    refine ⟨v', rfl, ?_, grown_trans (grown_trans (grown_of_below HB3.out) (grown_of_below HBA.out)) hg5⟩
    rw [HPL.out, HPN.out, splitC_kept L e i HI.out]
    exact ho5
  | true =>
    obtain ⟨hlt, hpl⟩ := plA_old (fun x : Kp => x.f) L e i HS.out hfd
    have HPL : Hid (plA (fun x : Kp => x.f) L e = L.set i e) := hpl
    obtain ⟨hln, ⟨rfl, hz⟩ | ⟨g, cap, cur, rfl, hbg, hgg, hnc, hcm, hcsz, htk⟩⟩ := HO3.out
    · omega
    · have HG : Hid (W3.heap[g]? = some (.cells cur 40 (0, 0))) := hgg
      have hlti : (i : Int) < (L.length : Int) := by omega
      have z0 : ∃ u, W3.cell? ⟨g, i * 2, none⟩ = some u := ⟨cur[i * 2]'(by omega), cl_row hgg (by rw [Array.getElem?_eq_getElem])⟩
      obtain ⟨u0, k0⟩ := z0
      have f0 := fz_row (i := i * 2) hgg
      have z1 : ∃ u, W3.cell? ⟨g, i * 2 + 1, none⟩ = some u := ⟨cur[i * 2 + 1]'(by omega), cl_row hgg (by rw [Array.getElem?_eq_getElem])⟩
      obtain ⟨u1, k1⟩ := z1
      have f1 := fz_row (i := i * 2 + 1) hgg
      have hh0 : (W3.setCell ⟨g, i * 2, none⟩ (.int .i64 e.f)).heap[g]? = some (.cells (cur.setIfInBounds (i * 2) (.int .i64 e.f)) 40 (0, 0)) := heap_setCell_same W3 g (i * 2) cur 40 _ hgg
      have hh1 : ((W3.setCell ⟨g, i * 2, none⟩ (.int .i64 e.f)).setCell ⟨g, i * 2 + 1, none⟩ (.bool e.k)).heap[g]? = some (.cells ((cur.setIfInBounds (i * 2) (.int .i64 e.f)).setIfInBounds (i * 2 + 1) (.bool e.k)) 40 (0, 0)) := heap_setCell_same (W3.setCell ⟨g, i * 2, none⟩ (.int .i64 e.f)) g (i * 2 + 1) (cur.setIfInBounds (i * 2) (.int .i64 e.f)) 40 _ hh0
      have HEND : Hid (((W3.setCell ⟨g, i * 2, none⟩ (.int .i64 e.f)).setCell ⟨g, i * 2 + 1, none⟩ (.bool e.k)).ownsRow base 40 2 (.slice (some ⟨g, 0, none⟩) L.length cap) (L.set i e).length (keptC (L.set i e)) ∧ Beside g W3 ((W3.setCell ⟨g, i * 2, none⟩ (.int .i64 e.f)).setCell ⟨g, i * 2 + 1, none⟩ (.bool e.k))) := by
        refine ⟨⟨by rw [keptC_length], Or.inr ⟨g, cap, _, by rw [List.length_set], hbg, hh1, by rw [List.length_set]; exact hnc, hcm, by simp [hcsz], ?_⟩⟩, (Beside.set _ _ _).trans (Beside.set _ _ _)⟩
        rw [List.length_set, keptC_set]
        simp only [Array.toList_setIfInBounds, List.take_set, htk]
      clear hfd hpl hgg htk hcsz hln hh0 hh1
      go_wp2
      go_ret
      rw [HPL.out]
      exact ⟨_, rfl, HEND.out.1, grown_trans (grown_of_below HB3.out) (grown_of_beside HEND.out.2)⟩
end Go.Proofs.YtlhnfejgkhilkaaGreatDoor

set_option linter.unusedVariables false
set_option linter.unusedSimpArgs false
namespace Go.Proofs.YtlhnfejgkhilkaaGreatDoor
open Go.RowKit
theorem splitC_add (L : List Ad) (e : Ad) (i : Nat) (hi : i ≤ L.length) : addsC (L.take i ++ [e] ++ L.drop i) = (addsC L).take (i * 3) ++ [.int .i64 e.f, .bool e.s, .bool e.t] ++ (addsC L).drop (i * 3) := by
  have h1 : addsC (L.take i ++ [e] ++ L.drop i) = addsC (L.take i) ++ [.int .i64 e.f, .bool e.s, .bool e.t] ++ addsC (L.drop i) := by simp [addsC]
  have h2 : addsC L = addsC (L.take i) ++ addsC (L.drop i) := by rw [← addsC_app, List.take_append_drop]
  have h3 : (addsC (L.take i)).length = i * 3 := by rw [addsC_length, List.length_take, Nat.min_eq_left hi]
  rw [h1]
  conv => rhs; rw [h2]
  rw [List.take_left' h3, List.drop_left' h3]
set_option maxHeartbeats 3200000 in
set_option maxRecDepth 100000 in
theorem placed_add (base : Nat) (v : Value) (L : List Ad) (e : Ad) (w : World) (hown : w.ownsRow base 52 3 v L.length (addsC L)) (hbase : base ≤ w.heap.size) (hs : Srt (L.map (·.f))) (hlen : L.length ≤ 900) :
    Calls Tryz.prog 76 #[v, .agg #[.int .i64 e.f, .bool e.s, .bool e.t], .func (.func 32) #[] #[]] w fun x w' => ∃ v', x = .returned v' ∧ w'.ownsRow base 52 3 v' (plA (fun x : Ad => x.f) L e).length (addsC (plA (fun x : Ad => x.f) L e)) ∧ w.grownBy w' v.ownBlock := by
  have hb1 : Below w.heap.size w ((w.alloc (.cells #[.int .i64 e.f, .bool e.s, .bool e.t] 52)).alloc (.cells #[.func (.func 32) #[] #[]] 66)) := ((Below.refl _ _).alloc (Nat.le_refl _) _).alloc (by simp) _
  have hq1 : ((w.alloc (.cells #[.int .i64 e.f, .bool e.s, .bool e.t] 52)).alloc (.cells #[.func (.func 32) #[] #[]] 66)).heap[(w.heap.size + 1)]? = some (.cells #[.func (.func 32) #[] #[]] 66 (0, 0)) := hp_new (by simp)
  have hr1 : ((w.alloc (.cells #[.int .i64 e.f, .bool e.s, .bool e.t] 52)).alloc (.cells #[.func (.func 32) #[] #[]] 66)).heap[w.heap.size]? = some (.cells #[.int .i64 e.f, .bool e.s, .bool e.t] 52 (0, 0)) := hp_up (hp_new rfl)
  have HR1 : Hid (_ = _) := hr1
  have HQ1 : Hid (_ = _) := hq1
  have HB1 : Hid (Below _ _ _) := hb1
  have HO0 : Hid (_ : Prop) := hown
  have HS : Hid (Srt (L.map (·.f))) := hs
  have HBS : Hid (base ≤ w.heap.size) := hbase
  have KS : Hid (∀ X, Below w.heap.size w X → X.heap[(w.heap.size + 1)]? = some (.cells #[.func (.func 32) #[] #[]] 66 (0, 0)) → Calls Tryz.prog 88 #[v, .int .i64 e.f, .func (.func 89) #[] #[.pointer (some ⟨(w.heap.size + 1), 0, none⟩)]] X fun x w' => SOk (L.map (·.f)) e.f x ∧ Below X.heap.size X w') := fun X hX hq => search_add v L e.f (w.heap.size + 1) X (adds_of_owns (owns_below HO0.out hX)) HS.out (by omega) hq
  clear hown hs hbase hb1 hq1
  have cb := cl_row (i := 0) HQ1.out rfl
  have ce0 := cl_row (i := 0) HR1.out rfl
  have ce1 := cl_row (i := 1) HR1.out rfl
  have ce2 := cl_row (i := 2) HR1.out rfl
  go_enter Tryz.func76, Tryz.ntmps76
  go_wp2_with fail
  generalize (w.alloc (.cells #[.int .i64 e.f, .bool e.s, .bool e.t] 52)).alloc (.cells #[.func (.func 32) #[] #[]] 66) = W1 at *
  refine Calls.mono (addFam_any e.f e.s e.t W1) ?_
  rintro x W2 ⟨rfl, hb2⟩
  have HB2 : Hid (Below w.heap.size w W2) := HB1.out.trans (hb2.mono HB1.out.size)
  have HQ2 : Hid (W2.heap[(w.heap.size + 1)]? = _) := (hb2.block _ (lt_of_heap HQ1.out)).trans HQ1.out
  have HR2 : Hid (W2.heap[w.heap.size]? = _) := (hb2.block _ (lt_of_heap HR1.out)).trans HR1.out
  clear hb2 cb ce0 ce1 ce2 HQ1 HB1 HR1 hr1
  go_wp2_with fail
  refine Calls.mono (KS.out W2 HB2.out HQ2.out) ?_
  rintro x W3 ⟨⟨i, z, rfl, hfd⟩, hb3⟩
  have HB3 : Hid (Below w.heap.size w W3) := HB2.out.trans (hb3.mono HB2.out.size)
  have HR3 : Hid (W3.heap[w.heap.size]? = _) := (hb3.block _ (lt_of_heap HR2.out)).trans HR2.out
  have ce0 := cl_row (i := 0) HR3.out rfl
  have ce1 := cl_row (i := 1) HR3.out rfl
  have ce2 := cl_row (i := 2) HR3.out rfl
  clear hb3 HQ2 HB2 KS HR2
  have HO3 : Hid (_ : Prop) := owns_below HO0.out HB3.out
  have HI : Hid (i ≤ L.length) := by unfold Hid; have := hfd.1; simpa using this
  have hil : i ≤ 900 := by have := HI.out; omega
  cases z with
  | false =>
    have HPL : Hid (plA (fun x : Ad => x.f) L e = L.take i ++ [e] ++ L.drop i) := plA_new (fun x : Ad => x.f) L e i HS.out hfd
    have HPN : Hid ((L.take i ++ [e] ++ L.drop i).length = L.length + 1) := by unfold Hid; have := HI.out; simp; omega
    have hba : Below W3.heap.size W3 (W3.alloc (.cells #[.int .i64 e.f, .bool e.s, .bool e.t] 52)) := (Below.refl _ _).alloc (Nat.le_refl _) _
    have KI : Hid (_ : Prop) := ins_add base L.length i W3.heap.size v (addsC L) [.int .i64 e.f, .bool e.s, .bool e.t] (W3.alloc (.cells #[.int .i64 e.f, .bool e.s, .bool e.t] 52)) HI.out (by omega) (owns_below HO3.out hba) (by have := HBS.out; have := HB3.out.size; simp; omega) (hp_new rfl) (fun e' => by
      obtain ⟨_, ⟨rfl, _⟩ | ⟨g, cap, cur, rfl, _, hgg, _⟩⟩ := HO3.out
      · cases e'
      · have h1 := lt_of_heap hgg
        simp [Value.ownBlock] at e'
        omega) rfl (one_adds L) (by intro u hu; simp at hu; rcases hu with rfl | rfl | rfl <;> rfl)
    have HBA : Hid (Below _ _ _) := hba
    clear hfd hba
    go_wp2_with fail
    generalize W3.alloc (.cells #[.int .i64 e.f, .bool e.s, .bool e.t] 52) = W4 at *
    refine Calls.mono KI.out ?_
    rintro x W5 ⟨v', rfl, ho5, hg5⟩
    go_wp2
    go_ret
    refine ⟨v', rfl, ?_, grown_trans (grown_trans (grown_of_below HB3.out) (grown_of_below HBA.out)) hg5⟩
    rw [HPL.out, HPN.out, splitC_add L e i HI.out]
    exact ho5
  | true =>
    obtain ⟨hlt, hpl⟩ := plA_old (fun x : Ad => x.f) L e i HS.out hfd
    have HPL : Hid (plA (fun x : Ad => x.f) L e = L.set i e) := hpl
    obtain ⟨hln, ⟨rfl, hz⟩ | ⟨g, cap, cur, rfl, hbg, hgg, hnc, hcm, hcsz, htk⟩⟩ := HO3.out
    · omega
    · have HG : Hid (W3.heap[g]? = some (.cells cur 52 (0, 0))) := hgg
      have hlti : (i : Int) < (L.length : Int) := by omega
      have z0 : ∃ u, W3.cell? ⟨g, i * 3, none⟩ = some u := ⟨cur[i * 3]'(by omega), cl_row hgg (by rw [Array.getElem?_eq_getElem])⟩
      obtain ⟨u0, k0⟩ := z0
      have f0 := fz_row (i := i * 3) hgg
      have z1 : ∃ u, W3.cell? ⟨g, i * 3 + 1, none⟩ = some u := ⟨cur[i * 3 + 1]'(by omega), cl_row hgg (by rw [Array.getElem?_eq_getElem])⟩
      obtain ⟨u1, k1⟩ := z1
      have f1 := fz_row (i := i * 3 + 1) hgg
      have z2 : ∃ u, W3.cell? ⟨g, i * 3 + 2, none⟩ = some u := ⟨cur[i * 3 + 2]'(by omega), cl_row hgg (by rw [Array.getElem?_eq_getElem])⟩
      obtain ⟨u2, k2⟩ := z2
      have f2 := fz_row (i := i * 3 + 2) hgg
      have hh0 : (W3.setCell ⟨g, i * 3, none⟩ (.int .i64 e.f)).heap[g]? = some (.cells (cur.setIfInBounds (i * 3) (.int .i64 e.f)) 52 (0, 0)) := heap_setCell_same W3 g (i * 3) cur 52 _ hgg
      have hh1 : ((W3.setCell ⟨g, i * 3, none⟩ (.int .i64 e.f)).setCell ⟨g, i * 3 + 1, none⟩ (.bool e.s)).heap[g]? = some (.cells ((cur.setIfInBounds (i * 3) (.int .i64 e.f)).setIfInBounds (i * 3 + 1) (.bool e.s)) 52 (0, 0)) := heap_setCell_same (W3.setCell ⟨g, i * 3, none⟩ (.int .i64 e.f)) g (i * 3 + 1) (cur.setIfInBounds (i * 3) (.int .i64 e.f)) 52 _ hh0
      have hh2 : (((W3.setCell ⟨g, i * 3, none⟩ (.int .i64 e.f)).setCell ⟨g, i * 3 + 1, none⟩ (.bool e.s)).setCell ⟨g, i * 3 + 2, none⟩ (.bool e.t)).heap[g]? = some (.cells (((cur.setIfInBounds (i * 3) (.int .i64 e.f)).setIfInBounds (i * 3 + 1) (.bool e.s)).setIfInBounds (i * 3 + 2) (.bool e.t)) 52 (0, 0)) := heap_setCell_same ((W3.setCell ⟨g, i * 3, none⟩ (.int .i64 e.f)).setCell ⟨g, i * 3 + 1, none⟩ (.bool e.s)) g (i * 3 + 2) ((cur.setIfInBounds (i * 3) (.int .i64 e.f)).setIfInBounds (i * 3 + 1) (.bool e.s)) 52 _ hh1
      have HEND : Hid ((((W3.setCell ⟨g, i * 3, none⟩ (.int .i64 e.f)).setCell ⟨g, i * 3 + 1, none⟩ (.bool e.s)).setCell ⟨g, i * 3 + 2, none⟩ (.bool e.t)).ownsRow base 52 3 (.slice (some ⟨g, 0, none⟩) L.length cap) (L.set i e).length (addsC (L.set i e)) ∧ Beside g W3 (((W3.setCell ⟨g, i * 3, none⟩ (.int .i64 e.f)).setCell ⟨g, i * 3 + 1, none⟩ (.bool e.s)).setCell ⟨g, i * 3 + 2, none⟩ (.bool e.t))) := by
        refine ⟨⟨by rw [addsC_length], Or.inr ⟨g, cap, _, by rw [List.length_set], hbg, hh2, by rw [List.length_set]; exact hnc, hcm, by simp [hcsz], ?_⟩⟩, ((Beside.set _ _ _).trans (Beside.set _ _ _)).trans (Beside.set _ _ _)⟩
        rw [List.length_set, addsC_set]
        simp only [Array.toList_setIfInBounds, List.take_set, htk]
      clear hfd hpl hgg htk hcsz hln hh0 hh1 hh2
      go_wp2
      go_ret
      rw [HPL.out]
      exact ⟨_, rfl, HEND.out.1, grown_trans (grown_of_below HB3.out) (grown_of_beside HEND.out.2)⟩
end Go.Proofs.YtlhnfejgkhilkaaGreatDoor
