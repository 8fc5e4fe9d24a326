/-
  slices.Insert of one entry into a row of its own: at the end, and where there is no room; all ways.
-/
import Derived.Test.YtlhnfejgkhilkaaGreatDoorIa
import Derived.OwnWalk
set_option linter.unusedVariables false
set_option linter.unusedSimpArgs false
namespace Go.Proofs.YtlhnfejgkhilkaaGreatDoor
open Go.RowKit
theorem row_grow {α : Type} (ROW xs vs : List α) (n i sz : Nat) (hi : i < n) (hl : (n + 1) * sz ≤ ROW.length) (hx : ROW.take (i * sz) = xs.take (i * sz)) (hxl : xs.length = n * sz) (hvl : vs.length = sz) :
    let c1 := ROW.take (i * sz) ++ vs ++ ROW.drop (i * sz + vs.length)
    let c2 := c1.take ((i + 1) * sz) ++ xs.drop (i * sz) ++ c1.drop ((i + 1) * sz + (xs.drop (i * sz)).length)
    c1.length = ROW.length ∧ c2.length = ROW.length ∧ c2.take ((n + 1) * sz) = xs.take (i * sz) ++ vs ++ xs.drop (i * sz) := by
  intro c1 c2
  have e1 : (n + 1) * sz = n * sz + sz := Nat.succ_mul n sz
  have e2 : (i + 1) * sz = i * sz + sz := Nat.succ_mul i sz
  have e3 : i * sz + sz ≤ n * sz := by rw [← e2]; exact Nat.mul_le_mul_right _ hi
  have hdl : (xs.drop (i * sz)).length = n * sz - i * sz := by rw [List.length_drop, hxl]
  have l1 : c1.length = ROW.length := by
    show (ROW.take (i * sz) ++ vs ++ ROW.drop (i * sz + vs.length)).length = _
    simp only [List.length_append, List.length_take, List.length_drop, hvl]
    omega
  have t1 : c1.take ((i + 1) * sz) = xs.take (i * sz) ++ vs := by
    show (ROW.take (i * sz) ++ vs ++ ROW.drop (i * sz + vs.length)).take _ = _
    rw [hx, List.take_append_of_le_length (by simp only [List.length_append, List.length_take, hvl, hxl]; omega), List.take_of_length_le (by simp only [List.length_append, List.length_take, hvl, hxl]; omega)]
  have l2 : c2.length = ROW.length := by
    show (c1.take ((i + 1) * sz) ++ xs.drop (i * sz) ++ c1.drop ((i + 1) * sz + (xs.drop (i * sz)).length)).length = _
    simp only [List.length_append, List.length_take, List.length_drop, l1, hxl]
    omega
  refine ⟨l1, l2, ?_⟩
  show (c1.take ((i + 1) * sz) ++ xs.drop (i * sz) ++ c1.drop ((i + 1) * sz + (xs.drop (i * sz)).length)).take ((n + 1) * sz) = _
  rw [t1, List.take_append_of_le_length, List.take_of_length_le]
  · simp only [List.length_append, List.length_take, hdl, hvl]; omega
  · simp only [List.length_append, List.length_take, hdl, hvl]; omega
/-- What lay in memory is as it was, but for a value's own row. -/
theorem grown_of_beside {w w' : World} {g n c : Nat} (h : Beside g w w') : w.grownBy w' (Value.slice (some ⟨g, 0, none⟩) n c).ownBlock :=
  ⟨h.os, h.tape, h.output, h.size, fun k hk hne => h.block k hk (fun e => hne (by rw [e]; rfl))⟩
theorem grown_of_below {w w' : World} {r : Option Nat} (h : Below w.heap.size w w') : w.grownBy w' r :=
  ⟨h.os, h.tape, h.output, h.size, fun k hk _ => h.block k hk⟩
theorem infoE_int : (Tryz.prog.info? 3).map (fun i => (i.zero, i.size, i.bytes)) = some (some (.int .i64 0), 1, 8) := by kernel_rfl
set_option maxHeartbeats 6400000 in
set_option maxRecDepth 100000 in
theorem insGrow_int (g n i vb : Nat) (cur xs vs : List Value) (w : World) (hi : i < n) (hn : n ≤ 1000) (hvb : vb ≠ g)
    (hg : w.heap[g]? = some (.cells cur.toArray 3 (0, 0))) (hcs : cur.length = n * 1) (hx : cur.take (n) = xs) (hxl : xs.length = n)
    (hv : w.heap[vb]? = some (.cells vs.toArray 3 (0, 0))) (hvl : vs.length = 1) (h1x : ∀ v ∈ xs, v.oneCell' = true) (h1v : ∀ v ∈ vs, v.oneCell' = true) :
    Calls Tryz.prog 84 #[.slice (some ⟨g, 0, none⟩) n n, .int .i64 i, .slice (some ⟨vb, 0, none⟩) 1 1] w fun e w' =>
      ∃ c, e = .returned (.slice (some ⟨w.heap.size, 0, none⟩) (n + 1) c) ∧ n + 1 ≤ c ∧ c ≤ maxLen ∧ ∃ cur' : Array Value, w'.heap[w.heap.size]? = some (.cells cur' 3 (0, 0)) ∧ cur'.size = c * 1 ∧ cur'.toList.take ((n + 1)) = xs.take (i) ++ vs ++ xs.drop (i) ∧ Below w.heap.size w w' := by
  obtain ⟨i0, hi0, hz0, hz1, hz2⟩ := info_parts infoE_int
  have hzz : ¬ ((i : Int) = (n : Int)) := by omega
  have hdl : (xs.drop (i)).length = (n - i) * 1 := by rw [List.length_drop, hxl]; omega
  have hgw : g < w.heap.size := lt_of_heap hg
  have hvw : vb < w.heap.size := lt_of_heap hv
  have hadd0 : ∀ (b o j : Nat), Addr.add ⟨b, o, none⟩ j = ⟨b, o + j, none⟩ := fun b o j => by unfold Addr.add; by_cases e : j = 0 <;> simp [e]
  have hxs : ∀ j v, xs[j]? = some v → w.cell? ⟨g, j, none⟩ = some v := fun j v hj => cl_row hg (by simpa using take_of_take hx (by omega) _ v hj)
  have hold : (Builtin.firstCells i0.size i (.slice (some ⟨g, 0, none⟩) i n)).run Tryz.prog w.drew = .ok (xs.take (i)).toArray w.drew := by
    rw [hz1]
    refine run_firstCells_some w.drew 1 i ⟨g, 0, none⟩ i n (xs.take (i)) (by rw [List.length_take]; omega) (fun j v hj => ?_)
    rw [hadd0, Nat.zero_add]
    rw [List.getElem?_take] at hj
    split at hj
    · exact hxs j v hj
    · cases hj
  have hap : ∀ ty, (Builtin.append_ #[23, 3] ty #[.slice (some ⟨g, 0, none⟩) i n, .int .i64 ((n : Int) + 1 - (i : Int))]).run Tryz.prog w =
      .ok (.slice (some ⟨w.heap.size, 0, none⟩) (n + 1) (grownCap w (n + 1) n 3)) (w.drew.alloc (.cells ((xs.take (i)).toArray ++ Builtin.zeroCells (.int .i64 0 : Value).cells (n + 1 - i) ++ Builtin.zeroCells (.int .i64 0 : Value).cells (grownCap w (n + 1) n 3 - (n + 1))) 3)) := fun ty => by
    have h := Lib.run_append_grow_zeros w 23 3 ty 3 i0 _ .i64 .i64 Tryz.underlying23 Tryz.underlying3 hi0 hz0 (some ⟨g, 0, none⟩) i n (xs.take (i)) hold (n + 1 - i) (by omega) (by omega) (by omega) (by omega) (by rw [hz2]; omega) (by rw [hz2, show i + (n + 1 - i) = n + 1 from by omega]; exact growslice_fits (by omega) (by omega))
    rw [show i + (n + 1 - i) = n + 1 from by omega] at h
    rw [show ((n : Int) + 1 - (i : Int)) = ((n + 1 - i : Nat) : Int) from by omega]
    exact h
  obtain ⟨G, hG⟩ : ∃ G, G = grownCap w (n + 1) n 3 := ⟨_, rfl⟩
  rw [← hG] at hap
  have hGn : n + 1 ≤ G := by rw [hG]; exact grownCap_ge w _ _ _
  have hGm : G ≤ maxLen := by rw [hG]; exact grownCap_le_maxLen w _ _ _ (by unfold maxLen; omega)
  obtain ⟨ROW, hROW⟩ : ∃ ROW : List Value, ROW.toArray = (xs.take (i)).toArray ++ Builtin.zeroCells (.int .i64 0 : Value).cells (n + 1 - i) ++ Builtin.zeroCells (.int .i64 0 : Value).cells (G - (n + 1)) := ⟨_, Array.toArray_toList⟩
  have hRl : ROW.length = G * 1 := by
    have h := congrArg Array.size hROW
    rw [List.size_toArray, Array.size_append, Array.size_append, size_zeroCells, size_zeroCells, List.size_toArray, List.length_take, show (.int .i64 0 : Value).cells.size = 1 from rfl] at h
    rw [h]
    omega
  have hRt : ROW.take (i) = xs.take (i) := by
    have h := congrArg Array.toList hROW
    simp only [Array.toList_append] at h
    rw [show ROW = ROW.toArray.toList from rfl, h, List.append_assoc, List.take_append_of_le_length (by simp; omega)]
    show List.take _ (List.take _ xs) = _
    rw [List.take_take, Nat.min_self]
  rw [← hROW] at hap
  clear hROW hold
  obtain ⟨W1, hW1⟩ : ∃ W1, W1 = w.drew.alloc (.cells ROW.toArray 3) := ⟨_, rfl⟩
  rw [← hW1] at hap
  have hbW : Below w.heap.size w W1 := by rw [hW1]; exact (Below.refl _ _).drew.alloc (Nat.le_refl _) _
  have hN1 : W1.heap[w.heap.size]? = some (.cells ROW.toArray 3 (0, 0)) := by rw [hW1]; exact hp_new rfl
  obtain ⟨hl1, hl2, hfin⟩ := row_grow ROW xs vs n i 1 hi (by omega) (by simpa using hRt) (by omega) hvl
  simp only [Nat.mul_one] at hl1 hl2 hfin
  have hcpA : ∀ ty dc, (Builtin.copy_ #[23, 23] ty #[.slice (some ⟨w.heap.size, i, none⟩) (n + 1 - i) dc, .slice (some ⟨vb, 0, none⟩) 1 1]).run Tryz.prog W1 = .ok (goInt 1) (W1.setRow w.heap.size (ROW.take (i) ++ vs ++ ROW.drop (i + vs.length)).toArray) := fun ty dc => by
    have := run_copyK (P := Tryz.prog) W1 23 23 ty 3 1 w.heap.size (i) (n + 1 - i) dc ⟨vb, 0, none⟩ 1 1 ROW.toArray 3 vs Tryz.underlying23 sizeE_int hN1 (by rw [hvl, show Nat.min 1 (n + 1 - i) = 1 from by simp only [Nat.min_def]; split <;> omega])
      (fun j v hj => by rw [hadd0, Nat.zero_add]; exact cl_row ((hbW.block _ hvw).trans hv) (by simpa using hj)) (by simp; omega) h1v
    rw [show Nat.min 1 (n + 1 - i) = 1 from by simp only [Nat.min_def]; split <;> omega] at this
    exact this
  obtain ⟨c1, hc1⟩ : ∃ c1, c1 = ROW.take (i) ++ vs ++ ROW.drop (i + vs.length) := ⟨_, rfl⟩
  rw [← hc1] at hcpA
  simp only [← hc1] at hl1 hl2 hfin
  obtain ⟨W2, hW2⟩ : ∃ W2, W2 = W1.setRow w.heap.size c1.toArray := ⟨_, rfl⟩
  rw [← hW2] at hcpA
  have hN2 : W2.heap[w.heap.size]? = some (.cells c1.toArray 3 (0, 0)) := by rw [hW2]; exact row_same W1 _ _ _ hN1
  have hbW2 : Below w.heap.size w W2 := by rw [hW2]; exact below_setRow hbW (Nat.le_refl _) _
  have hcpB : ∀ ty dc sc, (Builtin.copy_ #[23, 23] ty #[.slice (some ⟨w.heap.size, i + 1, none⟩) (n - i) dc, .slice (some ⟨g, i, none⟩) (n - i) sc]).run Tryz.prog W2.drew = .ok (goInt ((n - i : Nat) : Int)) (W2.drew.setRow w.heap.size (c1.take (i + 1) ++ xs.drop (i) ++ c1.drop (i + 1 + (xs.drop (i)).length)).toArray) := fun ty dc sc => by
    have := run_copyK (P := Tryz.prog) W2.drew 23 23 ty 3 1 w.heap.size (i + 1) (n - i) dc ⟨g, i, none⟩ (n - i) sc c1.toArray 3 (xs.drop (i)) Tryz.underlying23 sizeE_int hN2 (by rw [hdl]; congr 1; simp only [Nat.min_def]; split <;> omega)
      (fun j v hj => by
        rw [hadd0]
        rw [List.getElem?_drop] at hj
        exact (hbW2.cell (p := ⟨g, i + j, none⟩) hgw).trans (hxs _ v hj))
      (by rw [hdl]; simp; omega) (fun v hv' => h1x v (List.mem_of_mem_drop hv'))
    rw [show Nat.min (n - i) (n - i) = n - i from Nat.min_self _] at this
    exact this
  obtain ⟨c2, hc2⟩ : ∃ c2, c2 = c1.take (i + 1) ++ xs.drop (i) ++ c1.drop (i + 1 + (xs.drop (i)).length) := ⟨_, rfl⟩
  rw [← hc2] at hcpB
  simp only [← hc2] at hl2 hfin
  have HEND : Hid (n + 1 ≤ G ∧ G ≤ maxLen ∧ ∃ cur' : Array Value, (W2.drew.setRow w.heap.size c2.toArray).heap[w.heap.size]? = some (.cells cur' 3 (0, 0)) ∧ cur'.size = G * 1 ∧ cur'.toList.take ((n + 1)) = xs.take (i) ++ vs ++ xs.drop (i) ∧ Below w.heap.size w (W2.drew.setRow w.heap.size c2.toArray)) :=
    ⟨hGn, hGm, c2.toArray, row_same W2.drew _ c1.toArray _ hN2, by simp [hl2, hRl], hfin, below_setRow hbW2.drew (Nat.le_refl _) _⟩
  have hG63 : G ≤ 9223372036854775807 := by unfold maxLen at hGm; omega
  have hGi : ¬ (G = i) := by omega
  have hGim : ¬ (G = i + 1) := by omega
  have hni : ¬ (n = i) := by omega
  clear hG hl1 hl2 hfin hc1 hc2 hN1 hN2 hbW hbW2 hW1 hW2 hRl hRt hxs hdl hg hv hx hxl hcs hvl h1x h1v hadd0 hGm
  have hw1 : IntKind.i64.wrap ((i : Int) + 1) = (i : Int) + 1 := by rw [IntKind.wrap_i64]; omega
  have htn : ((i : Int) + 1).toNat = i + 1 := by omega
  have hq1 : (0 : Int) ≤ (i : Int) + 1 := by omega
  have hq2 : i ≤ n := by omega
  have hq3 : (i : Int) ≤ (n : Int) + 1 := by omega
  have hq4 : (i : Int) + 1 ≤ (n : Int) + 1 := by omega
  have hq5 : n + 1 - (i + 1) = n - i := by omega
  have hq6 : (i : Int) ≤ (n : Int) := by omega
  go_enter Tryz.func84, Tryz.ntmps84
  go_wp2_with (first | (at_builtin; refine wpList_appendK _ rfl _ _ 23 3 rfl _ _ rfl rfl (hap _) ?_) | (at_builtin; refine wpList_copyK _ rfl _ _ 23 23 rfl _ _ rfl rfl (hcpA _ _) ?_))
  go_region_law (refine step_copyK rfl _ _ 23 23 rfl _ _ (by simp [Act.eval, Act.put]) (by simp [Act.eval, Act.put]) (hcpB _ _ _) ?_)
  go_wp2
  go_ret
  exact ⟨G, rfl, HEND.out⟩
set_option maxHeartbeats 1600000 in
set_option maxRecDepth 100000 in
theorem insEnd_int (base n vb : Nat) (v : Value) (xs vs : List Value) (w : World) (hn : n ≤ 1000) (hown : w.ownsRow base 3 1 v n xs) (hbase : base ≤ w.heap.size)
    (hv : w.heap[vb]? = some (.cells vs.toArray 3 (0, 0))) (hvl : vs.length = 1) (h1v : ∀ v ∈ vs, v.oneCell' = true) :
    Calls Tryz.prog 84 #[v, .int .i64 n, .slice (some ⟨vb, 0, none⟩) 1 1] w fun e w' => ∃ v', e = .returned v' ∧ w'.ownsRow base 3 1 v' (n + 1) (xs ++ vs) ∧ w.grownBy w' v.ownBlock := by
  obtain ⟨i0, hi0, hz0, hz1, hz2⟩ := info_parts infoE_int
  have hnews : ∀ j u, vs[j]? = some u → w.cell? (Addr.add ⟨vb, 0, none⟩ j) = some u := fun j u hj => by
    rw [show Addr.add ⟨vb, 0, none⟩ j = ⟨vb, j, none⟩ from by unfold Addr.add; by_cases e : j = 0 <;> simp [e]]
    exact cl_row hv (by simpa using hj)
  have HOWN : Hid (_ : Prop) := hown
  rcases hown.2 with ⟨rfl, rfl⟩ | ⟨g, cap, cur, rfl, hbg, hgg, hnc, hcm, hcsz, htk⟩
  · go_enter Tryz.func84, Tryz.ntmps84
    go_wp2_with (at_builtin; refine wpList_append_own _ rfl _ _ 23 rfl base 3 i0 (.int .i64 0) 1 8 Tryz.underlying23 hi0 hz0 hz1 hz2 rfl (by decide) _ _ _ rfl HOWN.out ⟨vb, 0, none⟩ 1 1 vs rfl (by omega) hnews h1v (by unfold maxLen; omega) (by omega) hbase ?_; intro v3 w3 hown3 hgrow3 _)
    go_ret
    exact ⟨_, rfl, hown3, hgrow3⟩
  · have hcm' : cap ≤ 9223372036854775807 := by unfold maxLen at hcm; omega
    clear hgg hcsz htk hcm hown
    by_cases hnc2 : cap = n
    · subst hnc2
      go_enter Tryz.func84, Tryz.ntmps84
      go_wp2_with (at_builtin; refine wpList_append_own _ rfl _ _ 23 rfl base 3 i0 (.int .i64 0) 1 8 Tryz.underlying23 hi0 hz0 hz1 hz2 rfl (by decide) _ _ _ rfl HOWN.out ⟨vb, 0, none⟩ 1 1 vs rfl (by omega) hnews h1v (by unfold maxLen; omega) (by omega) hbase ?_; intro v3 w3 hown3 hgrow3 _)
      go_ret
      exact ⟨_, rfl, hown3, hgrow3⟩
    · go_enter Tryz.func84, Tryz.ntmps84
      go_wp2_with (at_builtin; refine wpList_append_own _ rfl _ _ 23 rfl base 3 i0 (.int .i64 0) 1 8 Tryz.underlying23 hi0 hz0 hz1 hz2 rfl (by decide) _ _ _ rfl HOWN.out ⟨vb, 0, none⟩ 1 1 vs rfl (by omega) hnews h1v (by unfold maxLen; omega) (by omega) hbase ?_; intro v3 w3 hown3 hgrow3 _)
      go_ret
      exact ⟨_, rfl, hown3, hgrow3⟩
/-- An entry is put at its place into a row of its own. -/
theorem ins_int (base n i vb : Nat) (v : Value) (xs vs : List Value) (w : World) (hi : i ≤ n) (hn : n ≤ 1000) (hown : w.ownsRow base 3 1 v n xs) (hbase : base ≤ w.heap.size)
    (hv : w.heap[vb]? = some (.cells vs.toArray 3 (0, 0))) (hvb : v.ownBlock ≠ some vb) (hvl : vs.length = 1) (h1x : ∀ v ∈ xs, v.oneCell' = true) (h1v : ∀ v ∈ vs, v.oneCell' = true) :
    Calls Tryz.prog 84 #[v, .int .i64 i, .slice (some ⟨vb, 0, none⟩) 1 1] w fun e w' => ∃ v', e = .returned v' ∧ w'.ownsRow base 3 1 v' (n + 1) (xs.take (i) ++ vs ++ xs.drop (i)) ∧ w.grownBy w' v.ownBlock := by
  have hxl : xs.length = n * 1 := hown.1
  by_cases hin : i = n
  · subst hin
    rw [List.take_of_length_le (by omega), List.drop_eq_nil_of_le (by omega), List.append_nil]
    exact insEnd_int base i vb v xs vs w hn hown hbase hv hvl h1v
  · obtain ⟨_, ⟨rfl, rfl⟩ | ⟨g, cap, cur, rfl, hbg, hgg, hnc, hcm, hcsz, htk⟩⟩ := hown
    · omega
    · have hne : vb ≠ g := fun e => hvb (by rw [e]; rfl)
      have hcm' : cap ≤ 9223372036854775807 := by unfold maxLen at hcm; omega
      have hlen : (xs.take (i) ++ vs ++ xs.drop (i)).length = (n + 1) * 1 := by simp only [List.length_append, List.length_take, List.length_drop, hvl]; omega
      by_cases hr : n + 1 ≤ cap
      · refine (insRoom_int g n cap i vb cur.toList xs vs w (by omega) hr hcm' hn hne (by simpa using hgg) (by simpa using hcsz) (by simpa using htk) (by omega) hv hvl h1x h1v).mono ?_
        rintro e w' ⟨rfl, cur', h1, h2, h3, h4⟩
        exact ⟨_, rfl, ⟨hlen, Or.inr ⟨g, cap, cur', rfl, hbg, h1, hr, hcm, h2, by simpa using h3⟩⟩, grown_of_beside h4⟩
      · obtain rfl : cap = n := by omega
        refine (insGrow_int g cap i vb cur.toList xs vs w (by omega) hn hne (by simpa using hgg) (by simpa using hcsz) (by simpa using htk) (by omega) hv hvl h1x h1v).mono ?_
        rintro e w' ⟨c, rfl, hc1, hc2, cur', h1, h2, h3, h4⟩
        exact ⟨_, rfl, ⟨hlen, Or.inr ⟨w.heap.size, c, cur', rfl, hbase, h1, hc1, hc2, h2, by simpa using h3⟩⟩, grown_of_below h4⟩
end Go.Proofs.YtlhnfejgkhilkaaGreatDoor

set_option linter.unusedVariables false
set_option linter.unusedSimpArgs false
namespace Go.Proofs.YtlhnfejgkhilkaaGreatDoor
open Go.RowKit
theorem infoE_kept : (Tryz.prog.info? 40).map (fun i => (i.zero, i.size, i.bytes)) = some (some (.agg #[.int .i64 0, .bool false]), 2, 16) := by kernel_rfl
set_option maxHeartbeats 6400000 in
set_option maxRecDepth 100000 in
theorem insGrow_kept (g n i vb : Nat) (cur xs vs : List Value) (w : World) (hi : i < n) (hn : n ≤ 1000) (hvb : vb ≠ g)
    (hg : w.heap[g]? = some (.cells cur.toArray 40 (0, 0))) (hcs : cur.length = n * 2) (hx : cur.take (n * 2) = xs) (hxl : xs.length = n * 2)
    (hv : w.heap[vb]? = some (.cells vs.toArray 40 (0, 0))) (hvl : vs.length = 2) (h1x : ∀ v ∈ xs, v.oneCell' = true) (h1v : ∀ v ∈ vs, v.oneCell' = true) :
    Calls Tryz.prog 87 #[.slice (some ⟨g, 0, none⟩) n n, .int .i64 i, .slice (some ⟨vb, 0, none⟩) 1 1] w fun e w' =>
      ∃ c, e = .returned (.slice (some ⟨w.heap.size, 0, none⟩) (n + 1) c) ∧ n + 1 ≤ c ∧ c ≤ maxLen ∧ ∃ cur' : Array Value, w'.heap[w.heap.size]? = some (.cells cur' 40 (0, 0)) ∧ cur'.size = c * 2 ∧ cur'.toList.take ((n + 1) * 2) = xs.take (i * 2) ++ vs ++ xs.drop (i * 2) ∧ Below w.heap.size w w' := by
  obtain ⟨i0, hi0, hz0, hz1, hz2⟩ := info_parts infoE_kept
  have hzz : ¬ ((i : Int) = (n : Int)) := by omega
  have hdl : (xs.drop (i * 2)).length = (n - i) * 2 := by rw [List.length_drop, hxl]; omega
  have hgw : g < w.heap.size := lt_of_heap hg
  have hvw : vb < w.heap.size := lt_of_heap hv
  have hadd0 : ∀ (b o j : Nat), Addr.add ⟨b, o, none⟩ j = ⟨b, o + j, none⟩ := fun b o j => by unfold Addr.add; by_cases e : j = 0 <;> simp [e]
  have hxs : ∀ j v, xs[j]? = some v → w.cell? ⟨g, j, none⟩ = some v := fun j v hj => cl_row hg (by simpa using take_of_take hx (by omega) _ v hj)
  have hold : (Builtin.firstCells i0.size i (.slice (some ⟨g, 0, none⟩) i n)).run Tryz.prog w.drew = .ok (xs.take (i * 2)).toArray w.drew := by
    rw [hz1]
    refine run_firstCells_some w.drew 2 i ⟨g, 0, none⟩ i n (xs.take (i * 2)) (by rw [List.length_take]; omega) (fun j v hj => ?_)
    rw [hadd0, Nat.zero_add]
    rw [List.getElem?_take] at hj
    split at hj
    · exact hxs j v hj
    · cases hj
  have hap : ∀ ty, (Builtin.append_ #[25, 3] ty #[.slice (some ⟨g, 0, none⟩) i n, .int .i64 ((n : Int) + 1 - (i : Int))]).run Tryz.prog w =
      .ok (.slice (some ⟨w.heap.size, 0, none⟩) (n + 1) (grownCap w (n + 1) n 40)) (w.drew.alloc (.cells ((xs.take (i * 2)).toArray ++ Builtin.zeroCells (.agg #[.int .i64 0, .bool false] : Value).cells (n + 1 - i) ++ Builtin.zeroCells (.agg #[.int .i64 0, .bool false] : Value).cells (grownCap w (n + 1) n 40 - (n + 1))) 40)) := fun ty => by
    have h := Lib.run_append_grow_zeros w 25 3 ty 40 i0 _ .i64 .i64 Tryz.underlying25 Tryz.underlying3 hi0 hz0 (some ⟨g, 0, none⟩) i n (xs.take (i * 2)) hold (n + 1 - i) (by omega) (by omega) (by omega) (by omega) (by rw [hz2]; omega) (by rw [hz2, show i + (n + 1 - i) = n + 1 from by omega]; exact growslice_fits (by omega) (by omega))
    rw [show i + (n + 1 - i) = n + 1 from by omega] at h
    rw [show ((n : Int) + 1 - (i : Int)) = ((n + 1 - i : Nat) : Int) from by omega]
    exact h
  obtain ⟨G, hG⟩ : ∃ G, G = grownCap w (n + 1) n 40 := ⟨_, rfl⟩
  rw [← hG] at hap
  have hGn : n + 1 ≤ G := by rw [hG]; exact grownCap_ge w _ _ _
  have hGm : G ≤ maxLen := by rw [hG]; exact grownCap_le_maxLen w _ _ _ (by unfold maxLen; omega)
  obtain ⟨ROW, hROW⟩ : ∃ ROW : List Value, ROW.toArray = (xs.take (i * 2)).toArray ++ Builtin.zeroCells (.agg #[.int .i64 0, .bool false] : Value).cells (n + 1 - i) ++ Builtin.zeroCells (.agg #[.int .i64 0, .bool false] : Value).cells (G - (n + 1)) := ⟨_, Array.toArray_toList⟩
  have hRl : ROW.length = G * 2 := by
    have h := congrArg Array.size hROW
    rw [List.size_toArray, Array.size_append, Array.size_append, size_zeroCells, size_zeroCells, List.size_toArray, List.length_take, show (.agg #[.int .i64 0, .bool false] : Value).cells.size = 2 from rfl] at h
    rw [h]
    omega
  have hRt : ROW.take (i * 2) = xs.take (i * 2) := by
    have h := congrArg Array.toList hROW
    simp only [Array.toList_append] at h
    rw [show ROW = ROW.toArray.toList from rfl, h, List.append_assoc, List.take_append_of_le_length (by simp; omega)]
    show List.take _ (List.take _ xs) = _
    rw [List.take_take, Nat.min_self]
  rw [← hROW] at hap
  clear hROW hold
  obtain ⟨W1, hW1⟩ : ∃ W1, W1 = w.drew.alloc (.cells ROW.toArray 40) := ⟨_, rfl⟩
  rw [← hW1] at hap
  have hbW : Below w.heap.size w W1 := by rw [hW1]; exact (Below.refl _ _).drew.alloc (Nat.le_refl _) _
  have hN1 : W1.heap[w.heap.size]? = some (.cells ROW.toArray 40 (0, 0)) := by rw [hW1]; exact hp_new rfl
  obtain ⟨hl1, hl2, hfin⟩ := row_grow ROW xs vs n i 2 hi (by omega) (by simpa using hRt) (by omega) hvl
  have hcpA : ∀ ty dc, (Builtin.copy_ #[25, 25] ty #[.slice (some ⟨w.heap.size, i * 2, none⟩) (n + 1 - i) dc, .slice (some ⟨vb, 0, none⟩) 1 1]).run Tryz.prog W1 = .ok (goInt 1) (W1.setRow w.heap.size (ROW.take (i * 2) ++ vs ++ ROW.drop (i * 2 + vs.length)).toArray) := fun ty dc => by
    have := run_copyK (P := Tryz.prog) W1 25 25 ty 40 2 w.heap.size (i * 2) (n + 1 - i) dc ⟨vb, 0, none⟩ 1 1 ROW.toArray 40 vs Tryz.underlying25 sizeE_kept hN1 (by rw [hvl, show Nat.min 1 (n + 1 - i) = 1 from by simp only [Nat.min_def]; split <;> omega])
      (fun j v hj => by rw [hadd0, Nat.zero_add]; exact cl_row ((hbW.block _ hvw).trans hv) (by simpa using hj)) (by simp; omega) h1v
    rw [show Nat.min 1 (n + 1 - i) = 1 from by simp only [Nat.min_def]; split <;> omega] at this
    exact this
  obtain ⟨c1, hc1⟩ : ∃ c1, c1 = ROW.take (i * 2) ++ vs ++ ROW.drop (i * 2 + vs.length) := ⟨_, rfl⟩
  rw [← hc1] at hcpA
  simp only [← hc1] at hl1 hl2 hfin
  obtain ⟨W2, hW2⟩ : ∃ W2, W2 = W1.setRow w.heap.size c1.toArray := ⟨_, rfl⟩
  rw [← hW2] at hcpA
  have hN2 : W2.heap[w.heap.size]? = some (.cells c1.toArray 40 (0, 0)) := by rw [hW2]; exact row_same W1 _ _ _ hN1
  have hbW2 : Below w.heap.size w W2 := by rw [hW2]; exact below_setRow hbW (Nat.le_refl _) _
  have hcpB : ∀ ty dc sc, (Builtin.copy_ #[25, 25] ty #[.slice (some ⟨w.heap.size, (i + 1) * 2, none⟩) (n - i) dc, .slice (some ⟨g, i * 2, none⟩) (n - i) sc]).run Tryz.prog W2.drew = .ok (goInt ((n - i : Nat) : Int)) (W2.drew.setRow w.heap.size (c1.take ((i + 1) * 2) ++ xs.drop (i * 2) ++ c1.drop ((i + 1) * 2 + (xs.drop (i * 2)).length)).toArray) := fun ty dc sc => by
    have := run_copyK (P := Tryz.prog) W2.drew 25 25 ty 40 2 w.heap.size ((i + 1) * 2) (n - i) dc ⟨g, i * 2, none⟩ (n - i) sc c1.toArray 40 (xs.drop (i * 2)) Tryz.underlying25 sizeE_kept hN2 (by rw [hdl]; congr 1; simp only [Nat.min_def]; split <;> omega)
      (fun j v hj => by
        rw [hadd0]
        rw [List.getElem?_drop] at hj
        exact (hbW2.cell (p := ⟨g, i * 2 + j, none⟩) hgw).trans (hxs _ v hj))
      (by rw [hdl]; simp; omega) (fun v hv' => h1x v (List.mem_of_mem_drop hv'))
    rw [show Nat.min (n - i) (n - i) = n - i from Nat.min_self _] at this
    exact this
  obtain ⟨c2, hc2⟩ : ∃ c2, c2 = c1.take ((i + 1) * 2) ++ xs.drop (i * 2) ++ c1.drop ((i + 1) * 2 + (xs.drop (i * 2)).length) := ⟨_, rfl⟩
  rw [← hc2] at hcpB
  simp only [← hc2] at hl2 hfin
  have HEND : Hid (n + 1 ≤ G ∧ G ≤ maxLen ∧ ∃ cur' : Array Value, (W2.drew.setRow w.heap.size c2.toArray).heap[w.heap.size]? = some (.cells cur' 40 (0, 0)) ∧ cur'.size = G * 2 ∧ cur'.toList.take ((n + 1) * 2) = xs.take (i * 2) ++ vs ++ xs.drop (i * 2) ∧ Below w.heap.size w (W2.drew.setRow w.heap.size c2.toArray)) :=
    ⟨hGn, hGm, c2.toArray, row_same W2.drew _ c1.toArray _ hN2, by simp [hl2, hRl], hfin, below_setRow hbW2.drew (Nat.le_refl _) _⟩
  have hG63 : G ≤ 9223372036854775807 := by unfold maxLen at hGm; omega
  have hGi : ¬ (G = i) := by omega
  have hGim : ¬ (G = i + 1) := by omega
  have hni : ¬ (n = i) := by omega
  clear hG hl1 hl2 hfin hc1 hc2 hN1 hN2 hbW hbW2 hW1 hW2 hRl hRt hxs hdl hg hv hx hxl hcs hvl h1x h1v hadd0 hGm
  have hw1 : IntKind.i64.wrap ((i : Int) + 1) = (i : Int) + 1 := by rw [IntKind.wrap_i64]; omega
  have htn : ((i : Int) + 1).toNat = i + 1 := by omega
  have hq1 : (0 : Int) ≤ (i : Int) + 1 := by omega
  have hq2 : i ≤ n := by omega
  have hq3 : (i : Int) ≤ (n : Int) + 1 := by omega
  have hq4 : (i : Int) + 1 ≤ (n : Int) + 1 := by omega
  have hq5 : n + 1 - (i + 1) = n - i := by omega
  have hq6 : (i : Int) ≤ (n : Int) := by omega
  go_enter Tryz.func87, Tryz.ntmps87
  go_wp2_with (first | (at_builtin; refine wpList_appendK _ rfl _ _ 25 3 rfl _ _ rfl rfl (hap _) ?_) | (at_builtin; refine wpList_copyK _ rfl _ _ 25 25 rfl _ _ rfl rfl (hcpA _ _) ?_))
  go_region_law (refine step_copyK rfl _ _ 25 25 rfl _ _ (by simp [Act.eval, Act.put]) (by simp [Act.eval, Act.put]) (hcpB _ _ _) ?_)
  go_wp2
  go_ret
  exact ⟨G, rfl, HEND.out⟩
set_option maxHeartbeats 1600000 in
set_option maxRecDepth 100000 in
theorem insEnd_kept (base n vb : Nat) (v : Value) (xs vs : List Value) (w : World) (hn : n ≤ 1000) (hown : w.ownsRow base 40 2 v n xs) (hbase : base ≤ w.heap.size)
    (hv : w.heap[vb]? = some (.cells vs.toArray 40 (0, 0))) (hvl : vs.length = 2) (h1v : ∀ v ∈ vs, v.oneCell' = true) :
    Calls Tryz.prog 87 #[v, .int .i64 n, .slice (some ⟨vb, 0, none⟩) 1 1] w fun e w' => ∃ v', e = .returned v' ∧ w'.ownsRow base 40 2 v' (n + 1) (xs ++ vs) ∧ w.grownBy w' v.ownBlock := by
  obtain ⟨i0, hi0, hz0, hz1, hz2⟩ := info_parts infoE_kept
  have hnews : ∀ j u, vs[j]? = some u → w.cell? (Addr.add ⟨vb, 0, none⟩ j) = some u := fun j u hj => by
    rw [show Addr.add ⟨vb, 0, none⟩ j = ⟨vb, j, none⟩ from by unfold Addr.add; by_cases e : j = 0 <;> simp [e]]
    exact cl_row hv (by simpa using hj)
  have HOWN : Hid (_ : Prop) := hown
  rcases hown.2 with ⟨rfl, rfl⟩ | ⟨g, cap, cur, rfl, hbg, hgg, hnc, hcm, hcsz, htk⟩
  · go_enter Tryz.func87, Tryz.ntmps87
    go_wp2_with (at_builtin; refine wpList_append_own _ rfl _ _ 25 rfl base 40 i0 (.agg #[.int .i64 0, .bool false]) 2 16 Tryz.underlying25 hi0 hz0 hz1 hz2 rfl (by decide) _ _ _ rfl HOWN.out ⟨vb, 0, none⟩ 1 1 vs rfl (by omega) hnews h1v (by unfold maxLen; omega) (by omega) hbase ?_; intro v3 w3 hown3 hgrow3 _)
    go_ret
    exact ⟨_, rfl, hown3, hgrow3⟩
  · have hcm' : cap ≤ 9223372036854775807 := by unfold maxLen at hcm; omega
    clear hgg hcsz htk hcm hown
    by_cases hnc2 : cap = n
    · subst hnc2
      go_enter Tryz.func87, Tryz.ntmps87
      go_wp2_with (at_builtin; refine wpList_append_own _ rfl _ _ 25 rfl base 40 i0 (.agg #[.int .i64 0, .bool false]) 2 16 Tryz.underlying25 hi0 hz0 hz1 hz2 rfl (by decide) _ _ _ rfl HOWN.out ⟨vb, 0, none⟩ 1 1 vs rfl (by omega) hnews h1v (by unfold maxLen; omega) (by omega) hbase ?_; intro v3 w3 hown3 hgrow3 _)
      go_ret
      exact ⟨_, rfl, hown3, hgrow3⟩
    · go_enter Tryz.func87, Tryz.ntmps87
      go_wp2_with (at_builtin; refine wpList_append_own _ rfl _ _ 25 rfl base 40 i0 (.agg #[.int .i64 0, .bool false]) 2 16 Tryz.underlying25 hi0 hz0 hz1 hz2 rfl (by decide) _ _ _ rfl HOWN.out ⟨vb, 0, none⟩ 1 1 vs rfl (by omega) hnews h1v (by unfold maxLen; omega) (by omega) hbase ?_; intro v3 w3 hown3 hgrow3 _)
      go_ret
      exact ⟨_, rfl, hown3, hgrow3⟩
/-- An entry is put at its place into a row of its own. -/
theorem ins_kept (base n i vb : Nat) (v : Value) (xs vs : List Value) (w : World) (hi : i ≤ n) (hn : n ≤ 1000) (hown : w.ownsRow base 40 2 v n xs) (hbase : base ≤ w.heap.size)
    (hv : w.heap[vb]? = some (.cells vs.toArray 40 (0, 0))) (hvb : v.ownBlock ≠ some vb) (hvl : vs.length = 2) (h1x : ∀ v ∈ xs, v.oneCell' = true) (h1v : ∀ v ∈ vs, v.oneCell' = true) :
    Calls Tryz.prog 87 #[v, .int .i64 i, .slice (some ⟨vb, 0, none⟩) 1 1] w fun e w' => ∃ v', e = .returned v' ∧ w'.ownsRow base 40 2 v' (n + 1) (xs.take (i * 2) ++ vs ++ xs.drop (i * 2)) ∧ w.grownBy w' v.ownBlock := by
  have hxl : xs.length = n * 2 := hown.1
  by_cases hin : i = n
  · subst hin
    rw [List.take_of_length_le (by omega), List.drop_eq_nil_of_le (by omega), List.append_nil]
    exact insEnd_kept base i vb v xs vs w hn hown hbase hv hvl h1v
  · obtain ⟨_, ⟨rfl, rfl⟩ | ⟨g, cap, cur, rfl, hbg, hgg, hnc, hcm, hcsz, htk⟩⟩ := hown
    · omega
    · have hne : vb ≠ g := fun e => hvb (by rw [e]; rfl)
      have hcm' : cap ≤ 9223372036854775807 := by unfold maxLen at hcm; omega
      have hlen : (xs.take (i * 2) ++ vs ++ xs.drop (i * 2)).length = (n + 1) * 2 := by simp only [List.length_append, List.length_take, List.length_drop, hvl]; omega
      by_cases hr : n + 1 ≤ cap
      · refine (insRoom_kept g n cap i vb cur.toList xs vs w (by omega) hr hcm' hn hne (by simpa using hgg) (by simpa using hcsz) (by simpa using htk) (by omega) hv hvl h1x h1v).mono ?_
        rintro e w' ⟨rfl, cur', h1, h2, h3, h4⟩
        exact ⟨_, rfl, ⟨hlen, Or.inr ⟨g, cap, cur', rfl, hbg, h1, hr, hcm, h2, by simpa using h3⟩⟩, grown_of_beside h4⟩
      · obtain rfl : cap = n := by omega
        refine (insGrow_kept g cap i vb cur.toList xs vs w (by omega) hn hne (by simpa using hgg) (by simpa using hcsz) (by simpa using htk) (by omega) hv hvl h1x h1v).mono ?_
        rintro e w' ⟨c, rfl, hc1, hc2, cur', h1, h2, h3, h4⟩
        exact ⟨_, rfl, ⟨hlen, Or.inr ⟨w.heap.size, c, cur', rfl, hbase, h1, hc1, hc2, h2, by simpa using h3⟩⟩, grown_of_below h4⟩
end Go.Proofs.YtlhnfejgkhilkaaGreatDoor

set_option linter.unusedVariables false
set_option linter.unusedSimpArgs false
namespace Go.Proofs.YtlhnfejgkhilkaaGreatDoor
open Go.RowKit
theorem infoE_add : (Tryz.prog.info? 52).map (fun i => (i.zero, i.size, i.bytes)) = some (some (.agg #[.int .i64 0, .bool false, .bool false]), 3, 16) := by kernel_rfl
set_option maxHeartbeats 6400000 in
set_option maxRecDepth 100000 in
theorem insGrow_add (g n i vb : Nat) (cur xs vs : List Value) (w : World) (hi : i < n) (hn : n ≤ 1000) (hvb : vb ≠ g)
    (hg : w.heap[g]? = some (.cells cur.toArray 52 (0, 0))) (hcs : cur.length = n * 3) (hx : cur.take (n * 3) = xs) (hxl : xs.length = n * 3)
    (hv : w.heap[vb]? = some (.cells vs.toArray 52 (0, 0))) (hvl : vs.length = 3) (h1x : ∀ v ∈ xs, v.oneCell' = true) (h1v : ∀ v ∈ vs, v.oneCell' = true) :
    Calls Tryz.prog 90 #[.slice (some ⟨g, 0, none⟩) n n, .int .i64 i, .slice (some ⟨vb, 0, none⟩) 1 1] w fun e w' =>
      ∃ c, e = .returned (.slice (some ⟨w.heap.size, 0, none⟩) (n + 1) c) ∧ n + 1 ≤ c ∧ c ≤ maxLen ∧ ∃ cur' : Array Value, w'.heap[w.heap.size]? = some (.cells cur' 52 (0, 0)) ∧ cur'.size = c * 3 ∧ cur'.toList.take ((n + 1) * 3) = xs.take (i * 3) ++ vs ++ xs.drop (i * 3) ∧ Below w.heap.size w w' := by
  obtain ⟨i0, hi0, hz0, hz1, hz2⟩ := info_parts infoE_add
  have hzz : ¬ ((i : Int) = (n : Int)) := by omega
  have hdl : (xs.drop (i * 3)).length = (n - i) * 3 := by rw [List.length_drop, hxl]; omega
  have hgw : g < w.heap.size := lt_of_heap hg
  have hvw : vb < w.heap.size := lt_of_heap hv
  have hadd0 : ∀ (b o j : Nat), Addr.add ⟨b, o, none⟩ j = ⟨b, o + j, none⟩ := fun b o j => by unfold Addr.add; by_cases e : j = 0 <;> simp [e]
  have hxs : ∀ j v, xs[j]? = some v → w.cell? ⟨g, j, none⟩ = some v := fun j v hj => cl_row hg (by simpa using take_of_take hx (by omega) _ v hj)
  have hold : (Builtin.firstCells i0.size i (.slice (some ⟨g, 0, none⟩) i n)).run Tryz.prog w.drew = .ok (xs.take (i * 3)).toArray w.drew := by
    rw [hz1]
    refine run_firstCells_some w.drew 3 i ⟨g, 0, none⟩ i n (xs.take (i * 3)) (by rw [List.length_take]; omega) (fun j v hj => ?_)
    rw [hadd0, Nat.zero_add]
    rw [List.getElem?_take] at hj
    split at hj
    · exact hxs j v hj
    · cases hj
  have hap : ∀ ty, (Builtin.append_ #[24, 3] ty #[.slice (some ⟨g, 0, none⟩) i n, .int .i64 ((n : Int) + 1 - (i : Int))]).run Tryz.prog w =
      .ok (.slice (some ⟨w.heap.size, 0, none⟩) (n + 1) (grownCap w (n + 1) n 52)) (w.drew.alloc (.cells ((xs.take (i * 3)).toArray ++ Builtin.zeroCells (.agg #[.int .i64 0, .bool false, .bool false] : Value).cells (n + 1 - i) ++ Builtin.zeroCells (.agg #[.int .i64 0, .bool false, .bool false] : Value).cells (grownCap w (n + 1) n 52 - (n + 1))) 52)) := fun ty => by
    have h := Lib.run_append_grow_zeros w 24 3 ty 52 i0 _ .i64 .i64 Tryz.underlying24 Tryz.underlying3 hi0 hz0 (some ⟨g, 0, none⟩) i n (xs.take (i * 3)) hold (n + 1 - i) (by omega) (by omega) (by omega) (by omega) (by rw [hz2]; omega) (by rw [hz2, show i + (n + 1 - i) = n + 1 from by omega]; exact growslice_fits (by omega) (by omega))
    rw [show i + (n + 1 - i) = n + 1 from by omega] at h
    rw [show ((n : Int) + 1 - (i : Int)) = ((n + 1 - i : Nat) : Int) from by omega]
    exact h
  obtain ⟨G, hG⟩ : ∃ G, G = grownCap w (n + 1) n 52 := ⟨_, rfl⟩
  rw [← hG] at hap
  have hGn : n + 1 ≤ G := by rw [hG]; exact grownCap_ge w _ _ _
  have hGm : G ≤ maxLen := by rw [hG]; exact grownCap_le_maxLen w _ _ _ (by unfold maxLen; omega)
  obtain ⟨ROW, hROW⟩ : ∃ ROW : List Value, ROW.toArray = (xs.take (i * 3)).toArray ++ Builtin.zeroCells (.agg #[.int .i64 0, .bool false, .bool false] : Value).cells (n + 1 - i) ++ Builtin.zeroCells (.agg #[.int .i64 0, .bool false, .bool false] : Value).cells (G - (n + 1)) := ⟨_, Array.toArray_toList⟩
  have hRl : ROW.length = G * 3 := by
    have h := congrArg Array.size hROW
    rw [List.size_toArray, Array.size_append, Array.size_append, size_zeroCells, size_zeroCells, List.size_toArray, List.length_take, show (.agg #[.int .i64 0, .bool false, .bool false] : Value).cells.size = 3 from rfl] at h
    rw [h]
    omega
  have hRt : ROW.take (i * 3) = xs.take (i * 3) := by
    have h := congrArg Array.toList hROW
    simp only [Array.toList_append] at h
    rw [show ROW = ROW.toArray.toList from rfl, h, List.append_assoc, List.take_append_of_le_length (by simp; omega)]
    show List.take _ (List.take _ xs) = _
    rw [List.take_take, Nat.min_self]
  rw [← hROW] at hap
  clear hROW hold
  obtain ⟨W1, hW1⟩ : ∃ W1, W1 = w.drew.alloc (.cells ROW.toArray 52) := ⟨_, rfl⟩
  rw [← hW1] at hap
  have hbW : Below w.heap.size w W1 := by rw [hW1]; exact (Below.refl _ _).drew.alloc (Nat.le_refl _) _
  have hN1 : W1.heap[w.heap.size]? = some (.cells ROW.toArray 52 (0, 0)) := by rw [hW1]; exact hp_new rfl
  obtain ⟨hl1, hl2, hfin⟩ := row_grow ROW xs vs n i 3 hi (by omega) (by simpa using hRt) (by omega) hvl
  have hcpA : ∀ ty dc, (Builtin.copy_ #[24, 24] ty #[.slice (some ⟨w.heap.size, i * 3, none⟩) (n + 1 - i) dc, .slice (some ⟨vb, 0, none⟩) 1 1]).run Tryz.prog W1 = .ok (goInt 1) (W1.setRow w.heap.size (ROW.take (i * 3) ++ vs ++ ROW.drop (i * 3 + vs.length)).toArray) := fun ty dc => by
    have := run_copyK (P := Tryz.prog) W1 24 24 ty 52 3 w.heap.size (i * 3) (n + 1 - i) dc ⟨vb, 0, none⟩ 1 1 ROW.toArray 52 vs Tryz.underlying24 sizeE_add hN1 (by rw [hvl, show Nat.min 1 (n + 1 - i) = 1 from by simp only [Nat.min_def]; split <;> omega])
      (fun j v hj => by rw [hadd0, Nat.zero_add]; exact cl_row ((hbW.block _ hvw).trans hv) (by simpa using hj)) (by simp; omega) h1v
    rw [show Nat.min 1 (n + 1 - i) = 1 from by simp only [Nat.min_def]; split <;> omega] at this
    exact this
  obtain ⟨c1, hc1⟩ : ∃ c1, c1 = ROW.take (i * 3) ++ vs ++ ROW.drop (i * 3 + vs.length) := ⟨_, rfl⟩
  rw [← hc1] at hcpA
  simp only [← hc1] at hl1 hl2 hfin
  obtain ⟨W2, hW2⟩ : ∃ W2, W2 = W1.setRow w.heap.size c1.toArray := ⟨_, rfl⟩
  rw [← hW2] at hcpA
  have hN2 : W2.heap[w.heap.size]? = some (.cells c1.toArray 52 (0, 0)) := by rw [hW2]; exact row_same W1 _ _ _ hN1
  have hbW2 : Below w.heap.size w W2 := by rw [hW2]; exact below_setRow hbW (Nat.le_refl _) _
  have hcpB : ∀ ty dc sc, (Builtin.copy_ #[24, 24] ty #[.slice (some ⟨w.heap.size, (i + 1) * 3, none⟩) (n - i) dc, .slice (some ⟨g, i * 3, none⟩) (n - i) sc]).run Tryz.prog W2.drew = .ok (goInt ((n - i : Nat) : Int)) (W2.drew.setRow w.heap.size (c1.take ((i + 1) * 3) ++ xs.drop (i * 3) ++ c1.drop ((i + 1) * 3 + (xs.drop (i * 3)).length)).toArray) := fun ty dc sc => by
    have := run_copyK (P := Tryz.prog) W2.drew 24 24 ty 52 3 w.heap.size ((i + 1) * 3) (n - i) dc ⟨g, i * 3, none⟩ (n - i) sc c1.toArray 52 (xs.drop (i * 3)) Tryz.underlying24 sizeE_add hN2 (by rw [hdl]; congr 1; simp only [Nat.min_def]; split <;> omega)
      (fun j v hj => by
        rw [hadd0]
        rw [List.getElem?_drop] at hj
        exact (hbW2.cell (p := ⟨g, i * 3 + j, none⟩) hgw).trans (hxs _ v hj))
      (by rw [hdl]; simp; omega) (fun v hv' => h1x v (List.mem_of_mem_drop hv'))
    rw [show Nat.min (n - i) (n - i) = n - i from Nat.min_self _] at this
    exact this
  obtain ⟨c2, hc2⟩ : ∃ c2, c2 = c1.take ((i + 1) * 3) ++ xs.drop (i * 3) ++ c1.drop ((i + 1) * 3 + (xs.drop (i * 3)).length) := ⟨_, rfl⟩
  rw [← hc2] at hcpB
  simp only [← hc2] at hl2 hfin
  have HEND : Hid (n + 1 ≤ G ∧ G ≤ maxLen ∧ ∃ cur' : Array Value, (W2.drew.setRow w.heap.size c2.toArray).heap[w.heap.size]? = some (.cells cur' 52 (0, 0)) ∧ cur'.size = G * 3 ∧ cur'.toList.take ((n + 1) * 3) = xs.take (i * 3) ++ vs ++ xs.drop (i * 3) ∧ Below w.heap.size w (W2.drew.setRow w.heap.size c2.toArray)) :=
    ⟨hGn, hGm, c2.toArray, row_same W2.drew _ c1.toArray _ hN2, by simp [hl2, hRl], hfin, below_setRow hbW2.drew (Nat.le_refl _) _⟩
  have hG63 : G ≤ 9223372036854775807 := by unfold maxLen at hGm; omega
  have hGi : ¬ (G = i) := by omega
  have hGim : ¬ (G = i + 1) := by omega
  have hni : ¬ (n = i) := by omega
  clear hG hl1 hl2 hfin hc1 hc2 hN1 hN2 hbW hbW2 hW1 hW2 hRl hRt hxs hdl hg hv hx hxl hcs hvl h1x h1v hadd0 hGm
  have hw1 : IntKind.i64.wrap ((i : Int) + 1) = (i : Int) + 1 := by rw [IntKind.wrap_i64]; omega
  have htn : ((i : Int) + 1).toNat = i + 1 := by omega
  have hq1 : (0 : Int) ≤ (i : Int) + 1 := by omega
  have hq2 : i ≤ n := by omega
  have hq3 : (i : Int) ≤ (n : Int) + 1 := by omega
  have hq4 : (i : Int) + 1 ≤ (n : Int) + 1 := by omega
  have hq5 : n + 1 - (i + 1) = n - i := by omega
  have hq6 : (i : Int) ≤ (n : Int) := by omega
  go_enter Tryz.func90, Tryz.ntmps90
  go_wp2_with (first | (at_builtin; refine wpList_appendK _ rfl _ _ 24 3 rfl _ _ rfl rfl (hap _) ?_) | (at_builtin; refine wpList_copyK _ rfl _ _ 24 24 rfl _ _ rfl rfl (hcpA _ _) ?_))
  go_region_law (refine step_copyK rfl _ _ 24 24 rfl _ _ (by simp [Act.eval, Act.put]) (by simp [Act.eval, Act.put]) (hcpB _ _ _) ?_)
  go_wp2
  go_ret
  exact ⟨G, rfl, HEND.out⟩
set_option maxHeartbeats 1600000 in
set_option maxRecDepth 100000 in
theorem insEnd_add (base n vb : Nat) (v : Value) (xs vs : List Value) (w : World) (hn : n ≤ 1000) (hown : w.ownsRow base 52 3 v n xs) (hbase : base ≤ w.heap.size)
    (hv : w.heap[vb]? = some (.cells vs.toArray 52 (0, 0))) (hvl : vs.length = 3) (h1v : ∀ v ∈ vs, v.oneCell' = true) :
    Calls Tryz.prog 90 #[v, .int .i64 n, .slice (some ⟨vb, 0, none⟩) 1 1] w fun e w' => ∃ v', e = .returned v' ∧ w'.ownsRow base 52 3 v' (n + 1) (xs ++ vs) ∧ w.grownBy w' v.ownBlock := by
  obtain ⟨i0, hi0, hz0, hz1, hz2⟩ := info_parts infoE_add
  have hnews : ∀ j u, vs[j]? = some u → w.cell? (Addr.add ⟨vb, 0, none⟩ j) = some u := fun j u hj => by
    rw [show Addr.add ⟨vb, 0, none⟩ j = ⟨vb, j, none⟩ from by unfold Addr.add; by_cases e : j = 0 <;> simp [e]]
    exact cl_row hv (by simpa using hj)
  have HOWN : Hid (_ : Prop) := hown
  rcases hown.2 with ⟨rfl, rfl⟩ | ⟨g, cap, cur, rfl, hbg, hgg, hnc, hcm, hcsz, htk⟩
  · go_enter Tryz.func90, Tryz.ntmps90
    go_wp2_with (at_builtin; refine wpList_append_own _ rfl _ _ 24 rfl base 52 i0 (.agg #[.int .i64 0, .bool false, .bool false]) 3 16 Tryz.underlying24 hi0 hz0 hz1 hz2 rfl (by decide) _ _ _ rfl HOWN.out ⟨vb, 0, none⟩ 1 1 vs rfl (by omega) hnews h1v (by unfold maxLen; omega) (by omega) hbase ?_; intro v3 w3 hown3 hgrow3 _)
    go_ret
    exact ⟨_, rfl, hown3, hgrow3⟩
  · have hcm' : cap ≤ 9223372036854775807 := by unfold maxLen at hcm; omega
    clear hgg hcsz htk hcm hown
    by_cases hnc2 : cap = n
    · subst hnc2
      go_enter Tryz.func90, Tryz.ntmps90
      go_wp2_with (at_builtin; refine wpList_append_own _ rfl _ _ 24 rfl base 52 i0 (.agg #[.int .i64 0, .bool false, .bool false]) 3 16 Tryz.underlying24 hi0 hz0 hz1 hz2 rfl (by decide) _ _ _ rfl HOWN.out ⟨vb, 0, none⟩ 1 1 vs rfl (by omega) hnews h1v (by unfold maxLen; omega) (by omega) hbase ?_; intro v3 w3 hown3 hgrow3 _)
      go_ret
      exact ⟨_, rfl, hown3, hgrow3⟩
    · go_enter Tryz.func90, Tryz.ntmps90
      go_wp2_with (at_builtin; refine wpList_append_own _ rfl _ _ 24 rfl base 52 i0 (.agg #[.int .i64 0, .bool false, .bool false]) 3 16 Tryz.underlying24 hi0 hz0 hz1 hz2 rfl (by decide) _ _ _ rfl HOWN.out ⟨vb, 0, none⟩ 1 1 vs rfl (by omega) hnews h1v (by unfold maxLen; omega) (by omega) hbase ?_; intro v3 w3 hown3 hgrow3 _)
      go_ret
      exact ⟨_, rfl, hown3, hgrow3⟩
/-- An entry is put at its place into a row of its own. -/
theorem ins_add (base n i vb : Nat) (v : Value) (xs vs : List Value) (w : World) (hi : i ≤ n) (hn : n ≤ 1000) (hown : w.ownsRow base 52 3 v n xs) (hbase : base ≤ w.heap.size)
    (hv : w.heap[vb]? = some (.cells vs.toArray 52 (0, 0))) (hvb : v.ownBlock ≠ some vb) (hvl : vs.length = 3) (h1x : ∀ v ∈ xs, v.oneCell' = true) (h1v : ∀ v ∈ vs, v.oneCell' = true) :
    Calls Tryz.prog 90 #[v, .int .i64 i, .slice (some ⟨vb, 0, none⟩) 1 1] w fun e w' => ∃ v', e = .returned v' ∧ w'.ownsRow base 52 3 v' (n + 1) (xs.take (i * 3) ++ vs ++ xs.drop (i * 3)) ∧ w.grownBy w' v.ownBlock := by
  have hxl : xs.length = n * 3 := hown.1
  by_cases hin : i = n
  · subst hin
    rw [List.take_of_length_le (by omega), List.drop_eq_nil_of_le (by omega), List.append_nil]
    exact insEnd_add base i vb v xs vs w hn hown hbase hv hvl h1v
  · obtain ⟨_, ⟨rfl, rfl⟩ | ⟨g, cap, cur, rfl, hbg, hgg, hnc, hcm, hcsz, htk⟩⟩ := hown
    · omega
    · have hne : vb ≠ g := fun e => hvb (by rw [e]; rfl)
      have hcm' : cap ≤ 9223372036854775807 := by unfold maxLen at hcm; omega
      have hlen : (xs.take (i * 3) ++ vs ++ xs.drop (i * 3)).length = (n + 1) * 3 := by simp only [List.length_append, List.length_take, List.length_drop, hvl]; omega
      by_cases hr : n + 1 ≤ cap
      · refine (insRoom_add g n cap i vb cur.toList xs vs w (by omega) hr hcm' hn hne (by simpa using hgg) (by simpa using hcsz) (by simpa using htk) (by omega) hv hvl h1x h1v).mono ?_
        rintro e w' ⟨rfl, cur', h1, h2, h3, h4⟩
        exact ⟨_, rfl, ⟨hlen, Or.inr ⟨g, cap, cur', rfl, hbg, h1, hr, hcm, h2, by simpa using h3⟩⟩, grown_of_beside h4⟩
      · obtain rfl : cap = n := by omega
        refine (insGrow_add g cap i vb cur.toList xs vs w (by omega) hn hne (by simpa using hgg) (by simpa using hcsz) (by simpa using htk) (by omega) hv hvl h1x h1v).mono ?_
        rintro e w' ⟨c, rfl, hc1, hc2, cur', h1, h2, h3, h4⟩
        exact ⟨_, rfl, ⟨hlen, Or.inr ⟨w.heap.size, c, cur', rfl, hbase, h1, hc1, hc2, h2, by simpa using h3⟩⟩, grown_of_below h4⟩
end Go.Proofs.YtlhnfejgkhilkaaGreatDoor
