/-
  slices.Insert of one entry into a row of its own: in place, where there is room.
-/
import Derived.Test.YtlhnfejgkhilkaaDoorI1
import Derived.Deep.RegionLaw
import Derived.Lib.Overlaps
import Derived.Lib.AppendZerosOnto
import Derived.Laws.CopyRow
set_option linter.unusedVariables false
set_option linter.unusedSimpArgs false
namespace Go.Proofs.YtlhnfejgkhilkaaDoor
open Go.RowKit
theorem sizeE_int : (Tryd.prog.info? 3).map (·.size) = some 1 := by kernel_rfl
theorem szE_int (w : World) : (Go.sizeOf 3).run Tryd.prog w = .ok 1 w := by kernel_rfl
set_option maxHeartbeats 6400000 in
set_option maxRecDepth 100000 in
theorem insRoom_int (g n c i vb : Nat) (cur xs vs : List Value) (w : World) (hi : i < n) (hroom : n + 1 ≤ c) (hc : c ≤ 9223372036854775807) (hn : n ≤ 1000) (hvb : vb ≠ g)
    (hg : w.heap[g]? = some (.cells cur.toArray 3 (0, 0))) (hcs : cur.length = c * 1) (hx : cur.take (n) = xs) (hxl : xs.length = n)
    (hv : w.heap[vb]? = some (.cells vs.toArray 3 (0, 0))) (hvl : vs.length = 1) (h1x : ∀ v ∈ xs, v.oneCell' = true) (h1v : ∀ v ∈ vs, v.oneCell' = true) :
    Calls Tryd.prog 98 #[.slice (some ⟨g, 0, none⟩) n c, .int .i64 i, .slice (some ⟨vb, 0, none⟩) 1 1] w fun e w' =>
      e = .returned (.slice (some ⟨g, 0, none⟩) (n + 1) c) ∧ ∃ cur' : Array Value, w'.heap[g]? = some (.cells cur' 3 (0, 0)) ∧ cur'.size = c * 1 ∧ cur'.toList.take ((n + 1)) = xs.take (i) ++ vs ++ xs.drop (i) ∧ Beside g w w' := by
  have hz2 : ¬ ((i : Int) = (n : Int)) := by omega
  have hdl : (xs.drop (i)).length = (n - i) * 1 := by rw [List.length_drop, hxl]; omega
  have hcl : (n + 1) ≤ cur.length := by omega
  have hvz : ∀ W : World, W.heap[vb]? = some (.cells vs.toArray 3 (0, 0)) → ∀ j v, vs[j]? = some v → W.cell? (Addr.add ⟨vb, 0, none⟩ j) = some v := fun W hW j v hj => by
    rw [show Addr.add ⟨vb, 0, none⟩ j = ⟨vb, j, none⟩ from by unfold Addr.add; by_cases e : j = 0 <;> simp [e]]
    exact cl_row hW (by simpa using hj)
  have hov : ∀ lb cb, (callFunc 108 #[.slice (some ⟨vb, 0, none⟩) 1 1, .slice (some ⟨g, i + 1, none⟩) lb cb]).run Tryd.prog w = .ok (.value (.bool false)) w := fun lb cb => by
    rw [run_callFunc_extern Tryd.func108 (by kernel_rfl) (by kernel_rfl) (by kernel_rfl) (e := Extern.SlicesOverlaps.overlaps #[23, 23] #[4]) (by kernel_rfl),
      Lib.run_overlaps_apart w 23 4 3 Tryd.underlying23 1 szE_int ⟨vb, 0, none⟩ ⟨g, i + 1, none⟩ 1 1 lb cb hvb 3 3 vs.length cur.length (by rw [shape_row hv]; simp) (by rw [shape_row hg]; simp) (by omega) (fz_row hv) (fz_row hv)]
    rfl
  have hcp1 : ∀ ty dc sc, (Builtin.copy_ #[23, 23] ty #[.slice (some ⟨g, i + 1, none⟩) (n - i) dc, .slice (some ⟨g, i, none⟩) (n + 1 - i) sc]).run Tryd.prog w.drew = .ok (goInt ((n - i : Nat) : Int)) (w.drew.setRow g (cur.take (i + 1) ++ xs.drop (i) ++ cur.drop (i + 1 + (xs.drop (i)).length)).toArray) := fun ty dc sc => by
    have := run_copyK (P := Tryd.prog) w.drew 23 23 ty 3 1 g (i + 1) (n - i) dc ⟨g, i, none⟩ (n + 1 - i) sc cur.toArray 3 (xs.drop (i)) Tryd.underlying23 sizeE_int hg (by rw [hdl]; congr 1; simp only [Nat.min_def]; split <;> omega)
      (fun j v hj => by
        rw [show Addr.add ⟨g, i, none⟩ j = ⟨g, i + j, none⟩ from by unfold Addr.add; by_cases e : j = 0 <;> simp [e]]
        refine cl_row (w := w.drew) (t := 3) (cs := cur.toArray) hg ?_
        rw [List.getElem?_drop] at hj
        simpa using take_of_take hx hxl _ v hj)
      (by rw [hdl]; simp; omega) (fun v hv' => h1x v (List.mem_of_mem_drop hv'))
    rw [show Nat.min (n + 1 - i) (n - i) = n - i from by simp only [Nat.min_def]; split <;> omega] at this
    exact this
  obtain ⟨c1, hc1⟩ : ∃ c1, c1 = cur.take (i + 1) ++ xs.drop (i) ++ cur.drop (i + 1 + (xs.drop (i)).length) := ⟨_, rfl⟩
  obtain ⟨hl1, hl2⟩ := row_put_len cur xs vs n i 1 hi (by omega) (by omega) hvl
  have hfin := row_put cur xs vs n i 1 hi (by omega) (by simpa using hx) (by omega) hvl
  simp only [Nat.mul_one] at hl1 hl2 hfin
  simp only [← hc1] at hcp1 hl1 hl2 hfin
  have hg1 : (w.drew.setRow g c1.toArray).heap[g]? = some (.cells c1.toArray 3 (0, 0)) := row_same w.drew g cur.toArray c1.toArray hg
  have hv1 : (w.drew.setRow g c1.toArray).heap[vb]? = some (.cells vs.toArray 3 (0, 0)) := (row_other w.drew g vb c1.toArray hvb).trans hv
  have hcp2 : ∀ ty dc, (Builtin.copy_ #[23, 23] ty #[.slice (some ⟨g, i, none⟩) (n + 1 - i) dc, .slice (some ⟨vb, 0, none⟩) 1 1]).run Tryd.prog (w.drew.setRow g c1.toArray) = .ok (goInt 1) ((w.drew.setRow g c1.toArray).setRow g (c1.take (i) ++ vs ++ c1.drop (i + vs.length)).toArray) := fun ty dc => by
    have := run_copyK (P := Tryd.prog) (w.drew.setRow g c1.toArray) 23 23 ty 3 1 g (i) (n + 1 - i) dc ⟨vb, 0, none⟩ 1 1 c1.toArray 3 vs Tryd.underlying23 sizeE_int hg1 (by rw [hvl, show Nat.min 1 (n + 1 - i) = 1 from by simp only [Nat.min_def]; split <;> omega])
      (hvz _ hv1) (by simp; omega) h1v
    rw [show Nat.min 1 (n + 1 - i) = 1 from by simp only [Nat.min_def]; split <;> omega] at this
    exact this
  have hb2 : Beside g w ((w.drew.setRow g c1.toArray).setRow g (c1.take (i) ++ vs ++ c1.drop (i + vs.length)).toArray) :=
    ((Beside.of_below (Below.refl _ _).drew (Nat.le_refl _)).trans (Beside.setRow (w := w.drew) hg)).trans (Beside.setRow hg1)
  have hg2 := row_same (w.drew.setRow g c1.toArray) g c1.toArray (c1.take (i) ++ vs ++ c1.drop (i + vs.length)).toArray hg1
  generalize (c1.take (i) ++ vs ++ c1.drop (i + vs.length)) = c2 at *
  have HEND : Hid (∃ cur' : Array Value, ((w.drew.setRow g c1.toArray).setRow g c2.toArray).heap[g]? = some (.cells cur' 3 (0, 0)) ∧ cur'.size = c * 1 ∧ cur'.toList.take ((n + 1)) = xs.take (i) ++ vs ++ xs.drop (i) ∧ Beside g w ((w.drew.setRow g c1.toArray).setRow g c2.toArray)) := ⟨c2.toArray, hg2, by simp [hl2, hcs], hfin, hb2⟩
  clear hg2 hb2 hfin hl1 hl2 hc1 hg1 hv1 hvz hdl hcl hg hv hx hxl hcs hvl h1x h1v
  have hw1 : IntKind.i64.wrap ((i : Int) + 1) = (i : Int) + 1 := by rw [IntKind.wrap_i64]; omega
  have hb4 : ¬ (c = i) := by omega
  have hb2 : ¬ (c = i + 1) := by omega
  have htn : ((i : Int) + 1).toNat = i + 1 := by omega
  have hq1 : (0 : Int) ≤ (i : Int) + 1 := by omega
  have hq2 : i ≤ n := by omega
  have hq3 : (i : Int) ≤ (n : Int) + 1 := by omega
  have hq4 : (i : Int) + 1 ≤ (n : Int) + 1 := by omega
  have hq5 : n + 1 - (i + 1) = n - i := by omega
  go_enter Tryd.func98, Tryd.ntmps98
  go_wp2_with (simp only [hov])
  go_region_law (refine step_copyK rfl _ _ 23 23 rfl _ _ (by simp [Act.eval, Act.put]) (by simp [Act.eval, Act.put]) (hcp1 _ _ _) ?_)
  go_wp2_with (at_builtin; refine wpList_copyK _ rfl _ _ 23 23 rfl _ _ rfl rfl (hcp2 _ _) ?_)
  go_ret
  exact ⟨rfl, HEND.out⟩
end Go.Proofs.YtlhnfejgkhilkaaDoor
