/-
  Paths that come in, where the bulk of all is bounded: how long their lists of ASs are at most.
-/
import Derived.Test.YtbdfigfjoiefiaaDoorJ1
namespace Go.Proofs.YtbdfigfjoiefiaaDoor
open Go.ChangeShapes Go.WideShapes Go.ChangeAt Go.RowKit Go.Joins Go.Deep Go.WideMaps Go.WideElems
theorem bulk_pos {H : Type} (d : DataW H) : 1 ≤ Rows.uptoBulk d := by
  rcases d with l | _ | _ | _ | _ | _ | _ | _
  · cases l <;> simp [Rows.uptoBulk]
  all_goals simp [Rows.uptoBulk]
theorem bulk_len {H : Type} : ∀ l : List (DataW H), l.length ≤ Rows.uptoBulkAll l
  | [] => Nat.zero_le _
  | d :: l => by
    have h1 := bulk_pos d
    have h2 := bulk_len l
    rw [Rows.uptoBulkAll, List.length_cons]
    omega
theorem bulk_in {H : Type} {d : DataW H} : ∀ {l : List (DataW H)}, d ∈ l → Rows.uptoBulk d ≤ Rows.uptoBulkAll l
  | c :: l, h => by
    rw [Rows.uptoBulkAll]
    rcases List.mem_cons.mp h with h | h
    · rw [h]; omega
    · have := bulk_in h; omega
theorem open_as_small {H : Type} {enc : TypeId × Value → H} {w : World} {sp : Nat → Bool} {held : Bool} {fuel B : Nat} {v : Value} {x : DataW H × List MemPlace} (hf : DataW.trod enc Tryd.prog w 0 sp held fuel 31 [v] = some x) (hs : Small 31 x.1) (hB : Rows.uptoBulk x.1 ≤ B) :
    ∃ l, ASAt w v l ∧ l.length ≤ B := by
  obtain ⟨l, hl⟩ := open_as hf hs
  refine ⟨l, hl, ?_⟩
  obtain ⟨ad, b, off, cap, rfl, _⟩ := hl
  rcases open_slice1 Tryd.underlying31 cs23 hf with ⟨hcs, _⟩ | ⟨a, len, cap', m, n, V, D, Pl, hcs, hb, hl, hm, hmm, hx, hel⟩
  · simp at hcs; simp [hcs.2.1]
  · simp at hcs
    obtain ⟨_, rfl, _⟩ := hcs
    rw [hx] at hB
    simp only [Rows.uptoBulk] at hB
    have := bulk_len ((List.range l.length).map D)
    simp at this
    omega
theorem open_path_small {H : Type} {enc : TypeId × Value → H} {w : World} {sp : Nat → Bool} {held : Bool} {fuel B : Nat} {v : Value} {x : DataW H × List MemPlace} (hf : DataW.trod enc Tryd.prog w 0 sp held fuel 22 [v] = some x) (hs : Small 22 x.1) (hB : Rows.uptoBulk x.1 ≤ B) :
    ∃ L, PathAt w v L ∧ ∀ s ∈ L, s.2.length ≤ B := by
  rcases open_slice_pairs Tryd.underlying22 Tryd.underlying48 cs48 rfl rfl cs3 cs31 hf with ⟨hcs, _⟩ | ⟨a, len, cap, m, n, V0, V1, D0, D1, P0, P1, hcs, hb, hl, hm, hmm, hx, hel⟩
  · simp at hcs
    subst hcs
    exact ⟨[], ⟨none, 0, 0, 0, rfl, Or.inr rfl, by simp, fun j hj => by simp at hj⟩, by simp⟩
  · simp at hcs
    subst hcs
    have hw : len ≤ 4398046511104 := by
      have h := hs ((len + (m - len)) * 32) (by rw [hx]; simp [DataW.weights, Tryd.underlying22, by48])
      simp only [reachBytes] at h
      omega
    rw [hx] at hB
    simp only [Rows.uptoBulk] at hB
    have each : ∀ i, i < len → ∃ s : Sg, w.cell? (a.add (i * 2)) = some (.int .i64 s.1) ∧ (∃ u, w.cell? (a.add (i * 2 + 1)) = some u ∧ ASAt w u s.2) ∧ s.2.length ≤ B := by
      intro i hi
      obtain ⟨h0, h1, h2, h3⟩ := hel i (by rw [hmm]; split <;> omega)
      obtain ⟨z, e0, _, _⟩ := DataW.trod_int (k := .i64) Tryd.underlying3 h2
      simp at e0
      have hsm : Small 48 (.agg [D0 i, D1 i]) := small_part (ds := (List.range len).map fun i => .agg [D0 i, D1 i]) (fun y hy => hs y (by rw [hx]; simp only [DataW.weights, Tryd.underlying22, List.mem_cons, List.mem_append]; exact Or.inr (Or.inl hy))) (List.mem_map.mpr ⟨i, by simpa using hi, rfl⟩)
      have hbi : Rows.uptoBulk (.agg [D0 i, D1 i]) ≤ Rows.uptoBulkAll ((List.range len).map fun i => DataW.agg [D0 i, D1 i]) := bulk_in (List.mem_map.mpr ⟨i, by simpa using hi, rfl⟩)
      simp only [Rows.uptoBulk, Rows.uptoBulkAll] at hbi
      obtain ⟨l, hl, hlB⟩ := open_as_small (B := B) h3 (fun y hy => hsm y (by simp only [DataW.weights, Tryd.underlying48]; simp [DataW.weightsEach]; exact Or.inr hy)) (by show Rows.uptoBulk (D1 i) ≤ B; omega)
      exact ⟨(z, l), by rw [h0, e0], ⟨V1 i, h1, hl⟩, hlB⟩
    obtain ⟨q, hq⟩ := choose_lt each
    by_cases hz : len = 0
    · subst hz
      exact ⟨[], ⟨some a, 0, 0, cap, rfl, Or.inr rfl, by simp, fun j hj => by simp at hj⟩, by simp⟩
    · obtain ⟨b, off, spot⟩ := a
      have hspot : spot = none := by
        have := (hq 0 (by omega)).1
        simpa [Addr.add] using World.cell?_spot this
      subst hspot
      refine ⟨(List.range len).map q, ⟨some ⟨b, off, none⟩, b, off, cap, by simp, Or.inl rfl, by simp; omega, fun j hj => ?_⟩, ?_⟩
      · have hj' : j < len := by simpa using hj
        obtain ⟨h0, ⟨u, h1, h2⟩, _⟩ := hq j hj'
        rw [add_off] at h0 h1
        refine ⟨by simpa using h0, u, h1, by simpa using h2⟩
      · intro s hs'
        obtain ⟨i, hi, rfl⟩ := List.mem_map.mp hs'
        exact (hq i (by simpa using hi)).2.2
end Go.Proofs.YtbdfigfjoiefiaaDoor
