/-
  The law's own cut.
-/
import Derived.Test.YtfhbgpepkplbaaaGreatDoorE3
import Derived.Lib.AppendStr
namespace Go.Proofs.YtfhbgpepkplbaaaGreatDoor
open Go.RowKit
theorem cellsN_len (R : List Nl) : (cellsN R).length = R.length * 6 := by
  induction R with
  | nil => rfl
  | cons a R ih => simp only [cellsN, List.flatMap_cons, List.length_append, List.length_cons] at *; simp only [Nl.cs, List.length_cons, List.length_nil]; omega
theorem cellsN_one (R : List Nl) : ∀ u ∈ cellsN R, u.oneCell' = true := by
  intro u hu
  simp only [cellsN, List.mem_flatMap] at hu
  obtain ⟨a, _, ha⟩ := hu
  simp only [Nl.cs, List.mem_cons, List.not_mem_nil, or_false] at ha
  rcases ha with h | h | h | h | h | h <;> subst h <;> rfl
theorem addr_add (b off i : Nat) : Addr.add ⟨b, off, none⟩ i = ⟨b, off + i, none⟩ := by unfold Addr.add; by_cases e : i = 0 <;> simp [e]
theorem RowN.cells {w : World} {b off : Nat} {R : List Nl} (h : RowN w b off R) : ∀ j u, (cellsN R)[j]? = some u → w.cell? (Addr.add ⟨b, off, none⟩ j) = some u := by
  intro j u hj
  rw [addr_add]
  have hlt : j < R.length * 6 := by
    have := (List.getElem?_eq_some_iff.1 hj).1
    rwa [cellsN_len] at this
  have hq : j / 6 < R.length := by omega
  obtain ⟨e0, e1, e2, e3, e4, e5⟩ := cellsN_at R (j / 6) hq
  obtain ⟨c0, c1, c2, c3, c4, c5⟩ := h (j / 6) hq
  have h6 : j % 6 < 6 := Nat.mod_lt _ (by decide)
  rcases (by omega : j = j / 6 * 6 ∨ j = j / 6 * 6 + 1 ∨ j = j / 6 * 6 + 2 ∨ j = j / 6 * 6 + 3 ∨ j = j / 6 * 6 + 4 ∨ j = j / 6 * 6 + 5) with e | e | e | e | e | e
  · rw [e, e0] at hj; rw [e, c0]; exact hj
  · rw [e, e1] at hj; rw [e, ← Nat.add_assoc, c1]; exact hj
  · rw [e, e2] at hj; rw [e, ← Nat.add_assoc, c2]; exact hj
  · rw [e, e3] at hj; rw [e, ← Nat.add_assoc, c3]; exact hj
  · rw [e, e4] at hj; rw [e, ← Nat.add_assoc, c4]; exact hj
  · rw [e, e5] at hj; rw [e, ← Nat.add_assoc, c5]; exact hj
theorem RowN.take {w : World} {b off : Nat} {R : List Nl} (h : RowN w b off R) (k : Nat) : RowN w b off (R.take k) := by
  intro j hj
  have hj' : j < R.length := by simp at hj; omega
  have := h j hj'
  simp only [List.getElem_take]
  exact this
set_option maxRecDepth 100000 in
set_option maxHeartbeats 1600000 in
theorem cut_any (v : Value) (R : List Nl) (w : World) (hv : NlsAt w v R) (hlen : R.length ≤ 1000000000000) :
    Calls Tryz.prog 14 #[v] w fun e w' => ∃ v', e = .returned v' ∧ OwnN w' w.heap.size v' (R.take 60) ∧ Below w.heap.size w w' := by
  obtain ⟨ad, b, off, cap, rfl, had, hcap, hrow⟩ := hv
  obtain ⟨i0, hi, hz0, hz1, hz2⟩ := info_parts info27
  obtain ⟨k, hk⟩ : ∃ k, k = (R.take 60).length := ⟨_, rfl⟩
  have hk60 : k ≤ 60 ∧ k ≤ R.length := by rw [hk]; simp; omega
  have hm : min (R.length : Int) 60 = (k : Int) := by rw [hk]; simp; omega
  have hkc : (k : Int) ≤ (cap : Int) := by omega
  have HE : Hid ((cellsN (R.take 60)).length = k * 6) := by unfold Hid; rw [cellsN_len, hk]
  have HK : Hid (k = (R.take 60).length) := hk
  cases ad with
  | none =>
    have h0 : R.length = 0 := by rcases had with h | h; cases h; exact h
    obtain rfl : R = [] := List.length_eq_zero_iff.mp h0
    obtain rfl : k = 0 := by simpa using hk
    have HO : Hid (OwnN w w.heap.size (.slice none 0 0) (List.take 60 [])) := World.ownsRow_nil _ _ _ _
    clear hlen hcap hrow had h0 hkc hk hk60 HE HK hm
    rw [List.length_nil]
    go_enter Tryz.func14, Tryz.ntmps14
    have hm : (min 0 60 : Int) = 0 := by decide
    go_wp2
    go_ret
    exact ⟨_, rfl, HO.out, Below.refl _ _⟩
  | some a =>
    have HN : Hid (∀ j u, (cellsN (R.take 60))[j]? = some u → w.cell? (a.add j) = some u) := by
      rcases had with h | h
      · cases h; exact (hrow.take 60).cells
      · obtain rfl : R = [] := List.length_eq_zero_iff.mp h
        intro j u hj
        simp [cellsN] at hj
    clear hk had hrow
    go_enter Tryz.func14, Tryz.ntmps14
    go_wp2_with (at_builtin; refine wpList_append_own _ rfl _ _ 35 rfl w.heap.size 27 i0 (.agg #[.int .i64 0, .int .u64 0, .string ⟨#[]⟩, .int .i64 0, .int .u32 0, .int .u32 0]) 6 48 Tryz.underlying35 hi hz0 hz1 hz2 rfl (by decide) _ _ _ rfl (World.ownsRow_nil _ _ _ _) a k _ (cellsN (R.take 60)) rfl HE.out HN.out (cellsN_one _) (by unfold maxLen; omega) (by omega) (Nat.le_refl _) ?_; intro v6 w6 hown6 hgrow6 _)
    have hb6 : Below w.heap.size w w6 := (Below.refl _ _).grown hgrow6 (Nat.le_refl _) (fun j e => by cases e)
    rw [Nat.zero_add, List.nil_append, HK.out] at hown6
    clear hgrow6
    go_wp2
    go_ret
    exact ⟨v6, rfl, hown6, hb6⟩
end Go.Proofs.YtfhbgpepkplbaaaGreatDoor
