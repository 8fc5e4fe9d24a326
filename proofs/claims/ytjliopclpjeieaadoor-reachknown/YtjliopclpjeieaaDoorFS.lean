/-
  ReachPuts: lists in memory of their own, kept as they were.
-/
import Derived.Test.YtjliopclpjeieaaDoorFI
import Derived.Test.YtjliopclpjeieaaDoorH5b
import Derived.Test.YtjliopclpjeieaaDoorH7
namespace Go.Proofs.YtjliopclpjeieaaDoor
open Go.RowKit
def m77 : Nl := ⟨0, 0, ⟨#[]⟩, 0, 77, 0⟩
/-- A list with room behind it that is marked. -/
def KeptAt (w : World) (ad : Option Addr) (cap : Nat) (R : List Nl) : Prop := NlsAt w (.slice ad (R.length + 1) cap) (R ++ [m77])
theorem KeptAt.below {w w' : World} {ad : Option Addr} {cap : Nat} {R : List Nl} (h : KeptAt w ad cap R) (hb : Below w.heap.size w w') : KeptAt w' ad cap R := NlsAt.below h hb
theorem KeptAt.parts {w : World} {ad : Option Addr} {cap : Nat} {R : List Nl} (h : KeptAt w ad cap R) : ∃ b off, ad = some ⟨b, off, none⟩ ∧ R.length + 1 ≤ cap ∧ RowN w b off R ∧ w.cell? ⟨b, off + R.length * 6 + 4, none⟩ = some (.int .u32 77) := by
  obtain ⟨ad', b, off, cap', e, had, hcap, hrow⟩ := h
  simp only [Value.slice.injEq] at e
  obtain ⟨rfl, _, rfl⟩ := e
  have hl : (R ++ [m77]).length = R.length + 1 := by simp
  refine ⟨b, off, by rcases had with h | h; exact h; omega, by omega, fun j hj => ?_, ?_⟩
  · have := hrow j (by omega)
    rwa [List.getElem_append_left hj] at this
  · have := (hrow R.length (by omega)).2.2.2.2.1
    rwa [List.getElem_append_right (Nat.le_refl _), show ([m77] : List Nl)[R.length - R.length]'(by simp) = m77 by simp] at this
theorem KeptAt.list {w : World} {ad : Option Addr} {cap : Nat} {R : List Nl} (h : KeptAt w ad cap R) : NlsAt w (.slice ad R.length cap) R := by
  obtain ⟨b, off, h1, h2, h3, _⟩ := h.parts
  exact ⟨ad, b, off, cap, rfl, Or.inl h1, by omega, h3⟩
theorem owns_cap {w : World} {base : Nat} {e : TypeId} {size : Nat} {ad : Option Addr} {n c : Nat} {xs : List Value} (h : w.ownsRow base e size (.slice ad n c) n xs) : n ≤ c := by
  obtain ⟨h0, h | ⟨g, cap, cur, h, hg, hk, hc, _⟩⟩ := h
  · rw [h.2]; omega
  · simp only [Value.slice.injEq] at h
    omega
set_option maxRecDepth 100000 in
set_option maxHeartbeats 1600000 in
theorem own_any (v : Value) (R : List Nl) (w : World) (hv : NlsAt w v R) (hlen : R.length ≤ 30000) :
    Calls Tryd.prog 14 #[v] w fun e w' => ∃ ad cap, e = .returned (.slice ad R.length cap) ∧ KeptAt w' ad cap R ∧ Below w.heap.size w w' := by
  obtain ⟨ad, b, off, cap, rfl, had, hcap, hrow⟩ := hv
  obtain ⟨i0, hi, hz0, hz1, hz2⟩ := info_parts info27
  have HNW : Hid (∀ X : World, ∀ (j : Nat) (u : Value), ([.int .i64 0, .int .u64 0, .string ⟨#[]⟩, .int .i64 0, .int .u32 77, .int .u32 0] : List Value)[j]? = some u → (X.alloc (.cells #[.int .i64 0, .int .u64 0, .string ⟨#[]⟩, .int .i64 0, .int .u32 77, .int .u32 0] 46)).cell? (Addr.add ⟨X.heap.size, 0, none⟩ j) = some u) := fun X => news6 X _ _ _ _ _ _ _
  cases ad with
  | none =>
    have h0 : R.length = 0 := by rcases had with h | h; cases h; exact h
    obtain rfl : R = [] := List.length_eq_zero_iff.mp h0
    rw [List.length_nil]
    clear hlen hcap hrow had h0
    go_enter Tryd.func14, Tryd.ntmps14
    go_wp2_with (at_builtin; refine wpList_append_own _ rfl _ _ 28 rfl w.heap.size 46 i0 (.agg #[.int .i64 0, .int .u64 0, .string ⟨#[]⟩, .int .i64 0, .int .u32 0, .int .u32 0]) 6 48 Tryd.underlying28 hi hz0 hz1 hz2 rfl (by decide) _ _ _ rfl (World.ownsRow_nil _ _ _ _) ⟨w.heap.size, 0, none⟩ 1 1 [.int .i64 0, .int .u64 0, .string ⟨#[]⟩, .int .i64 0, .int .u32 77, .int .u32 0] rfl rfl (HNW.out w) (six_nl _ _ _ _ _ _) (by unfold maxLen; omega) (by omega) (by simp) ?_; intro v7 w7 hown7 hgrow7 _; obtain ⟨ad7, c7, rfl⟩ := slice_of_owns hown7; have hc7 := owns_cap hown7)
    have hbw : Below w.heap.size w w7 := ((Below.refl _ _).alloc (Nat.le_refl _) _).grown hgrow7 (by simp) (fun k e => by cases e)
    go_ret
    exact ⟨ad7, c7, rfl, OwnN.at (R := [m77]) hown7, hbw⟩
  | some a =>
    obtain ⟨k, hk⟩ : ∃ k, k = R.length := ⟨_, rfl⟩
    have HE : Hid ((cellsN R).length = k * 6) := by unfold Hid; rw [cellsN_len, hk]
    have HN : Hid (∀ j u, (cellsN R)[j]? = some u → w.cell? (a.add j) = some u) := by
      rcases had with h | h
      · cases h; exact hrow.cells
      · obtain rfl : R = [] := List.length_eq_zero_iff.mp h
        intro j u hj
        simp [cellsN] at hj
    have HK : Hid (k = R.length) := hk
    rw [← hk] at hcap hlen ⊢
    clear had hrow hk
    go_enter Tryd.func14, Tryd.ntmps14
    go_wp2_with (first | (at_builtin; refine wpList_append_own _ rfl _ _ 28 rfl w.heap.size 46 i0 (.agg #[.int .i64 0, .int .u64 0, .string ⟨#[]⟩, .int .i64 0, .int .u32 0, .int .u32 0]) 6 48 Tryd.underlying28 hi hz0 hz1 hz2 rfl (by decide) _ _ _ rfl (World.ownsRow.alloc hown6 _) ⟨w6.heap.size, 0, none⟩ 1 1 [.int .i64 0, .int .u64 0, .string ⟨#[]⟩, .int .i64 0, .int .u32 77, .int .u32 0] rfl rfl (HNW.out w6) (six_nl _ _ _ _ _ _) (by unfold maxLen; omega) (by omega) (Nat.le_trans hsz6 (by simp)) ?_; intro v7 w7 hown7 hgrow7 _; obtain ⟨ad7, c7, rfl⟩ := slice_of_owns hown7; have hc7 := owns_cap hown7) | (at_builtin; refine wpList_append_own _ rfl _ _ 28 rfl w.heap.size 46 i0 (.agg #[.int .i64 0, .int .u64 0, .string ⟨#[]⟩, .int .i64 0, .int .u32 0, .int .u32 0]) 6 48 Tryd.underlying28 hi hz0 hz1 hz2 rfl (by decide) _ _ _ rfl (World.ownsRow_nil _ _ _ _) a k _ (cellsN R) rfl HE.out HN.out (cellsN_one _) (by unfold maxLen; omega) (by omega) (Nat.le_refl _) ?_; intro v6 w6 hown6 hgrow6 _; have hb6 : Below w.heap.size w w6 := (Below.refl _ _).grown hgrow6 (Nat.le_refl _) (fun j e => by cases e); have hsz6 := hb6.size; have HB6 : Hid (Below w.heap.size w w6) := hb6; clear hb6 hgrow6))
    have hbw : Below w.heap.size w6 w7 := ((Below.refl _ _).alloc hsz6 _).grown hgrow7 (Nat.le_trans hsz6 (by simp)) (fun k e => (owns_lt hown6 k e).1)
    have hos : OwnN w7 w.heap.size (.slice ad7 (k + 1) c7) (R ++ [m77]) := by
      unfold OwnN
      rw [cellsN_snoc, List.length_append, ← HK.out]
      rw [Nat.zero_add, List.nil_append] at hown7
      exact hown7
    go_ret
    refine ⟨ad7, c7, rfl, ?_, HB6.out.trans hbw⟩
    unfold KeptAt
    rw [← HK.out]
    exact hos.at
set_option maxRecDepth 100000 in
set_option maxHeartbeats 1600000 in
theorem kept_any (ad : Option Addr) (cap : Nat) (vl : Value) (R : List Nl) (w : World) (hk : KeptAt w ad cap R) (hv : NlsAt w vl R) (hlen : R.length ≤ 30000) :
    Calls Tryd.prog 19 #[.slice ad R.length cap, vl] w fun e w' => e = .returned (.bool true) ∧ Below w.heap.size w w' := by
  have K1 : Hid (_ : Prop) := same22_any (.slice ad R.length cap) vl R R w hk.list hv (by omega)
  rw [sameL_self] at K1
  obtain ⟨b, off, rfl, hcap, _, hc⟩ := hk.parts
  obtain ⟨ad2, b2, off2, cap2, rfl, _, _, _⟩ := hv
  have HC : Hid (_ = _) := hc
  have hcap' : (R.length : Int) + 1 ≤ cap := by omega
  clear hk hc hcap
  generalize R.length = n at *
  go_enter Tryd.func19, Tryd.ntmps19
  go_wp2_with fail
  refine Calls.mono K1.out ?_
  rintro e w1 ⟨rfl, hb1⟩
  have c4 := below_cell hb1 HC.out
  go_wp2
  go_ret
  exact ⟨rfl, hb1⟩
end Go.Proofs.YtjliopclpjeieaaDoor
