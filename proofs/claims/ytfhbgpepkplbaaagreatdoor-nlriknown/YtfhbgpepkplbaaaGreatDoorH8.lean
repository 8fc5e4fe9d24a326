/-
  A clone of told prefixes, and Withdrawn's first loop: their labels are struck out.
-/
import Derived.Test.YtfhbgpepkplbaaaGreatDoorH7
namespace Go.Proofs.YtfhbgpepkplbaaaGreatDoor
open Go.RowKit
set_option maxRecDepth 100000 in
theorem cloneN_any (v : Value) (R : List Nl) (w : World) (h : NlsAt w v R) (hlen : R.length ≤ 1000000000) :
    Calls Tryz.prog 38 #[v] w fun e w' => ∃ ad c, e = .returned (.slice ad R.length c) ∧ OwnN w' w.heap.size (.slice ad R.length c) R ∧ Below w.heap.size w w' := by
  obtain ⟨i0, hi, hz0, hz1, hz2⟩ := info_parts info27
  have q35 : ∀ (w : World) (a : Option Addr) (n c n' c' : Nat), (binOp .eql 35 (.slice a n c) (.slice none n' c')).run Tryz.prog w = .ok (.bool a.isNone) w := fun w a n c n' c' => Lib.run_eql_slice_nil w _ _ a n c n' c' Tryz.underlying35
  obtain ⟨ad, b, off, cap, rfl, had, hcap, hr⟩ := h
  have HR : Hid (RowN _ _ _ _) := hr
  clear hr
  cases ad with
  | none =>
    have h0 : R.length = 0 := by rcases had with h | h; exact absurd h (by simp); exact h
    have hl0 : R = [] := List.length_eq_zero_iff.mp h0
    subst hl0
    clear had h0
    go_enter Tryz.func38, Tryz.ntmps38
    go_wp2
    go_ret
    exact ⟨none, 0, rfl, World.ownsRow_nil _ _ _ _, Below.refl _ _⟩
  | some a =>
    have hnews : ∀ (j : Nat) (u : Value), (cellsN R)[j]? = some u → (w.alloc (.cells #[] 27)).cell? (a.add j) = some u := by
      rcases had with h | h
      · injection h with h
        subst h
        exact (HR.out.below ((Below.refl _ _).alloc (Nat.le_refl _) _)).cells
      · intro j u hj
        obtain rfl : R = [] := List.length_eq_zero_iff.mp h
        simp [cellsN] at hj
    have HN : Hid (_ : Prop) := hnews
    clear hnews had
    go_enter Tryz.func38, Tryz.ntmps38
    go_wp2_with (at_builtin; refine wpList_append_own _ rfl _ _ 35 rfl w.heap.size 27 i0 (.agg #[.int .i64 0, .int .u64 0, .string ⟨#[]⟩, .int .i64 0, .int .u32 0, .int .u32 0]) 6 48 Tryz.underlying35 hi hz0 hz1 hz2 rfl (by decide) (.slice (some ⟨w.heap.size, 0, none⟩) 0 0) 0 [] rfl (World.ownsRow_made w #[] 0 (Nat.le_refl _) (Nat.zero_le _) rfl) a R.length cap (cellsN R) rfl (cellsN_len R) HN.out (cellsN_one R) (by unfold maxLen; omega) (by omega) (by simp) ?_; intro v3 w3 hown3 hgrow3 _)
    have hb3 : Below w.heap.size w w3 := ((Below.refl _ w).alloc (Nat.le_refl _) _).grown hgrow3 (by simp) (by intro k hk; simp [Value.ownBlock] at hk; omega)
    rw [Nat.zero_add, List.nil_append] at hown3
    obtain ⟨ad3, c3, rfl⟩ := slice_of_owns hown3
    go_wp2
    go_ret
    exact ⟨ad3, c3, rfl, hown3, hb3⟩
end Go.Proofs.YtfhbgpepkplbaaaGreatDoor
