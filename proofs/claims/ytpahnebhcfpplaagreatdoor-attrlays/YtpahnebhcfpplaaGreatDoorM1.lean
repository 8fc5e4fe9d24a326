/-
  Clone, and appendSegs: segments put behind others, with ASs of their own.
-/
import Derived.Test.YtpahnebhcfpplaaGreatDoorC6
import Derived.Deep.RegionHeldLaw
import Derived.Deep.AppendLies
import Derived.Lib.SliceRun
namespace Go.Proofs.YtpahnebhcfpplaaGreatDoor
open Go.RowKit
theorem cellsU_at {w : World} {b off : Nat} {l : List Nat} (hr : RowU w b off l) : ∀ (j : Nat) (u : Value), (cellsU l)[j]? = some u → w.cell? (Addr.add ⟨b, off, none⟩ j) = some u := by
  intro j u h
  have hj : j < l.length := by
    have := (List.getElem?_eq_some_iff.mp h).1
    simpa [cellsU] using this
  have := (hr j hj).1
  rw [show Addr.add ⟨b, off, none⟩ j = ⟨b, off + j, none⟩ from by unfold Addr.add; by_cases e : j = 0 <;> simp [e], this]
  simp [cellsU, hj] at h
  rw [h]
theorem cellsU_one (l : List Nat) : ∀ u ∈ cellsU l, u.oneCell' = true := by
  intro u h
  obtain ⟨x, _, rfl⟩ := List.mem_map.mp h
  rfl
set_option maxRecDepth 100000 in
theorem clone_any (v : Value) (l : List Nat) (w : World) (h : ASAt w v l) :
    Calls Tryz.prog 37 #[v] w fun e w' => ∃ ad c, e = .returned (.slice ad l.length c) ∧ OwnU w' w.heap.size (.slice ad l.length c) l ∧ Below w.heap.size w w' := by
  obtain ⟨i0, hi, hz0, hz1, hz2⟩ := info_parts info23
  have q31 : ∀ (w : World) (a : Option Addr) (n c n' c' : Nat), (binOp .eql 24 (.slice a n c) (.slice none n' c')).run Tryz.prog w = .ok (.bool a.isNone) w := fun w a n c n' c' => Lib.run_eql_slice_nil w _ _ a n c n' c' Tryz.underlying24
  have HLT : Hid (∀ x ∈ l, x < 4294967296) := by
    obtain ⟨_, _, _, _, _, _, _, hr⟩ := h
    intro x hx
    obtain ⟨j, hj, e⟩ := List.getElem_of_mem hx
    rw [← e]; exact (hr j hj).2
  obtain ⟨ad, b, off, cap, rfl, had, ⟨hcap, hl⟩, hr⟩ := h
  have HR : Hid (RowU _ _ _ _) := hr
  clear hr
  cases ad with
  | none =>
    have h0 : l.length = 0 := by rcases had with h | h; exact absurd h (by simp); exact h
    have hl0 : l = [] := List.length_eq_zero_iff.mp h0
    subst hl0
    clear had h0
    go_enter Tryz.func37, Tryz.ntmps37
    go_wp2
    go_ret
    exact ⟨none, 0, rfl, ⟨World.ownsRow_nil _ _ _ _, by simp, by simp⟩, Below.refl _ _⟩
  | some a =>
    have hnews : ∀ (j : Nat) (u : Value), (cellsU l)[j]? = some u → (w.alloc (.cells #[] 23)).cell? (a.add j) = some u := by
      rcases had with h | h
      · injection h with h
        subst h
        exact cellsU_at (HR.out.below ((Below.refl _ _).alloc (Nat.le_refl _) _))
      · intro j u hj
        obtain rfl : l = [] := List.length_eq_zero_iff.mp h
        simp [cellsU] at hj
    have HN : Hid (_ : Prop) := hnews
    clear hnews had
    go_enter Tryz.func37, Tryz.ntmps37
    go_wp2_with (at_builtin; refine wpList_append_own _ rfl _ _ 24 rfl w.heap.size 23 i0 (.int .u32 0) 1 4 Tryz.underlying24 hi hz0 hz1 hz2 rfl (by decide) (.slice (some ⟨w.heap.size, 0, none⟩) 0 0) 0 [] rfl (World.ownsRow_made w #[] 0 (Nat.le_refl _) (Nat.zero_le _) rfl) a l.length cap (cellsU l) rfl (by simp [cellsU]) HN.out (cellsU_one l) (by unfold maxLen; omega) (by omega) (by simp) ?_; intro v3 w3 hown3 hgrow3 _)
    have hb3 : Below w.heap.size w w3 := ((Below.refl _ w).alloc (Nat.le_refl _) _).grown hgrow3 (by simp) (by intro k hk; simp [Value.ownBlock] at hk; omega)
    rw [Nat.zero_add, List.nil_append] at hown3
    obtain ⟨ad3, c3, rfl⟩ := slice_of_owns hown3
    go_wp2
    go_ret
    exact ⟨ad3, c3, rfl, ⟨hown3, HLT.out, hl⟩, hb3⟩
/-- What appendSegs puts behind R: the segments of L, each with a slice of its own. -/
theorem OwnS.snoc {w w' : World} {base : Nat} {v v' : Value} {R : List Sv} {k : Int} {u : Value} {l : List Nat} (h : OwnS w base v R) (hu : OwnU w base u l) (hR : R.length + 1 ≤ 4398046511104)
    (h' : w'.ownsRow base 74 2 v' (R.length + 1) (cellsS R ++ [.int .i64 k, u])) (hg : w.grownBy w' v.ownBlock) : OwnS w' base v' (R ++ [(k, u, l)]) := by
  refine ⟨by rw [cellsS_snoc, List.length_append]; exact h', fun r hr => ?_, by simpa using hR⟩
  rcases List.mem_append.mp hr with hr | hr
  · exact (h.2.1 r hr).grown h.1 hg
  · obtain rfl := List.mem_singleton.mp hr
    exact hu.grown h.1 hg
theorem OwnS.alloc {w : World} {base : Nat} {v : Value} {R : List Sv} (h : OwnS w base v R) (o : Obj) : OwnS (w.alloc o) base v R := h.below ((Below.refl _ _).alloc (Nat.le_refl _) o)
end Go.Proofs.YtpahnebhcfpplaaGreatDoor
