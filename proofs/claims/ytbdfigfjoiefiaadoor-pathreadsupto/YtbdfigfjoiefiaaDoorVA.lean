/-
  A path in rows of its own whose last segment grows.
-/
import Derived.Test.YtbdfigfjoiefiaaDoorOA
import Derived.Test.YtbdfigfjoiefiaaDoorK3
import Derived.Test.YtbdfigfjoiefiaaDoorZ1
import Derived.Test.YtbdfigfjoiefiaaDoorXA
import Derived.Test.YtbdfigfjoiefiaaDoorC4
set_option linter.unusedVariables false
set_option linter.unusedSimpArgs false
set_option maxRecDepth 100000
namespace Go.Proofs.YtbdfigfjoiefiaaDoor
open Go.RowKit
theorem heap_set {w : World} {g : Nat} {cur : Array Value} {t : TypeId} {fz : Nat × Nat} (h : w.heap[g]? = some (.cells cur t fz)) (i : Nat) (v : Value) : (w.setCell ⟨g, i, none⟩ v).heap[g]? = some (.cells (cur.setIfInBounds i v) t fz) := by
  simp [World.setCell, Array.getElem?_modify, h]
theorem OwnU.nil (w : World) (base : Nat) : OwnU w base (.slice none 0 0) [] := ⟨World.ownsRow_nil _ _ _ _, by simp, by simp⟩
/-- A row of ASs is as it was where another block turned. -/
theorem OwnU.kept {w w' : World} {base : Nat} {v : Value} {l : List Nat} {row : Option Nat} (h : OwnU w base v l) (hg : w.grownBy w' row) (hn : v.ownBlock = none ∨ v.ownBlock ≠ row) : OwnU w' base v l := ⟨h.1.kept hg hn, h.2⟩
theorem OwnS.kept {w w' : World} {base : Nat} {v : Value} {R : List Sv} {row : Option Nat} (h : OwnS w base v R) (hg : w.grownBy w' row) (hn : v.ownBlock = none ∨ v.ownBlock ≠ row) (hr : ∀ r ∈ R, r.2.1.ownBlock = none ∨ r.2.1.ownBlock ≠ row) : OwnS w' base v R := ⟨h.1.kept hg hn, fun r h' => (h.2.1 r h').kept hg (hr r h'), h.2.2⟩
/-- The ASs of the last segment are changed. -/
theorem OwnS.setLast {w : World} {base base' g n cap : Nat} {k : Int} {u u' : Value} {l l' : List Nat} {P : List Sv} (hrow : w.ownsRow base 48 2 (.slice (some ⟨g, 0, none⟩) n cap) (P.length + 1) (cellsS (P ++ [(k, u, l)]))) (hP : ∀ p ∈ P, OwnU w base p.2.1 p.2.2) (hl : P.length + 1 ≤ 4398046511104) (hu : OwnU w base' u' l') (hb : base ≤ base') :
    OwnS (w.setCell ⟨g, P.length * 2 + 1, none⟩ u') base (.slice (some ⟨g, 0, none⟩) n cap) (P ++ [(k, u', l')]) := by
  have hrow0 := hrow
  obtain ⟨h0, hv⟩ := hrow
  rcases hv with ⟨hx, _⟩ | ⟨g', cap', cur, e, hg, hh, hc, hm, hs, ht⟩
  · simp at hx
  · simp only [Value.slice.injEq, Option.some.injEq, Addr.mk.injEq, and_true] at e
    obtain ⟨rfl, rfl, rfl⟩ := e
    refine ⟨⟨by simp [cellsS_length], Or.inr ⟨g, cap, cur.setIfInBounds (P.length * 2 + 1) u', by simp, hg, heap_set hh _ _, by simpa using hc, hm, by simpa using hs, ?_⟩⟩, ?_, by simpa using hl⟩
    · have e1 : (P ++ [(k, u', l')]).length * 2 = (P.length + 1) * 2 := by simp
      have e2 : cellsS (P ++ [(k, u', l')]) = (cellsS (P ++ [(k, u, l)])).set (P.length * 2 + 1) u' := by
        rw [cellsS_snoc, cellsS_snoc, List.set_append_right _ _ (by rw [cellsS_length]; omega), cellsS_length]
        simp
      rw [e1, e2, ← ht, Array.toList_setIfInBounds, List.take_set]
    · intro r hr
      rcases List.mem_append.1 hr with hr | hr
      · exact (hP r hr).set ((hP r hr).apart hrow0) _ _
      · rw [List.mem_singleton.1 hr]
        exact (hu.mono hb).set (hu.apart hrow0) _ _
/-- A path in rows of its own, and the last segment's row above those of the others. -/
def LastO (w : World) (base : Nat) (v : Value) (R : List Sv) : Prop :=
  OwnS w base v R ∧ ∃ B, base ≤ B ∧ B ≤ w.heap.size ∧ ∀ P r, R = P ++ [r] → OwnU w B r.2.1 r.2.2 ∧ ∀ p ∈ P, ∀ g, p.2.1.ownBlock = some g → g < B
theorem LastO.nil (w : World) (base : Nat) (h : base ≤ w.heap.size) : LastO w base (.slice none 0 0) [] :=
  ⟨⟨World.ownsRow_nil _ _ _ _, fun r hr => by simp at hr, by simp⟩, base, Nat.le_refl _, h, fun P r e => by simp at e⟩
theorem LastO.below {w w' : World} {base : Nat} {v : Value} {R : List Sv} (h : LastO w base v R) (hb : Below w.heap.size w w') : LastO w' base v R := by
  obtain ⟨ho, B, h1, h2, h3⟩ := h
  exact ⟨ho.below hb, B, h1, Nat.le_trans h2 hb.size, fun P r e => ⟨(h3 P r e).1.below hb, (h3 P r e).2⟩⟩
/-- A new segment, with nothing in it. -/
theorem LastO.push {w w' : World} {base : Nat} {v v' : Value} {R : List Sv} {k : Int} (h : LastO w base v R) (hR : R.length + 1 ≤ 4398046511104) (h' : w'.ownsRow base 48 2 v' (R.length + 1) (cellsS R ++ [.int .i64 k, .slice none 0 0])) (hg : w.grownBy w' v.ownBlock) : LastO w' base v' (R ++ [(k, .slice none 0 0, [])]) := by
  obtain ⟨ho, B, h1, h2, h3⟩ := h
  refine ⟨OwnS.snoc ho (OwnU.nil w base) hR h' hg, w'.heap.size, Nat.le_trans (Nat.le_trans h1 h2) hg.size, Nat.le_refl _, fun P r e => ?_⟩
  obtain ⟨rfl, e2⟩ := List.append_inj' e rfl
  obtain rfl := (List.cons.inj e2).1
  exact ⟨OwnU.nil _ _, fun p hp g hgp => Nat.lt_of_lt_of_le ((ho.2.1 p hp).1.lt g hgp).2 hg.size⟩
/-- A number behind the last segment's. -/
theorem LastO.add {w w' : World} {base g n cap : Nat} {P : List Sv} {k : Int} {u u' : Value} {l : List Nat} {a : Nat} (h : LastO w base (.slice (some ⟨g, 0, none⟩) n cap) (P ++ [(k, u, l)])) (ha : a < 4294967296) (hl : l.length + 1 ≤ 35184372088832)
    (B : Nat) (hB : OwnU w B u l ∧ base ≤ B ∧ B ≤ w.heap.size ∧ ∀ p ∈ P, ∀ g, p.2.1.ownBlock = some g → g < B) (h' : w'.ownsRow B 23 1 u' (l.length + 1) (cellsU l ++ [.int .u32 (a : Int)])) (hg : w.grownBy w' u.ownBlock) :
    LastO (w'.setCell ⟨g, P.length * 2 + 1, none⟩ u') base (.slice (some ⟨g, 0, none⟩) n cap) (P ++ [(k, u', l ++ [a])]) := by
  obtain ⟨ho, _⟩ := h
  obtain ⟨b1, b2, b3, b4⟩ := hB
  have hu : OwnU w' B u' (l ++ [a]) := ⟨by rw [cellsU_snoc, List.length_append]; exact h', by
    intro x hx
    rcases List.mem_append.1 hx with hx | hx
    · exact b1.2.1 x hx
    · rw [List.mem_singleton.1 hx]; exact ha, by simp; omega⟩
  have hpn : ∀ p ∈ P, p.2.1.ownBlock = none ∨ p.2.1.ownBlock ≠ u.ownBlock := fun p hp => by
    cases hpb : p.2.1.ownBlock with
    | none => exact Or.inl rfl
    | some x =>
      right
      intro e
      have h1 := b4 p hp x hpb
      have h2 := (b1.1.lt x e.symm).1
      omega
  have hrow : w'.ownsRow base 48 2 (.slice (some ⟨g, 0, none⟩) n cap) (P.length + 1) (cellsS (P ++ [(k, u, l)])) := by
    have h1 := ho.1
    rw [List.length_append] at h1
    refine World.ownsRow.kept h1 hg ?_
    rcases owns_apart h1 b1.1 (by decide) with e | e
    · exact Or.inl e
    · exact Or.inr e
  have hP : ∀ p ∈ P, OwnU w' base p.2.1 p.2.2 := fun p hp => (ho.2.1 p (List.mem_append_left _ hp)).kept hg (hpn p hp)
  have hlen : P.length + 1 ≤ 4398046511104 := by have := ho.2.2; simpa using this
  refine ⟨OwnS.setLast hrow hP hlen hu b2, B, b2, by
    have := hg.size
    rw [show (w'.setCell ⟨g, P.length * 2 + 1, none⟩ u').heap.size = w'.heap.size by simp]
    omega, fun P' r e => ?_⟩
  obtain ⟨rfl, e2⟩ := List.append_inj' e rfl
  obtain rfl := (List.cons.inj e2).1
  exact ⟨hu.set (hu.apart hrow) _ _, b4⟩
/-- What is read of the last segment. -/
theorem LastO.cells {w : World} {base : Nat} {v : Value} {P : List Sv} {k : Int} {u : Value} {l : List Nat} (h : LastO w base v (P ++ [(k, u, l)])) : ∃ g cap ad m, v = .slice (some ⟨g, 0, none⟩) (P.length + 1) cap ∧ base ≤ g ∧ u = .slice ad l.length m ∧ w.cell? ⟨g, P.length * 2 + 1, none⟩ = some u ∧ w.frozen? ⟨g, P.length * 2 + 1, none⟩ = false ∧ ∃ B, OwnU w B u l ∧ base ≤ B ∧ B ≤ w.heap.size ∧ ∀ p ∈ P, ∀ g, p.2.1.ownBlock = some g → g < B := by
  obtain ⟨ho, B, h1, h2, h3⟩ := h
  obtain ⟨⟨h0, hv⟩, _, _⟩ := id ho
  obtain ⟨hu, hp⟩ := h3 P _ rfl
  obtain ⟨ad, m, e⟩ := slice_of_owns hu.1
  rcases hv with ⟨_, hx⟩ | ⟨g, cap, cur, e2, hg, hh, _⟩
  · simp at hx
  · subst e2
    have hc := (ho.cells P.length (by simp)).2
    refine ⟨g, cap, ad, m, by simp, hg, e, by simpa using hc, ?_, B, hu, h1, h2, hp⟩
    simp [World.frozen?, hh]
end Go.Proofs.YtbdfigfjoiefiaaDoor

set_option linter.unusedVariables false
set_option linter.unusedSimpArgs false
set_option maxRecDepth 100000
namespace Go.Proofs.YtbdfigfjoiefiaaDoor
open Go.RowKit
theorem kindB_cases (c : UInt8) : (c.toNat = 123 ∧ kindB c = 1) ∨ (c.toNat = 60 ∧ kindB c = 2) ∨ (c.toNat = 40 ∧ kindB c = 3) ∨ (c.toNat = 91 ∧ kindB c = 4) ∨ (c.toNat ≠ 123 ∧ c.toNat ≠ 60 ∧ c.toNat ≠ 40 ∧ c.toNat ≠ 91 ∧ kindB c = 0) := by
  have e : ∀ n : Nat, n < 256 → (c = UInt8.ofNat n ↔ c.toNat = n) := fun n hn => by
    constructor
    · rintro rfl
      rw [UInt8.toNat_ofNat']
      omega
    · intro h
      rw [← h]
      simp
  unfold kindB
  by_cases h1 : c = 123
  · exact Or.inl ⟨(e 123 (by omega)).1 h1, by rw [if_pos h1]⟩
  · by_cases h2 : c = 60
    · exact Or.inr (Or.inl ⟨(e 60 (by omega)).1 h2, by rw [if_neg h1, if_pos h2]⟩)
    · by_cases h3 : c = 40
      · exact Or.inr (Or.inr (Or.inl ⟨(e 40 (by omega)).1 h3, by rw [if_neg h1, if_neg h2, if_pos h3]⟩))
      · by_cases h4 : c = 91
        · exact Or.inr (Or.inr (Or.inr (Or.inl ⟨(e 91 (by omega)).1 h4, by rw [if_neg h1, if_neg h2, if_neg h3, if_pos h4]⟩)))
        · exact Or.inr (Or.inr (Or.inr (Or.inr ⟨fun h => h1 ((e 123 (by omega)).2 h), fun h => h2 ((e 60 (by omega)).2 h), fun h => h3 ((e 40 (by omega)).2 h), fun h => h4 ((e 91 (by omega)).2 h), by rw [if_neg h1, if_neg h2, if_neg h3, if_neg h4]⟩)))
set_option maxHeartbeats 1000000 in
theorem rkind_123 (w : World) : Calls Tryd.prog 63 #[.int .u8 123] w fun e w' => e = .returned (.int .i64 1) ∧ w' = w := by
  have e1 : (⟨#[32, 123, 60, 40, 91]⟩ : ByteArray)[1].toNat = 123 := rfl
  have e2 : (⟨#[32, 123, 60, 40, 91]⟩ : ByteArray)[2].toNat = 60 := rfl
  have e3 : (⟨#[32, 123, 60, 40, 91]⟩ : ByteArray)[3].toNat = 40 := rfl
  have e4 : (⟨#[32, 123, 60, 40, 91]⟩ : ByteArray)[4].toNat = 91 := rfl
  go_enter Tryd.func63, Tryd.ntmps63
  go_wp2
  refine wp_loop_rounds 1 ?_
  rw [rounds_succ]
  go_wp2
  go_ret
  exact ⟨rfl, rfl⟩
set_option maxHeartbeats 1000000 in
theorem rkind_60 (w : World) : Calls Tryd.prog 63 #[.int .u8 60] w fun e w' => e = .returned (.int .i64 2) ∧ w' = w := by
  have e1 : (⟨#[32, 123, 60, 40, 91]⟩ : ByteArray)[1].toNat = 123 := rfl
  have e2 : (⟨#[32, 123, 60, 40, 91]⟩ : ByteArray)[2].toNat = 60 := rfl
  have e3 : (⟨#[32, 123, 60, 40, 91]⟩ : ByteArray)[3].toNat = 40 := rfl
  have e4 : (⟨#[32, 123, 60, 40, 91]⟩ : ByteArray)[4].toNat = 91 := rfl
  go_enter Tryd.func63, Tryd.ntmps63
  go_wp2
  refine wp_loop_rounds 2 ?_
  rw [rounds_succ]
  go_wp2
  rw [rounds_succ]
  go_wp2
  go_ret
  exact ⟨rfl, rfl⟩
set_option maxHeartbeats 1000000 in
theorem rkind_40 (w : World) : Calls Tryd.prog 63 #[.int .u8 40] w fun e w' => e = .returned (.int .i64 3) ∧ w' = w := by
  have e1 : (⟨#[32, 123, 60, 40, 91]⟩ : ByteArray)[1].toNat = 123 := rfl
  have e2 : (⟨#[32, 123, 60, 40, 91]⟩ : ByteArray)[2].toNat = 60 := rfl
  have e3 : (⟨#[32, 123, 60, 40, 91]⟩ : ByteArray)[3].toNat = 40 := rfl
  have e4 : (⟨#[32, 123, 60, 40, 91]⟩ : ByteArray)[4].toNat = 91 := rfl
  go_enter Tryd.func63, Tryd.ntmps63
  go_wp2
  refine wp_loop_rounds 3 ?_
  rw [rounds_succ]
  go_wp2
  rw [rounds_succ]
  go_wp2
  rw [rounds_succ]
  go_wp2
  go_ret
  exact ⟨rfl, rfl⟩
set_option maxHeartbeats 1000000 in
theorem rkind_91 (w : World) : Calls Tryd.prog 63 #[.int .u8 91] w fun e w' => e = .returned (.int .i64 4) ∧ w' = w := by
  have e1 : (⟨#[32, 123, 60, 40, 91]⟩ : ByteArray)[1].toNat = 123 := rfl
  have e2 : (⟨#[32, 123, 60, 40, 91]⟩ : ByteArray)[2].toNat = 60 := rfl
  have e3 : (⟨#[32, 123, 60, 40, 91]⟩ : ByteArray)[3].toNat = 40 := rfl
  have e4 : (⟨#[32, 123, 60, 40, 91]⟩ : ByteArray)[4].toNat = 91 := rfl
  go_enter Tryd.func63, Tryd.ntmps63
  go_wp2
  refine wp_loop_rounds 4 ?_
  rw [rounds_succ]
  go_wp2
  rw [rounds_succ]
  go_wp2
  rw [rounds_succ]
  go_wp2
  rw [rounds_succ]
  go_wp2
  go_ret
  exact ⟨rfl, rfl⟩
set_option maxHeartbeats 1000000 in
theorem rkind_no (n : Nat) (h1 : n ≠ 123) (h2 : n ≠ 60) (h3 : n ≠ 40) (h4 : n ≠ 91) (w : World) : Calls Tryd.prog 63 #[.int .u8 (n : Int)] w fun e w' => e = .returned (.int .i64 0) ∧ w' = w := by
  have a1 : ((123 : Int) == (n : Int)) = false := by simpa using fun e => h1 (by omega)
  have a2 : ((60 : Int) == (n : Int)) = false := by simpa using fun e => h2 (by omega)
  have a3 : ((40 : Int) == (n : Int)) = false := by simpa using fun e => h3 (by omega)
  have a4 : ((91 : Int) == (n : Int)) = false := by simpa using fun e => h4 (by omega)
  have b1 : ¬ (123 : Int) = (n : Int) := by omega
  have b2 : ¬ (60 : Int) = (n : Int) := by omega
  have b3 : ¬ (40 : Int) = (n : Int) := by omega
  have b4 : ¬ (91 : Int) = (n : Int) := by omega
  clear h1 h2 h3 h4
  have e1 : (⟨#[32, 123, 60, 40, 91]⟩ : ByteArray)[1].toNat = 123 := rfl
  have e2 : (⟨#[32, 123, 60, 40, 91]⟩ : ByteArray)[2].toNat = 60 := rfl
  have e3 : (⟨#[32, 123, 60, 40, 91]⟩ : ByteArray)[3].toNat = 40 := rfl
  have e4 : (⟨#[32, 123, 60, 40, 91]⟩ : ByteArray)[4].toNat = 91 := rfl
  go_enter Tryd.func63, Tryd.ntmps63
  go_wp2
  refine wp_loop_rounds 5 ?_
  rw [rounds_succ]
  go_wp2
  rw [rounds_succ]
  go_wp2
  rw [rounds_succ]
  go_wp2
  rw [rounds_succ]
  go_wp2
  rw [rounds_succ]
  go_wp2
  go_ret
  exact ⟨rfl, rfl⟩
theorem rkind_any (c : UInt8) (w : World) : Calls Tryd.prog 63 #[.int .u8 (c.toNat : Int)] w fun e w' => e = .returned (.int .i64 (kindB c : Int)) ∧ w' = w := by
  rcases kindB_cases c with ⟨h, k⟩ | ⟨h, k⟩ | ⟨h, k⟩ | ⟨h, k⟩ | ⟨h1, h2, h3, h4, k⟩
  · rw [h, k]; exact rkind_123 w
  · rw [h, k]; exact rkind_60 w
  · rw [h, k]; exact rkind_40 w
  · rw [h, k]; exact rkind_91 w
  · rw [k]; exact rkind_no _ h1 h2 h3 h4 w
end Go.Proofs.YtbdfigfjoiefiaaDoor
