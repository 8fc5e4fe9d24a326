/-
  What waits, as the law keeps it: a list in memory that is gone through from its first place and put to at its end; the reference's Jitter.
-/
import Derived.Test.YtjgnnbbimkhjjaaA2
import Derived.ArgAppend
set_option linter.unusedSimpArgs false
set_option maxRecDepth 100000
namespace Go.Proofs.Ytjgnnbbimkhjjaa
open Go.RowKit
/-- Numbers of 32 bits in a list of one's own, which lies in a block from B on that is not p. -/
structure QOk (w : World) (B p g off cap : Nat) (L : List Nat) : Prop where
  le : L.length ≤ cap
  low : B ≤ g
  lt : g < w.heap.size
  ne : g ≠ p
  cell : ∀ (j : Nat) (hj : j < L.length), w.cell? ⟨g, off + j, none⟩ = some (.int .u32 (L[j] : Int))
  room : ∀ j, j < cap → (w.cell? ⟨g, off + j, none⟩).isSome = true
  hot : ∀ i, w.frozen? ⟨g, i, none⟩ = false
def QAt (w : World) (B p : Nat) (v : Value) (L : List Nat) : Prop := (v = .slice none 0 0 ∧ L = []) ∨ ∃ g off cap, v = .slice (some ⟨g, off, none⟩) L.length cap ∧ QOk w B p g off cap L
theorem QAt.nil (w : World) (B p : Nat) : QAt w B p (.slice none 0 0) [] := Or.inl ⟨rfl, rfl⟩
theorem QAt.shape {w : World} {B p : Nat} {v : Value} {L : List Nat} (h : QAt w B p v L) : ∃ ad cap, v = .slice ad L.length cap := by
  rcases h with ⟨rfl, rfl⟩ | ⟨g, off, cap, rfl, _⟩
  · exact ⟨none, 0, rfl⟩
  · exact ⟨_, _, rfl⟩
theorem QOk.kept {w w' : World} {B p g off cap : Nat} {L : List Nat} {row : Option Nat} (h : QOk w B p g off cap L) (hg : w.grownBy w' row) (hne : some g ≠ row) : QOk w' B p g off cap L := by
  have hb := hg.block g h.lt hne
  have hc : ∀ j, w'.cell? ⟨g, j, none⟩ = w.cell? ⟨g, j, none⟩ := fun j => World.cell?_of_block (w := w) (a := ⟨g, j, none⟩) hb
  refine ⟨h.le, h.low, Nat.lt_of_lt_of_le h.lt hg.size, h.ne, fun j hj => ?_, fun j hj => ?_, fun i => ?_⟩
  · rw [hc]; exact h.cell j hj
  · rw [hc]; exact h.room j hj
  · exact (World.frozen?_of_block (w := w) (a := ⟨g, i, none⟩) hb).trans (h.hot i)
/-- The draws are written: what waits is as it was. -/
theorem QAt.kept {w w' : World} {B p : Nat} {v : Value} {L : List Nat} (h : QAt w B p v L) (hg : w.grownBy w' (some p)) : QAt w' B p v L := by
  rcases h with h | ⟨g, off, cap, e, h⟩
  · exact Or.inl h
  · exact Or.inr ⟨g, off, cap, e, h.kept hg (fun e => h.ne (by injection e))⟩
theorem QAt.below {w w' : World} {B p : Nat} {v : Value} {L : List Nat} (h : QAt w B p v L) (hb : Below w.heap.size w w') : QAt w' B p v L := by
  rcases h with h | ⟨g, off, cap, e, h⟩
  · exact Or.inl h
  · exact Or.inr ⟨g, off, cap, e, h.kept (grown_of_below hb none) (by simp)⟩
theorem QAt.drew {w : World} {B p : Nat} {v : Value} {L : List Nat} (h : QAt w B p v L) : QAt w.drew B p v L := by
  rcases h with h | ⟨g, off, cap, e, ⟨h1, h2, h3, h4, h5, h6, h7⟩⟩
  · exact Or.inl h
  · exact Or.inr ⟨g, off, cap, e, ⟨h1, h2, h3, h4, h5, h6, h7⟩⟩
/-- Other draws, in a block that is there no sooner than what waits. -/
theorem QAt.other {w : World} {B p q : Nat} {v : Value} {L : List Nat} (h : QAt w B p v L) (hq : ∀ g, g < w.heap.size → g ≠ p → B ≤ g → g ≠ q) : QAt w B q v L := by
  rcases h with h | ⟨g, off, cap, e, ⟨h1, h2, h3, h4, h5, h6, h7⟩⟩
  · exact Or.inl h
  · exact Or.inr ⟨g, off, cap, e, ⟨h1, h2, h3, hq g h3 h4 h2, h5, h6, h7⟩⟩
theorem QOk.tail {w : World} {B p g off cap x : Nat} {L : List Nat} (h : QOk w B p g off cap (x :: L)) : QOk w B p g (off + 1) (cap - 1) L := by
  have hle : L.length + 1 ≤ cap := by simpa using h.le
  refine ⟨by omega, h.low, h.lt, h.ne, fun j hj => ?_, fun j hj => ?_, h.hot⟩
  · have := h.cell (j + 1) (by simpa using hj)
    rw [show off + 1 + j = off + (j + 1) by omega]
    simpa using this
  · rw [show off + 1 + j = off + (j + 1) by omega]
    exact h.room (j + 1) (by omega)
theorem QOk.end {w : World} {B p g off x : Nat} {L : List Nat} (h : QOk w B p g off 1 (x :: L)) : L = [] ∧ QOk w B p g off 0 [] := by
  have hle : L.length + 1 ≤ 1 := by simpa using h.le
  have : L = [] := List.eq_nil_of_length_eq_zero (by omega)
  exact ⟨this, Nat.zero_le _, h.low, h.lt, h.ne, fun j hj => absurd hj (by simp), fun j hj => absurd hj (by omega), h.hot⟩
theorem rjit_low {b : Int} (hb : b ≤ 0) (ad : Option Addr) (n cap : Nat) (w : World) : Calls Try.prog 10 #[.slice ad n cap, .int .i64 b] w fun e w' => e = .returned (.tuple #[.int .i64 0, .slice ad n cap]) ∧ w' = w := by
  go_enter Try.func10, Try.ntmps10
  go_wp2
  go_ret2
  exact ⟨rfl, rfl⟩
theorem rjit_nil {b : Int} (hb : ¬ b ≤ 0) (ad : Option Addr) (cap : Nat) (w : World) : Calls Try.prog 10 #[.slice ad 0 cap, .int .i64 b] w fun e w' => e = .returned (.tuple #[.int .i64 b, .slice ad 0 cap]) ∧ w' = w := by
  go_enter Try.func10, Try.ntmps10
  go_wp2
  go_ret2
  exact ⟨rfl, rfl⟩
theorem rjit_cons {b : Int} (hb1 : ¬ b ≤ 0) (hb2 : b < 9223372036854775808) {g off n cap x : Nat} {w : World} (hx : x < 4294967296) (hc : w.cell? ⟨g, off, none⟩ = some (.int .u32 (x : Int))) (hn : 0 < n) (hcap : ¬ cap = 1) : Calls Try.prog 10 #[.slice (some ⟨g, off, none⟩) n cap, .int .i64 b] w fun e w' => e = .returned (.tuple #[.int .i64 (ofI b x), .slice (some ⟨g, off + 1, none⟩) (n - 1) (cap - 1)]) ∧ w' = w.drew := by
  have HO : Hid (_ : Prop) := fun w => rof_any (b := b) hb2 hx w
  have hn' : ¬ (n : Int) = 0 := by omega
  have hn2 : (0 : Int) < (n : Int) := by omega
  have hn3 : (1 : Int) ≤ (n : Int) := by omega
  go_enter Try.func10, Try.ntmps10
  go_wp2
  go_region_held (fun w' => w'.cell? ⟨g, off, none⟩ = some (.int .u32 (x : Int))) (go_keep) (first | (go_at_call 16; refine Calls.mono (HO.out _) ?_; rintro e w4 ⟨rfl, hw4⟩; subst w4))
  go_wp2
  go_ret2
  exact ⟨rfl, rfl⟩
theorem rjit_one {b : Int} (hb1 : ¬ b ≤ 0) (hb2 : b < 9223372036854775808) {g off n x : Nat} {w : World} (hx : x < 4294967296) (hc : w.cell? ⟨g, off, none⟩ = some (.int .u32 (x : Int))) (hn : n = 1) : Calls Try.prog 10 #[.slice (some ⟨g, off, none⟩) n 1, .int .i64 b] w fun e w' => e = .returned (.tuple #[.int .i64 (ofI b x), .slice (some ⟨g, off, none⟩) 0 0]) ∧ w' = w.drew := by
  have HO : Hid (_ : Prop) := fun w => rof_any (b := b) hb2 hx w
  subst hn
  go_enter Try.func10, Try.ntmps10
  go_wp2
  go_region_held (fun w' => w'.cell? ⟨g, off, none⟩ = some (.int .u32 (x : Int))) (go_keep) (first | (go_at_call 16; refine Calls.mono (HO.out _) ?_; rintro e w4 ⟨rfl, hw4⟩; subst w4))
  go_wp2
  go_ret2
  exact ⟨rfl, rfl⟩
theorem below_drew (w : World) : Below w.heap.size w w.drew := (Below.refl _ _).drew
theorem rjit_any {b : Int} (hb2 : b < 9223372036854775808) {w : World} {B p : Nat} {v : Value} {L : List Nat} (h : QAt w B p v L) (hs : ∀ x ∈ L, x < 4294967296) :
    Calls Try.prog 10 #[v, .int .i64 b] w fun e w' => ∃ v', e = .returned (.tuple #[.int .i64 (jitI L b), v']) ∧ QAt w' B p v' (jitL L b) ∧ Below w.heap.size w w' := by
  by_cases hb : b ≤ 0
  · rw [jitI_no hb, jitL_no hb]
    obtain ⟨ad, cap, rfl⟩ := h.shape
    exact (rjit_low hb ad _ cap w).mono fun e w' ⟨he, hw⟩ => ⟨_, he, hw ▸ h, hw ▸ Below.refl _ _⟩
  · rw [jitL_pos hb]
    cases L with
    | nil =>
      rw [jitI_nil hb]
      obtain ⟨ad, cap, rfl⟩ := h.shape
      exact (rjit_nil hb ad cap w).mono fun e w' ⟨he, hw⟩ => ⟨_, he, hw ▸ h, hw ▸ Below.refl _ _⟩
    | cons x L =>
      rw [jitI_cons hb, List.tail_cons]
      have hx := hs x (by simp)
      rcases h with ⟨_, h⟩ | ⟨g, off, cap, rfl, hq⟩
      · cases h
      · have hc : w.cell? ⟨g, off, none⟩ = some (.int .u32 (x : Int)) := by have := hq.cell 0 (by simp); simpa using this
        by_cases h1 : cap = 1
        · subst h1
          obtain ⟨rfl, hq'⟩ := hq.end
          exact (rjit_one hb hb2 hx hc rfl).mono fun e w' ⟨he, hw⟩ => ⟨_, he, hw ▸ QAt.drew (Or.inr ⟨g, off, 0, rfl, hq'⟩), hw ▸ below_drew w⟩
        · exact (rjit_cons hb hb2 hx hc (by simp) h1).mono fun e w' ⟨he, hw⟩ => ⟨_, he, hw ▸ QAt.drew (Or.inr ⟨g, off + 1, cap - 1, by simp, hq.tail⟩), hw ▸ below_drew w⟩
/-- One more is put to what waits. -/
theorem QOk.put {w : World} {B p g off cap n : Nat} {L : List Nat} (h : QOk w B p g off cap L) (hr : L.length + 1 ≤ cap) :
    QOk (w.setCells g (off + L.length * 1) [.int .u32 (n : Int)]) B p g off cap (L ++ [n]) := by
  have hin := h.room L.length (by omega)
  have e1 : (w.setCells g (off + L.length * 1) [.int .u32 (n : Int)]) = w.setCell ⟨g, off + L.length, none⟩ (.int .u32 (n : Int)) := by rw [Nat.mul_one]; rfl
  rw [e1]
  obtain ⟨u, hu⟩ := Option.isSome_iff_exists.1 hin
  refine ⟨by simpa using hr, h.low, by simpa [World.setCell] using h.lt, h.ne, fun j hj => ?_, fun j hj => ?_, fun i => by simpa using h.hot i⟩
  · by_cases e : j = L.length
    · subst e
      rw [List.getElem_append_right (Nat.le_refl _)]
      simpa using World.cell?_setCell_same w _ _ hu
    · have hj' : j < L.length := by simp at hj; omega
      rw [List.getElem_append_left hj', World.cell?_setCell_other _ _ _ _ (fun h => e (by injection h; omega))]
      exact h.cell j hj'
  · by_cases e : j = L.length
    · subst e
      rw [World.cell?_setCell_same w _ _ hu]; rfl
    · rw [World.cell?_setCell_other _ _ _ _ (fun h => e (by injection h; omega))]
      exact h.room j hj
/-- What waits was laid anew. -/
theorem QAt.fresh {w : World} {B p base : Nat} {v : Value} {L : List Nat} (ho : w.ownsRow base 26 1 v L.length (L.map fun x : Nat => Value.int .u32 (x : Int))) (hB : B ≤ base) (hp : p < base) : QAt w B p v L := by
  obtain ⟨h0, ⟨h1, h2⟩ | ⟨g, cap, cur, hv, hb, hg, hle, hm, hs, ht⟩⟩ := ho
  · exact Or.inl ⟨h1, List.eq_nil_of_length_eq_zero h2⟩
  · refine Or.inr ⟨g, 0, cap, hv, hle, by omega, ?_, by omega, fun j hj => ?_, fun j hj => ?_, fun i => ?_⟩
    · rcases Nat.lt_or_ge g w.heap.size with h | h
      · exact h
      · rw [Array.getElem?_eq_none h] at hg; cases hg
    · rw [Nat.zero_add, cell_of_row w g j cur 26 _ hg]
      have h3 := congrArg (fun l : List Value => l[j]?) ht
      rw [List.getElem?_take_of_lt (by omega)] at h3
      rw [← Array.getElem?_toList, h3]
      simp [hj]
    · rw [Nat.zero_add, cell_of_row w g j cur 26 _ hg, Array.getElem?_eq_getElem (by omega)]
      rfl
    · simp only [World.frozen?, hg]
      simp
end Go.Proofs.Ytjgnnbbimkhjjaa
