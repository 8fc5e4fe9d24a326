/-
  works: two timers, the one moved.
-/
import Derived.Test.YtgplhdhnailpfaaF1
set_option linter.unusedSimpArgs false
set_option maxRecDepth 100000
namespace Go.Proofs.Ytgplhdhnailpfaa
open Go.RowKit Go.Maps
/-- The two keys of the example. -/
def exA : Ky := ⟨2, ⟨#[97]⟩, 0, by decide, by decide, by decide⟩
def exB : Ky := ⟨1, ⟨#[98]⟩, 0, by decide, by decide, by decide⟩
theorem ex_may : mayK exA = true ∧ mayK exB = true := by decide
theorem ex_ne : exA ≠ exB := fun e => by have := congrArg Ky.kind e; exact absurd this (by decide)
theorem ex1 : armE [] exA 9 = 0 := armE_ok ex_may.1 (by decide) (Or.inr (by decide))
theorem ex1' : armI [] exA 9 = [⟨9, exA⟩] := by rw [armI_ok ex1]; rfl
theorem ex2 : armE [⟨9, exA⟩] exB 5 = 0 := armE_ok ex_may.2 (by decide) (Or.inr (by decide))
theorem fl : fltB ⟨5, exB⟩ ⟨9, exA⟩ = true := fltB_iff.2 (Or.inl (by decide))
theorem ex2' : armI [⟨9, exA⟩] exB 5 = [⟨5, exB⟩, ⟨9, exA⟩] := by
  rw [armI_ok ex2]
  have : without [⟨9, exA⟩] exB = [⟨9, exA⟩] := by
    unfold without
    rw [List.filter_cons, keyB_ne ex_ne]; rfl
  unfold armed
  rw [this]
  unfold insF
  rw [fl]
  rfl
theorem ex3 : armE [⟨5, exB⟩, ⟨9, exA⟩] exA 4 = 0 := armE_ok ex_may.1 (by decide) (Or.inr (by decide))
theorem ex3' : armI [⟨5, exB⟩, ⟨9, exA⟩] exA 4 = [⟨4, exA⟩, ⟨5, exB⟩] := by
  rw [armI_ok ex3]
  have : without [⟨5, exB⟩, ⟨9, exA⟩] exA = [⟨5, exB⟩] := by
    unfold without
    rw [List.filter_cons, keyB_ne ex_ne.symm, List.filter_cons, keyB_self]; rfl
  unfold armed
  rw [this]
  unfold insF
  rw [fltB_iff.2 (show flt ⟨4, exA⟩ ⟨5, exB⟩ from Or.inl (by decide))]
  rfl
theorem ex4 : dueF [⟨4, exA⟩, ⟨5, exB⟩] 6 = [⟨4, exA⟩, ⟨5, exB⟩] ∧ leftF [⟨4, exA⟩, ⟨5, exB⟩] 6 = [] := by
  constructor <;> rfl
theorem own_cellF {w : World} {base : Nat} {g cap n : Nat} {l : List Value} (h : w.ownsRow base 48 4 (.slice (some ⟨g, 0, none⟩) n cap) n l) (t : Nat) (ht : t < n * 4) : w.cell? ⟨g, t, none⟩ = l[t]? := by
  obtain ⟨h0, ⟨h1, h2⟩ | ⟨g', cap', cur, e, hg, hk, h1, h2, h3, h4⟩⟩ := h
  · omega
  · injection e with e _ _
    injection e with e
    injection e with e
    subst e
    have hsz : t < cur.size := by rw [h3]; exact Nat.lt_of_lt_of_le ht (Nat.mul_le_mul_right 4 h1)
    rw [← h4, List.getElem?_take_of_lt ht]
    simp [World.cell?, hk, hsz]
set_option maxHeartbeats 2000000 in
theorem works_any (w : World) : Calls Try.prog 22 #[] w fun e w' => e = .returned (.bool true) ∧ Below w.heap.size w w' := by
  have HKA : Hid (∀ W, Calls Try.prog 25 #[.int .i64 2, .string ⟨#[97]⟩, .int .i64 0] W fun e w' => e = .returned (.agg #[.int .i64 2, .string ⟨#[97]⟩, .int .i64 0]) ∧ Grw W w') := fun W => key_any _ _ _ W
  have HKB : Hid (∀ W, Calls Try.prog 25 #[.int .i64 1, .string ⟨#[98]⟩, .int .i64 0] W fun e w' => e = .returned (.agg #[.int .i64 1, .string ⟨#[98]⟩, .int .i64 0]) ∧ Grw W w') := fun W => key_any _ _ _ W
  have HA1 : Hid (∀ p b W, WhAt W p b [] → Calls Try.prog 10 #[.pointer (some ⟨p, 0, none⟩), .agg #[.int .i64 2, .string ⟨#[97]⟩, .int .i64 0], .int .u64 9] W fun e w' => e = .returned (.int .i64 0) ∧ WhAt w' p b [⟨9, exA⟩] ∧ W.grownBy w' (some b)) := fun p b W h => by
    have := arm_any h exA 9 (by decide)
    rw [ex1, ex1'] at this
    exact this
  have HA2 : Hid (∀ p b W, WhAt W p b [⟨9, exA⟩] → Calls Try.prog 10 #[.pointer (some ⟨p, 0, none⟩), .agg #[.int .i64 1, .string ⟨#[98]⟩, .int .i64 0], .int .u64 5] W fun e w' => e = .returned (.int .i64 0) ∧ WhAt w' p b [⟨5, exB⟩, ⟨9, exA⟩] ∧ W.grownBy w' (some b)) := fun p b W h => by
    have := arm_any h exB 5 (by decide)
    rw [ex2, ex2'] at this
    exact this
  have HA3 : Hid (∀ p b W, WhAt W p b [⟨5, exB⟩, ⟨9, exA⟩] → Calls Try.prog 10 #[.pointer (some ⟨p, 0, none⟩), .agg #[.int .i64 2, .string ⟨#[97]⟩, .int .i64 0], .int .u64 4] W fun e w' => e = .returned (.int .i64 0) ∧ WhAt w' p b [⟨4, exA⟩, ⟨5, exB⟩] ∧ W.grownBy w' (some b)) := fun p b W h => by
    have := arm_any h exA 4 (by decide)
    rw [ex3, ex3'] at this
    exact this
  have HT : Hid (∀ p b W, WhAt W p b [⟨4, exA⟩, ⟨5, exB⟩] → Calls Try.prog 16 #[.pointer (some ⟨p, 0, none⟩), .int .u64 6] W fun e w' => ∃ v, e = .returned v ∧ OwnF w' W.heap.size v [⟨4, exA⟩, ⟨5, exB⟩] ∧ WhAt w' p b [] ∧ W.grownBy w' (some b)) := fun p b W h => by
    have := take_any h 6 (by decide)
    rw [ex4.1, ex4.2] at this
    exact this
  go_enter Try.func22, Try.ntmps22
  go_wp2_with fail
  refine (new_any _).mono ?_
  rintro e w1 ⟨rfl, hw1, hb1⟩
  have HB1 : Hid (Below w.heap.size w w1) := hb1
  have HP : Hid (w.heap.size + 1 ≠ w.heap.size) := by unfold Hid; omega
  generalize hp : w.heap.size + 1 = p at *
  have HPP : Hid (w.heap.size ≤ p) := by unfold Hid; omega
  generalize hb : w.heap.size = b at hw1
  have HBB : Hid (w.heap.size = b) := hb
  clear hp hb hb1
  go_wp2_with fail
  refine Calls.mono (HKA.out _) ?_
  rintro e w2 ⟨rfl, hg2⟩
  have hw2 := hw1.below hg2.bel
  have HB2 : Hid (Below w.heap.size w w2) := HB1.out.trans (hg2.bel.mono HB1.out.size)
  clear hg2 hw1
  go_wp2_with fail
  refine Calls.mono (HA1.out p b _ hw2) ?_
  rintro e w3 ⟨rfl, hw3, hg3⟩
  have HB3 : Hid (Below w.heap.size w w3) := HB2.out.grown hg3 HB2.out.size (fun k e => by cases e; rw [HBB.out]; exact Nat.le_refl _)
  clear hg3 hw2
  go_wp2_with fail
  refine Calls.mono (HKB.out _) ?_
  rintro e w4 ⟨rfl, hg4⟩
  have hw4 := hw3.below hg4.bel
  have HB4 : Hid (Below w.heap.size w w4) := HB3.out.trans (hg4.bel.mono HB3.out.size)
  clear hg4 hw3
  go_wp2_with fail
  refine Calls.mono (HA2.out p b _ hw4) ?_
  rintro e w5 ⟨rfl, hw5, hg5⟩
  have HB5 : Hid (Below w.heap.size w w5) := HB4.out.grown hg5 HB4.out.size (fun k e => by cases e; rw [HBB.out]; exact Nat.le_refl _)
  clear hg5 hw4
  go_wp2_with fail
  refine Calls.mono (HKA.out _) ?_
  rintro e w6 ⟨rfl, hg6⟩
  have hw6 := hw5.below hg6.bel
  have HB6 : Hid (Below w.heap.size w w6) := HB5.out.trans (hg6.bel.mono HB5.out.size)
  clear hg6 hw5
  go_wp2_with fail
  refine Calls.mono (HA3.out p b _ hw6) ?_
  rintro e w7 ⟨rfl, hw7, hg7⟩
  have HB7 : Hid (Below w.heap.size w w7) := HB6.out.grown hg7 HB6.out.size (fun k e => by cases e; rw [HBB.out]; exact Nat.le_refl _)
  clear hg7 hw6
  go_wp2_with fail
  refine Calls.mono (HT.out p b _ hw7) ?_
  rintro e w8 ⟨v, rfl, ho8, hw8, hg8⟩
  have HB8 : Hid (Below w.heap.size w w8) := HB7.out.grown hg8 HB7.out.size (fun k e => by cases e; rw [HBB.out]; exact Nat.le_refl _)
  have hw9 : ∀ n, WhAt (w8.drewN n) p b [] := fun n => hw8.below (below_drewN (Below.refl _ _) n)
  obtain ⟨g, cap, rfl⟩ : ∃ g cap, v = .slice (some ⟨g, 0, none⟩) 2 cap := by
    obtain ⟨_, ⟨_, h0⟩ | ⟨g, cap, cur, h, _⟩⟩ := id ho8
    · cases h0
    · exact ⟨g, cap, h⟩
  have HC : Hid (∀ t, t < 8 → w8.cell? ⟨g, t, none⟩ = (cellsF [⟨4, exA⟩, ⟨5, exB⟩])[t]?) := fun t ht => own_cellF ho8 t ht
  have HW : Hid (_ : Prop) := hw8
  clear hg8 hw7 ho8 hw8
  obtain ⟨S, hS⟩ : ∃ S : World → Prop, S = fun wx => Grw w8 wx := ⟨_, rfl⟩
  have hs0 : Held S w8.drew := by unfold Held; rw [hS]; exact (Grw.refl _).drew
  have HZZ : Hid (∀ w', Held S w' → Below w.heap.size w w') := fun w' h => by unfold Held at h; rw [hS] at h; exact HB8.out.trans (h.bel.mono HB8.out.size)
  have HCC : Hid (∀ w', Held S w' → ∀ t v, w8.cell? ⟨g, t, none⟩ = some v → w'.cell? ⟨g, t, none⟩ = some v) := fun w' h t v e => by unfold Held at h; rw [hS] at h; exact cell2 h.bel e
  have M1 : Hid (∀ w', Held S w' → Calls Try.prog 25 #[.int .i64 2, .string ⟨#[97]⟩, .int .i64 0] w' fun e w2 => e = .returned (.agg #[.int .i64 2, .string ⟨#[97]⟩, .int .i64 0]) ∧ Held S w2) := fun w' h => by
    unfold Held at *; rw [hS] at *; exact (HKA.out w').mono fun e w2 ⟨he, hg⟩ => ⟨he, h.trans hg⟩
  have M2 : Hid (∀ w', Held S w' → Calls Try.prog 25 #[.int .i64 1, .string ⟨#[98]⟩, .int .i64 0] w' fun e w2 => e = .returned (.agg #[.int .i64 1, .string ⟨#[98]⟩, .int .i64 0]) ∧ Held S w2) := fun w' h => by
    unfold Held at *; rw [hS] at *; exact (HKB.out w').mono fun e w2 ⟨he, hg⟩ => ⟨he, h.trans hg⟩
  have M3 : Hid (∀ w', Held S w' → Calls Try.prog 20 #[.pointer (some ⟨p, 0, none⟩)] w' fun e w2 => e = .returned (.int .i64 0) ∧ w2 = w') := fun w' h => by
    unfold Held at *; rw [hS] at *; exact len_any (HW.out.below h.bel)
  have HAL : Hid (∀ w', Held S w' → Held S w'.drew) := fun w' h => by unfold Held at *; rw [hS] at *; exact h.drew
  have k0 : ∀ w', Held S w' → w'.cell? ⟨g, 0, none⟩ = some (.int .u64 4) := fun w' h => HCC.out w' h 0 _ (HC.out 0 (by decide))
  have k1 : ∀ w', Held S w' → w'.cell? ⟨g, 1, none⟩ = some (.int .i64 2) := fun w' h => HCC.out w' h 1 _ (HC.out 1 (by decide))
  have k2 : ∀ w', Held S w' → w'.cell? ⟨g, 2, none⟩ = some (.string ⟨#[97]⟩) := fun w' h => HCC.out w' h 2 _ (HC.out 2 (by decide))
  have k3 : ∀ w', Held S w' → w'.cell? ⟨g, 3, none⟩ = some (.int .i64 0) := fun w' h => HCC.out w' h 3 _ (HC.out 3 (by decide))
  have k4 : ∀ w', Held S w' → w'.cell? ⟨g, 4, none⟩ = some (.int .u64 5) := fun w' h => HCC.out w' h 4 _ (HC.out 4 (by decide))
  have k5 : ∀ w', Held S w' → w'.cell? ⟨g, 5, none⟩ = some (.int .i64 1) := fun w' h => HCC.out w' h 5 _ (HC.out 5 (by decide))
  have k6 : ∀ w', Held S w' → w'.cell? ⟨g, 6, none⟩ = some (.string ⟨#[98]⟩) := fun w' h => HCC.out w' h 6 _ (HC.out 6 (by decide))
  have k7 : ∀ w', Held S w' → w'.cell? ⟨g, 7, none⟩ = some (.int .i64 0) := fun w' h => HCC.out w' h 7 _ (HC.out 7 (by decide))
  clear hS HKA HKB HA1 HA2 HA3 HT hw9
  go_wp2_with fail
  go_region_held3 (fun w' => Held S w') (first | (with_reducible assumption) | (refine HAL.out _ ?_; with_reducible assumption))
    (first | (go_at_call 20; refine (M3.out _ (by with_reducible assumption)).mono ?_; rintro e wq ⟨rfl, hwq⟩; subst wq) | (go_at_call 25; first | (refine (M1.out _ (by with_reducible assumption)).mono ?_; rintro e wa ⟨rfl, sA⟩) | (refine (M2.out _ (by with_reducible assumption)).mono ?_; rintro e wb ⟨rfl, sB⟩)))
  go_wp2
  go_ret
  exact ⟨rfl, HZZ.out _ (by with_reducible assumption)⟩
end Go.Proofs.Ytgplhdhnailpfaa
