/-
  The walk of DrawKnown.
-/
import Derived.Test.YtjgnnbbimkhjjaaA2
set_option linter.unusedSimpArgs false
set_option maxRecDepth 100000
namespace Go.Proofs.Ytjgnnbbimkhjjaa
open Go.RowKit
theorem NoD.kept {w w' : World} {p q : Nat} (h : NoD w (some ⟨q, 0, none⟩)) (hg : w.grownBy w' (some p)) (hne : q ≠ p) : NoD w' (some ⟨q, 0, none⟩) := by
  rcases h with h | ⟨r, e, hc⟩
  · cases h
  · injection e with e
    injection e with e
    subst e
    exact Or.inr ⟨q, rfl, hg.cell hc (fun e => hne (by injection e))⟩
theorem NoD.below {w w' : World} {q : Nat} (h : NoD w (some ⟨q, 0, none⟩)) (hb : Below w.heap.size w w') : NoD w' (some ⟨q, 0, none⟩) := by
  rcases h with h | ⟨r, e, hc⟩
  · cases h
  · injection e with e
    injection e with e
    subst e
    exact Or.inr ⟨q, rfl, (grown_of_below hb none).cell hc (by simp)⟩
/-- What stands in memory: draws, a zero one. -/
structure KnAt (w wr : World) (p q : Nat) (L : List Nat) : Prop where
  d : DAt wr p L
  z : NoD wr (some ⟨q, 0, none⟩)
  bel : Below w.heap.size w wr
set_option maxHeartbeats 8000000 in
theorem known_walk (w : World) : Calls Try.prog 7 #[] w fun e w' => e = .returned (.bool true) ∧ Below w.heap.size w w' := by
  have HW : Hid (_ : Prop) := fun w => works_any w
  have HP1 : Hid (∀ p W, DAt W p (List.range 64) → Calls Try.prog 9 #[.pointer (some ⟨p, 0, none⟩), .int .u32 1] W fun e w' => e = .returned (.int .i64 7) ∧ w' = W) := fun p W h => push_full h (by simp) 1
  have HLF : Hid (∀ p W, DAt W p (List.range 64) → Calls Try.prog 13 #[.pointer (some ⟨p, 0, none⟩)] W fun e w' => e = .returned (.int .i64 64) ∧ w' = W) := fun p W h => by have := left_any h; rwa [List.length_range] at this
  have HJ1 : Hid (∀ p W, DAt W p (List.range 64) → Calls Try.prog 11 #[.pointer (some ⟨p, 0, none⟩), .int .i64 100] W fun e w' => e = .returned (.int .i64 75) ∧ DAt w' p ((List.range 64).tail) ∧ W.grownBy w' (some p)) := fun p W h => jitter_any (b := 100) (by decide) h
  have HP2 : Hid (∀ p W, DAt W p ((List.range 64).tail) → Calls Try.prog 9 #[.pointer (some ⟨p, 0, none⟩), .int .u32 1] W fun e w' => e = .returned (.int .i64 0) ∧ DAt w' p ((List.range 64).tail ++ [1]) ∧ W.grownBy w' (some p)) := fun p W h => push_ok h (by decide) (n := 1) (by decide)
  have HO1 : Hid (∀ W, Calls Try.prog 15 #[.int .i64 100, .int .u32 26] W fun e w' => e = .returned (.int .i64 75) ∧ w' = W) := fun W => of_any (b := 100) (n := 26) (by decide) (by decide) W
  have HO2 : Hid (∀ W, Calls Try.prog 15 #[.int .i64 90, .int .u32 10] W fun e w' => e = .returned (.int .i64 76) ∧ w' = W) := fun W => of_any (b := 90) (n := 10) (by decide) (by decide) W
  have HO3 : Hid (∀ W, Calls Try.prog 15 #[.int .i64 1, .int .u32 0] W fun e w' => e = .returned (.int .i64 1) ∧ w' = W) := fun W => of_any (b := 1) (n := 0) (by decide) (by decide) W
  have HO4 : Hid (∀ W, Calls Try.prog 15 #[.int .i64 0, .int .u32 5] W fun e w' => e = .returned (.int .i64 0) ∧ w' = W) := fun W => of_any (b := 0) (n := 5) (by decide) (by decide) W
  have HO5 : Hid (∀ W, Calls Try.prog 15 #[.int .i64 (-7), .int .u32 5] W fun e w' => e = .returned (.int .i64 0) ∧ w' = W) := fun W => of_any (b := -7) (n := 5) (by decide) (by decide) W
  have HO6 : Hid (∀ W, Calls Try.prog 15 #[.int .i64 9223372036854775807, .int .u32 25] W fun e w' => e = .returned (.int .i64 9223372036854775807) ∧ w' = W) := fun W => of_any (b := 9223372036854775807) (n := 25) (by decide) (by decide) W
  have HN1 : Hid (∀ W a, NoD W a → Calls Try.prog 9 #[.pointer a, .int .u32 1] W fun e w' => e = .returned (.int .i64 1) ∧ w' = W) := fun W a h => push_no h 1
  have HN2 : Hid (∀ W a, NoD W a → Calls Try.prog 11 #[.pointer a, .int .i64 9] W fun e w' => e = .returned (.int .i64 9) ∧ w' = W) := fun W a h => jitter_no (b := 9) h
  have HN3 : Hid (∀ W a, NoD W a → Calls Try.prog 11 #[.pointer a, .int .i64 (-9)] W fun e w' => e = .returned (.int .i64 0) ∧ w' = W) := fun W a h => jitter_no (b := -9) h
  have HN4 : Hid (∀ W a, NoD W a → Calls Try.prog 13 #[.pointer a] W fun e w' => e = .returned (.int .i64 0) ∧ w' = W) := fun W a h => left_no h
  have HN5 : Hid (∀ W a, NoD W a → Calls Try.prog 12 #[.pointer a] W fun e w' => e = .returned (.pointer none) ∧ w' = W) := fun W a h => copy_no h
  obtain ⟨Z, hZ⟩ : ∃ Z, Z = zer.toArray := ⟨_, rfl⟩
  have hz := fun w => zero42 w
  have hne : Z ≠ #[] := by rw [hZ]; intro h; exact absurd (congrArg Array.size h) (by decide)
  rw [← hZ] at hz
  have HZ : Hid (Z[0]? = some (.bool false)) := by unfold Hid; rw [hZ]; rfl
  clear hZ
  go_enter Try.func7, Try.ntmps7
  go_wp2_with fail
  refine (new_any _).mono ?_
  rintro e w2 ⟨rfl, h2, hb2'⟩
  have HB2 : Hid (Below w.heap.size w w2) := hb2'
  generalize hp : w.heap.size = p at h2 ⊢
  have HP : Hid (w.heap.size ≤ p) := by unfold Hid; omega
  have HD2 : Hid (DAt w2 p []) := h2
  rw [hp] at HB2
  clear hb2' h2
  go_wp2_with fail
  go_loopw [2] (fun i wr => ∃ k : Nat, k ≤ 64 ∧ i = .int .i64 (k : Int) ∧ DAt wr p (List.range k) ∧ Below p w wr) (fun i _ => 64 - (intOf i).toNat)
  case atStart => exact ⟨0, Nat.zero_le _, rfl, HD2.out, HB2.out⟩
  case round =>
    obtain ⟨k, hk, rfl, hd, hb⟩ := hrel
    have HD : Hid (DAt wr p (List.range k)) := hd
    have HB : Hid (Below p w wr) := hb
    clear hd hb
    by_cases hlt : k < 64
    · have hlt' : (k : Int) < 64 := by omega
      have HPU : Hid (Calls Try.prog 9 #[.pointer (some ⟨p, 0, none⟩), .int .u32 (k : Int)] wr fun e w' => e = .returned (.int .i64 0) ∧ DAt w' p (List.range (k + 1)) ∧ wr.grownBy w' (some p)) := by
        have := push_ok HD.out (by rw [List.length_range]; omega) (n := k) (by omega)
        rwa [← List.range_succ] at this
      go_wp2_with (go_at_call 9; refine Calls.mono HPU.out ?_; rintro e w3 ⟨rfl, h3, hg3⟩)
      go_roundw
      case rel => exact ⟨k + 1, by omega, by go_num, h3, HB.out.grown hg3 (by have h1 := HB.out.size; rw [hp] at h1; exact h1) (fun j e => by cases e; exact Nat.le_refl _)⟩
      case measure => simp [intOf]; omega
    · obtain rfl : k = 64 := by omega
      have HPS : Hid (p ≤ wr.heap.size ∧ p < wr.heap.size) := ⟨Nat.le_of_lt HD.out.lt, HD.out.lt⟩
      clear hlt hk HD2 HB2
      go_wp2_with fail
      refine Calls.mono (HP1.out p _ HD.out) ?_
      rintro e w3 ⟨rfl, hw3⟩
      subst w3
      go_wp2_with fail
      refine Calls.mono (HW.out _) ?_
      rintro e w4 ⟨rfl, hb4⟩
      have HK4 : Hid (KnAt w w4 p wr.heap.size (List.range 64)) := by
        have h1 : DAt (wr.alloc (.cells Z 42)) p (List.range 64) := HD.out.below ((Below.refl _ _).alloc (Nat.le_refl _) _)
        have h2 : NoD (wr.alloc (.cells Z 42)) (some ⟨wr.heap.size, 0, none⟩) := Or.inr ⟨_, rfl, by rw [cellA_new]; exact HZ.out⟩
        have h3 : Below w.heap.size w (wr.alloc (.cells Z 42)) := by rw [hp]; exact HB.out.alloc HPS.out.1 _
        exact ⟨h1.below hb4, h2.below hb4, h3.trans (hb4.mono h3.size)⟩
      have HQ : Hid (p ≠ wr.heap.size) := by unfold Hid; have := HPS.out; omega
      generalize wr.heap.size = q at *
      clear hb4 HD HB HPS hz hne HZ HW
      go_wp2_with fail
      refine Calls.mono (HLF.out p _ HK4.out.d) ?_
      rintro e wx ⟨rfl, hwx⟩
      subst wx
      go_wp2_with fail
      refine Calls.mono (HJ1.out p _ HK4.out.d) ?_
      rintro e w5 ⟨rfl, hd, hg⟩
      have HKw5 : Hid (KnAt w w5 p q ((List.range 64).tail)) := ⟨hd, HK4.out.z.kept hg (fun e => HQ.out e.symm), HK4.out.bel.grown hg HK4.out.bel.size (fun j e => by cases e; exact HP.out)⟩
      clear hd hg HK4
      go_wp2_with fail
      refine Calls.mono (HP2.out p _ HKw5.out.d) ?_
      rintro e w6 ⟨rfl, hd, hg⟩
      have HKw6 : Hid (KnAt w w6 p q ((List.range 64).tail ++ [1])) := ⟨hd, HKw5.out.z.kept hg (fun e => HQ.out e.symm), HKw5.out.bel.grown hg HKw5.out.bel.size (fun j e => by cases e; exact HP.out)⟩
      clear hd hg HKw5
      go_wp2_with fail
      refine Calls.mono (HO1.out _) ?_
      rintro e wx ⟨rfl, hwx⟩
      subst wx
      go_wp2_with fail
      refine Calls.mono (HO2.out _) ?_
      rintro e wx ⟨rfl, hwx⟩
      subst wx
      go_wp2_with fail
      refine Calls.mono (HO3.out _) ?_
      rintro e wx ⟨rfl, hwx⟩
      subst wx
      go_wp2_with fail
      refine Calls.mono (HO4.out _) ?_
      rintro e wx ⟨rfl, hwx⟩
      subst wx
      go_wp2_with fail
      refine Calls.mono (HO5.out _) ?_
      rintro e wx ⟨rfl, hwx⟩
      subst wx
      go_wp2_with fail
      refine Calls.mono (HO6.out _) ?_
      rintro e wx ⟨rfl, hwx⟩
      subst wx
      go_wp2_with fail
      refine Calls.mono (HN1.out _ _ (Or.inl rfl)) ?_
      rintro e wx ⟨rfl, hwx⟩
      subst wx
      go_wp2_with fail
      refine Calls.mono (HN1.out _ _ HKw6.out.z) ?_
      rintro e wx ⟨rfl, hwx⟩
      subst wx
      go_wp2_with fail
      refine Calls.mono (HN2.out _ _ (Or.inl rfl)) ?_
      rintro e wx ⟨rfl, hwx⟩
      subst wx
      go_wp2_with fail
      refine Calls.mono (HN3.out _ _ (Or.inl rfl)) ?_
      rintro e wx ⟨rfl, hwx⟩
      subst wx
      go_wp2_with fail
      refine Calls.mono (HN2.out _ _ HKw6.out.z) ?_
      rintro e wx ⟨rfl, hwx⟩
      subst wx
      go_wp2_with fail
      refine Calls.mono (HN4.out _ _ (Or.inl rfl)) ?_
      rintro e wx ⟨rfl, hwx⟩
      subst wx
      go_wp2_with fail
      refine Calls.mono (HN4.out _ _ HKw6.out.z) ?_
      rintro e wx ⟨rfl, hwx⟩
      subst wx
      go_wp2_with fail
      refine Calls.mono (HN5.out _ _ (Or.inl rfl)) ?_
      rintro e wx ⟨rfl, hwx⟩
      subst wx
      go_wp2_with fail
      refine Calls.mono (HN5.out _ _ HKw6.out.z) ?_
      rintro e wx ⟨rfl, hwx⟩
      subst wx
      go_wp2
      go_ret
      exact ⟨rfl, HKw6.out.bel⟩
end Go.Proofs.Ytjgnnbbimkhjjaa
