/-
  The walk of DrawOrder, no draws.
-/
import Derived.Test.YtjgnnbbimkhjjaaB2
set_option linter.unusedSimpArgs false
set_option maxRecDepth 100000
namespace Go.Proofs.Ytjgnnbbimkhjjaa
open Go.RowKit
set_option maxHeartbeats 4000000 in
theorem ordE (w : World) (ad : Option Addr) (cap : Nat) (b : Int) (hb1 : ¬ b ≤ 0) (hb2 : b < 9223372036854775808) : Calls Try.prog 6 #[.slice ad 0 cap, .int .i64 b] w fun e w' => e = .returned (.bool true) ∧ Below w.heap.size w w' := by
  have HW : Hid (_ : Prop) := fun w => works_any w
  have HB0 : Hid (_ : Prop) := hb1
  go_enter Try.func6, Try.ntmps6
  go_wp2_with fail
  refine Calls.mono (HW.out _) ?_
  rintro e w1 ⟨rfl, hb1'⟩
  have HB1 : Hid (Below w.heap.size w w1) := hb1'
  clear hb1'
  go_wp2_with fail
  refine (new_any _).mono ?_
  rintro e w2 ⟨rfl, h2, hb2'⟩
  have HB2 : Hid (Below w.heap.size w w2) := HB1.out.trans (hb2'.mono HB1.out.size)
  generalize hp : w1.heap.size = p at h2 ⊢
  have HP : Hid (w.heap.size ≤ p) := by unfold Hid; rw [← hp]; exact HB1.out.size
  have HD2 : Hid (DAt w2 p []) := h2
  clear hp hb2' h2 HB1 HW
  go_wp2_with fail
  go_loopw [7] (fun i wr => i = .int .i64 0 ∧ DAt wr p [] ∧ Below w.heap.size w wr) (fun _ _ => 0)
  case atStart => exact ⟨rfl, HD2.out, HB2.out⟩
  case round =>
    obtain ⟨rfl, hd, hb⟩ := hrel
    have HD : Hid (DAt wr p []) := hd
    have HB : Hid (Below w.heap.size w wr) := hb
    clear hd hb
    go_wp2_with fail
    refine Calls.mono (copy_ok HD.out) ?_
    rintro e w3 ⟨rfl, h3, hb3⟩
    have HD3 : Hid (DAt w3 p []) := HD.out.below hb3
    have HB3 : Hid (Below w.heap.size w w3) := HB.out.trans (hb3.mono HB.out.size)
    have HPQ : Hid (p ≠ wr.heap.size) := by unfold Hid; have := HD.out.lt; omega
    generalize wr.heap.size = q at *
    have HC3 : Hid (DAt w3 q []) := h3
    clear h3 hb3 HD HB HD2 HB2
    go_wp2_with fail
    go_loopw [9] (fun i wr => i = .int .i64 0 ∧ OrAt w wr p q [] []) (fun _ _ => 0)
    case atStart => exact ⟨rfl, HD3.out, HC3.out, HB3.out⟩
    case round =>
      obtain ⟨rfl, ho⟩ := hrel
      have HO : Hid (OrAt w wr p q [] []) := ho
      clear ho
      have HLF : Hid (∀ W p, DAt W p [] → Calls Try.prog 13 #[.pointer (some ⟨p, 0, none⟩)] W fun e w' => e = .returned (.int .i64 0) ∧ w' = W) := fun W p h => left_any h
      have HJ : Hid (Calls Try.prog 11 #[.pointer (some ⟨p, 0, none⟩), .int .i64 b] wr fun e w' => e = .returned (.int .i64 b) ∧ wr.grownBy w' (some p)) := by
        have := jitter_any (b := b) (by omega) HO.out.d
        rw [jitI_nil HB0.out] at this
        exact this.mono fun e w' h => ⟨h.1, h.2.2⟩
      go_wp2_with fail
      refine Calls.mono (HLF.out _ _ HO.out.d) ?_
      rintro e w4 ⟨rfl, hw4⟩
      subst w4
      go_wp2_with fail
      refine Calls.mono HJ.out ?_
      rintro e w4 ⟨rfl, hg4⟩
      have HQ4 : Hid (DAt w4 q []) := HO.out.c.kept hg4 (fun e => by injection e with e; exact HPQ.out e.symm)
      have HB4 : Hid (Below w.heap.size w w4) := HO.out.bel.grown hg4 HO.out.bel.size (fun j e => by cases e; exact HP.out)
      clear hg4
      go_wp2_with fail
      refine Calls.mono (HLF.out _ _ HQ4.out) ?_
      rintro e w5 ⟨rfl, hw5⟩
      subst w5
      go_wp2
      go_ret
      exact ⟨rfl, HB4.out⟩
set_option maxHeartbeats 4000000 in
theorem ordF (w : World) (ad : Option Addr) (cap : Nat) (b : Int) (hb1 : b ≤ 0) : Calls Try.prog 6 #[.slice ad 0 cap, .int .i64 b] w fun e w' => e = .returned (.bool true) ∧ Below w.heap.size w w' := by
  have HW : Hid (_ : Prop) := fun w => works_any w
  have HB0 : Hid (_ : Prop) := hb1
  go_enter Try.func6, Try.ntmps6
  go_wp2_with fail
  refine Calls.mono (HW.out _) ?_
  rintro e w1 ⟨rfl, hb1'⟩
  have HB1 : Hid (Below w.heap.size w w1) := hb1'
  clear hb1'
  go_wp2_with fail
  refine (new_any _).mono ?_
  rintro e w2 ⟨rfl, h2, hb2'⟩
  have HB2 : Hid (Below w.heap.size w w2) := HB1.out.trans (hb2'.mono HB1.out.size)
  generalize hp : w1.heap.size = p at h2 ⊢
  have HP : Hid (w.heap.size ≤ p) := by unfold Hid; rw [← hp]; exact HB1.out.size
  have HD2 : Hid (DAt w2 p []) := h2
  clear hp hb2' h2 HB1 HW
  go_wp2_with fail
  go_loopw [7] (fun i wr => i = .int .i64 0 ∧ DAt wr p [] ∧ Below w.heap.size w wr) (fun _ _ => 0)
  case atStart => exact ⟨rfl, HD2.out, HB2.out⟩
  case round =>
    obtain ⟨rfl, hd, hb⟩ := hrel
    have HD : Hid (DAt wr p []) := hd
    have HB : Hid (Below w.heap.size w wr) := hb
    clear hd hb
    go_wp2_with fail
    refine Calls.mono (copy_ok HD.out) ?_
    rintro e w3 ⟨rfl, h3, hb3⟩
    have HD3 : Hid (DAt w3 p []) := HD.out.below hb3
    have HB3 : Hid (Below w.heap.size w w3) := HB.out.trans (hb3.mono HB.out.size)
    have HPQ : Hid (p ≠ wr.heap.size) := by unfold Hid; have := HD.out.lt; omega
    generalize wr.heap.size = q at *
    have HC3 : Hid (DAt w3 q []) := h3
    clear h3 hb3 HD HB HD2 HB2
    go_wp2_with fail
    go_loopw [9] (fun i wr => i = .int .i64 0 ∧ OrAt w wr p q [] []) (fun _ _ => 0)
    case atStart => exact ⟨rfl, HD3.out, HC3.out, HB3.out⟩
    case round =>
      obtain ⟨rfl, ho⟩ := hrel
      have HO : Hid (OrAt w wr p q [] []) := ho
      clear ho
      have HLF : Hid (∀ W p, DAt W p [] → Calls Try.prog 13 #[.pointer (some ⟨p, 0, none⟩)] W fun e w' => e = .returned (.int .i64 0) ∧ w' = W) := fun W p h => left_any h
      have HJ : Hid (Calls Try.prog 11 #[.pointer (some ⟨p, 0, none⟩), .int .i64 b] wr fun e w' => e = .returned (.int .i64 0) ∧ wr.grownBy w' (some p)) := by
        have := jitter_any (b := b) (by omega) HO.out.d
        rw [jitI_no HB0.out] at this
        exact this.mono fun e w' h => ⟨h.1, h.2.2⟩
      go_wp2_with fail
      refine Calls.mono (HLF.out _ _ HO.out.d) ?_
      rintro e w4 ⟨rfl, hw4⟩
      subst w4
      go_wp2_with fail
      refine Calls.mono HJ.out ?_
      rintro e w4 ⟨rfl, hg4⟩
      have HQ4 : Hid (DAt w4 q []) := HO.out.c.kept hg4 (fun e => by injection e with e; exact HPQ.out e.symm)
      have HB4 : Hid (Below w.heap.size w w4) := HO.out.bel.grown hg4 HO.out.bel.size (fun j e => by cases e; exact HP.out)
      clear hg4
      go_wp2
      go_ret
      exact ⟨rfl, HB4.out⟩
end Go.Proofs.Ytjgnnbbimkhjjaa
