/-
  The walk of DrawOrder, more than 64 draws, a number of ticks above 0.
-/
import Derived.Test.YtjgnnbbimkhjjaaB2
set_option linter.unusedSimpArgs false
set_option maxRecDepth 100000
namespace Go.Proofs.Ytjgnnbbimkhjjaa
open Go.RowKit
set_option maxHeartbeats 4000000 in
theorem ordC (w : World) (bk off cap : Nat) (l : List Nat) (hl : ¬ (l.length : Int) ≤ 64) (hsm : ∀ x ∈ l, x < 4294967296)
    (hc : ∀ (j : Nat) (hj : j < l.length), w.cell? ⟨bk, off + j, none⟩ = some (.int .u32 (l[j] : Int))) (hbk : bk < w.heap.size) (b : Int) (hb1 : ¬ b ≤ 0) (hb2 : b < 9223372036854775808) :
    Calls Try.prog 6 #[.slice (some ⟨bk, off, none⟩) l.length cap, .int .i64 b] w fun e w' => e = .returned (.bool true) ∧ Below w.heap.size w w' := by
  have HW : Hid (_ : Prop) := fun w => works_any w
  have HB0 : Hid (_ : Prop) := hb1
  have HCC : Hid (∀ (wr : World), Below w.heap.size w wr → ∀ (j : Nat) (hj : j < l.length), wr.cell? ⟨bk, off + j, none⟩ = some (.int .u32 (l[j] : Int))) := fun wr hb j hj => (hb.cell (p := ⟨bk, off + j, none⟩) hbk).trans (hc j hj)
  have HSM : Hid (∀ x ∈ l, x < 4294967296) := hsm
  have HTL : Hid ((l.take (64)).length = 64) := by unfold Hid; rw [List.length_take]; omega
  have HBK : Hid (bk < w.heap.size) := hbk
  clear hc hsm hbk
  go_enter Try.func6, Try.ntmps6
  go_wp2_with fail
  refine Calls.mono (HW.out _) ?_
  rintro e w1 ⟨rfl, hb1'⟩
  have HB1 : Hid (Below w.heap.size w w1) := hb1'
  clear hb1'
  go_wp2_with fail
  refine (new_any _).mono ?_
  rintro e w2 ⟨rfl, h2, hb2'⟩
  have HB2 : Hid (Below w.heap.size w w2) := HB1.out.trans (hb2'.mono HB1.out.size)
  generalize hp : w1.heap.size = p at h2 ⊢
  have HP : Hid (w.heap.size ≤ p) := by unfold Hid; rw [← hp]; exact HB1.out.size
  have HD2 : Hid (DAt w2 p []) := h2
  clear hp hb2' h2 HB1 HW
  go_wp2_with fail
  go_loopw [7] (fun i wr => ∃ k : Nat, k ≤ 64 ∧ i = .int .i64 (k : Int) ∧ DAt wr p (l.take k) ∧ Below w.heap.size w wr) (fun i _ => 64 - (intOf i).toNat)
  case atStart => exact ⟨0, Nat.zero_le _, rfl, by simpa using HD2.out, HB2.out⟩
  case round =>
    obtain ⟨k, hk, rfl, hd, hb⟩ := hrel
    have HD : Hid (DAt wr p (l.take k)) := hd
    have HB : Hid (Below w.heap.size w wr) := hb
    clear hd hb
    by_cases hlt : k < 64
    · have hlt' : (k : Int) < (64 : Int) := by omega
      have hkl : k < l.length := by omega
      have hkl' : (k : Int) < (l.length : Int) := by omega
      have hcell := HCC.out wr HB.out k hkl
      have HPU : Hid (Calls Try.prog 9 #[.pointer (some ⟨p, 0, none⟩), .int .u32 (l[k] : Int)] wr fun e w' => e = .returned (.int .i64 0) ∧ DAt w' p (l.take (k + 1)) ∧ wr.grownBy w' (some p)) := by
        have := push_ok HD.out (by rw [List.length_take]; omega) (n := l[k]) (HSM.out _ (List.getElem_mem _))
        rwa [take_snoc hkl] at this
      go_wp2_with (go_at_call 9; refine Calls.mono HPU.out ?_; rintro e w3 ⟨rfl, h3, hg3⟩)
      go_roundw
      case rel => exact ⟨k + 1, by omega, by go_num, h3, HB.out.grown hg3 HB.out.size (fun j e => by cases e; exact HP.out)⟩
      case measure => simp [intOf]; omega
    · obtain rfl : k = 64 := by omega
      go_wp2_with fail
      refine Calls.mono (copy_ok HD.out) ?_
      rintro e w3 ⟨rfl, h3, hb3⟩
      have HD3 : Hid (DAt w3 p (l.take (64))) := HD.out.below hb3
      have HB3 : Hid (Below w.heap.size w w3) := HB.out.trans (hb3.mono HB.out.size)
      have HPQ : Hid (p ≠ wr.heap.size ∧ w.heap.size ≤ wr.heap.size) := ⟨by have := HD.out.lt; omega, HB.out.size⟩
      generalize wr.heap.size = q at *
      have HC3 : Hid (DAt w3 q (l.take (64))) := h3
      clear h3 hb3 HD HB HD2 HB2 hlt hk
      go_wp2_with fail
      go_loopw [9] (fun i wr => ∃ k : Nat, k ≤ 64 ∧ i = .int .i64 (k : Int) ∧ OrAt w wr p q ((l.take (64)).drop k) (l.take (64))) (fun i _ => 64 - (intOf i).toNat)
      case atStart => exact ⟨0, Nat.zero_le _, rfl, by simpa using HD3.out, HC3.out, HB3.out⟩
      case round =>
        obtain ⟨k, hk, rfl, ho⟩ := hrel
        have HO : Hid (OrAt w wr p q ((l.take (64)).drop k) (l.take (64))) := ho
        clear ho
        by_cases hlt : k < 64
        · have hlt' : (k : Int) < (64 : Int) := by omega
          have hkl : k < l.length := by omega
          have hkl' : (k : Int) < (l.length : Int) := by omega
          have hx : l[k] < 4294967296 := HSM.out _ (List.getElem_mem _)
          have hcell := HCC.out wr HO.out.bel k hkl
          have HLF : Hid (Calls Try.prog 13 #[.pointer (some ⟨p, 0, none⟩)] wr fun e w' => e = .returned (.int .i64 ((64 : Int) - (k : Int))) ∧ w' = wr) := by
            have := left_any HO.out.d
            rw [List.length_drop, HTL.out] at this
            rwa [show (((64 - k : Nat)) : Int) = (64 : Int) - (k : Int) by omega] at this
          have HJ : Hid (Calls Try.prog 11 #[.pointer (some ⟨p, 0, none⟩), .int .i64 b] wr.drew fun e w' => e = .returned (.int .i64 (ofI b l[k])) ∧ DAt w' p ((l.take (64)).drop (k + 1)) ∧ wr.drew.grownBy w' (some p)) := by
            have := jitter_any (b := b) (by omega) HO.out.d.drew
            rw [drop_take hlt (by omega), jitI_cons HB0.out, jitL_pos HB0.out, List.tail_cons] at this
            exact this
          have HJ0 : Hid (∀ W, DAt W p ((l.take (64)).drop (k + 1)) → Calls Try.prog 11 #[.pointer (some ⟨p, 0, none⟩), .int .i64 0] W fun e w' => e = .returned (.int .i64 0) ∧ DAt w' p ((l.take (64)).drop (k + 1)) ∧ W.grownBy w' (some p)) := fun W h => by
            have := jitter_any (b := 0) (by omega) h
            rwa [jitI_no (by omega), jitL_no (by omega)] at this
          have HOF : Hid (∀ W, Calls Try.prog 15 #[.int .i64 b, .int .u32 (l[k] : Int)] W fun e w' => e = .returned (.int .i64 (ofI b l[k])) ∧ w' = W) := fun W => of_any (b := b) (by omega) hx W
          have HKP : Hid (∀ W1 W2 : World, W1.grownBy W2 (some p) → W1.cell? ⟨bk, off + k, none⟩ = some (.int .u32 (l[k] : Int)) → W2.cell? ⟨bk, off + k, none⟩ = some (.int .u32 (l[k] : Int))) := fun W1 W2 hg hc => hg.cell hc (fun e => by injection e with e; have h1 : bk = p := e; have h2 := HP.out; have h3 := HBK.out; omega)
          generalize ofI b l[k] = r at *
          generalize l[k] = x at *
          go_wp2_with (go_at_call 13; refine Calls.mono HLF.out ?_; rintro e w4 ⟨rfl, hw4⟩; subst w4)
          go_region_held (fun w' => w'.cell? ⟨bk, off + k, none⟩ = some (.int .u32 (x : Int))) (first | exact hcell | exact HKP.out _ _ hg4 hcell | exact HKP.out _ _ hg5 (HKP.out _ _ hg4 hcell)) (first
            | (go_at_call 15; refine Calls.mono (HOF.out _) ?_; rintro e w4 ⟨rfl, hw4⟩; subst w4)
            | (go_at_call 11; refine Calls.mono HJ.out ?_; rintro e w4 ⟨rfl, h4, hg4⟩)
            | (go_at_call 11; refine Calls.mono (HJ0.out _ (by assumption)) ?_; rintro e w5 ⟨rfl, h5, hg5⟩))
          have HN : Hid (OrAt w w5 p q ((l.take (64)).drop (k + 1)) (l.take (64))) := ⟨h5, (HO.out.c.drew.kept hg4 (fun e => by injection e with e; exact HPQ.out.1 e.symm)).kept hg5 (fun e => by injection e with e; exact HPQ.out.1 e.symm), (HO.out.bel.drew.grown hg4 HO.out.bel.size (fun j e => by cases e; exact HP.out)).grown hg5 (Nat.le_trans HO.out.bel.size hg4.size) (fun j e => by cases e; exact HP.out)⟩
          clear h4 hg4 h5 hg5
          go_wp2
          go_roundw
          case rel => exact ⟨k + 1, by omega, by go_num, HN.out⟩
          case measure => simp [intOf]; omega
        · obtain rfl : k = 64 := by omega
          have HLF : Hid (Calls Try.prog 13 #[.pointer (some ⟨p, 0, none⟩)] wr fun e w' => e = .returned (.int .i64 0) ∧ w' = wr) := by
            have := left_any HO.out.d
            rw [List.length_drop, HTL.out, Nat.sub_self] at this
            exact this
          have HJ : Hid (Calls Try.prog 11 #[.pointer (some ⟨p, 0, none⟩), .int .i64 b] wr fun e w' => e = .returned (.int .i64 b) ∧ wr.grownBy w' (some p)) := by
            have := jitter_any (b := b) (by omega) HO.out.d
            rw [List.drop_eq_nil_of_le (by rw [HTL.out]; exact Nat.le_refl _), jitI_nil HB0.out] at this
            exact this.mono fun e w' h => ⟨h.1, h.2.2⟩
          have HLC : Hid (∀ W, DAt W q (l.take (64)) → Calls Try.prog 13 #[.pointer (some ⟨q, 0, none⟩)] W fun e w' => e = .returned (.int .i64 (64 : Int)) ∧ w' = W) := fun W h => by
            have := left_any h
            rwa [HTL.out] at this
          go_wp2_with fail
          refine Calls.mono HLF.out ?_
          rintro e w4 ⟨rfl, hw4⟩
          subst w4
          go_wp2_with fail
          refine Calls.mono HJ.out ?_
          rintro e w4 ⟨rfl, hg4⟩
          have HQ4 : Hid (DAt w4 q (l.take (64))) := HO.out.c.kept hg4 (fun e => by injection e with e; exact HPQ.out.1 e.symm)
          have HB4 : Hid (Below w.heap.size w w4) := HO.out.bel.grown hg4 HO.out.bel.size (fun j e => by cases e; exact HP.out)
          clear hg4
          go_wp2_with fail
          refine Calls.mono (HLC.out _ HQ4.out) ?_
          rintro e w5 ⟨rfl, hw5⟩
          subst w5
          go_wp2
          go_ret
          exact ⟨rfl, HB4.out⟩
end Go.Proofs.Ytjgnnbbimkhjjaa
