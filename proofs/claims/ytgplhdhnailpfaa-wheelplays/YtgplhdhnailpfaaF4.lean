/-
  filled, walked.
-/
import Derived.Test.YtgplhdhnailpfaaF3
set_option linter.unusedSimpArgs false
set_option maxRecDepth 100000
namespace Go.Proofs.Ytgplhdhnailpfaa
open Go.RowKit Go.Maps
theorem SetsAt.ne {w : World} {bk off b : Nat} {l : List St} {L : List Fd} (h : SetsAt w bk off l) (hm : MpAt w b L) (hl : 0 < l.length) : bk ≠ b := fun e => by
  have := hm.nocell (off + 0 * 4)
  rw [← e, (h.cell 0 hl).1] at this
  cases this
/-- One more timer is armed: what stands ahead of it. -/
structure FiAt (w wr : World) (p b bk off : Nat) (l : List St) (L : List Fd) : Prop where
  whl : WhAt wr p b L
  set : SetsAt wr bk off l
  bel : Below w.heap.size w wr
set_option maxHeartbeats 2000000 in
theorem filledA_any (w : World) (bk off len cap n : Nat) (l : List St) (hl : l.length = len) (hn : n = min len 60) (hn0 : 0 < n) (h63 : len ≤ maxLen) (hs : SetsAt w bk off l) :
    Calls Try.prog 23 #[.slice (some ⟨bk, off, none⟩) len cap, .bool false] w fun e w' => e = .returned (.pointer (some ⟨w.heap.size + 1, 0, none⟩)) ∧ WhAt w' (w.heap.size + 1) w.heap.size (fillA (l.take n)) ∧ Below w.heap.size w w' := by
  have hmin : min (len : Int) 60 = (n : Int) := by omega
  have HLL : Hid (l.length = len ∧ n ≤ len ∧ n ≤ 60 ∧ 0 < n) := ⟨hl, by omega, by omega, hn0⟩
  have HS : Hid (SetsAt w bk off l) := hs
  have hn60 : (n : Int) ≤ 60 := by omega
  have hlenI : (n : Int) ≤ (len : Int) := by omega
  unfold maxLen at h63
  clear hl hn hn0 hs
  go_enter Try.func23, Try.ntmps23
  go_wp2_with fail
  refine (new_any _).mono ?_
  rintro e w1 ⟨rfl, hw1, hb1⟩
  have HF1 : Hid (FiAt w w1 (w.heap.size + 1) w.heap.size bk off l []) := ⟨hw1, HS.out.below hb1, hb1⟩
  clear hw1 hb1 HS
  go_wp2_with fail
  go_loopw [7] (fun i wr => ∃ k : Nat, k ≤ n ∧ i = .int .i64 k ∧ FiAt w wr (w.heap.size + 1) w.heap.size bk off l (fillA (l.take k))) (fun i _ => n - (intOf i).toNat)
  case atStart => exact ⟨0, Nat.zero_le _, rfl, HF1.out⟩
  case round =>
    obtain ⟨k, hk, rfl, hf⟩ := hrel
    have HF : Hid (FiAt w wr (w.heap.size + 1) w.heap.size bk off l (fillA (l.take k))) := hf
    clear hf
    by_cases hlt : k < n
    · have hkl : k < l.length := by have := HLL.out; omega
      have hlt' : (k : Int) < (n : Int) := by omega
      have hltl : (k : Int) < (len : Int) := by omega
      obtain ⟨c0, c1, c2, c3⟩ := HF.out.set.cell k hkl
      have HTS : Hid (l.take (k + 1) = l.take k ++ [l[k]]) := List.take_succ_eq_append_getElem hkl
      have HLN : Hid ((fillA (l.take k)).length < 1024) := by
        have h1 := (fillA_whl (l.take k)).2
        have h2 := HLL.out
        have h3 : (l.take k).length ≤ k := List.length_take_le _ _
        unfold Hid; omega
      have HNE : Hid (bk ≠ w.heap.size) := HF.out.set.ne HF.out.whl.m (by omega)
      generalize l[k] = x at *
      have HOF : Hid (∀ W, _) := fun W => of_any x W
      have HAR : Hid (∀ W, WhAt W (w.heap.size + 1) w.heap.size (fillA (l.take k)) → Calls Try.prog 10 #[.pointer (some ⟨w.heap.size + 1, 0, none⟩), .agg #[.int .i64 (ofK x).kind, .string (ofK x).peer, .int .i64 (ofK x).fam], .int .u64 (x.tick : Int)] W fun e w' => e = .returned (.int .i64 0) ∧ WhAt w' (w.heap.size + 1) w.heap.size (fillA (l.take (k + 1))) ∧ W.grownBy w' (some w.heap.size)) := fun W h => by
        have h1 := arm_any h (ofK x) x.tick (by have := HLN.out; omega)
        rw [(arm_of x HLN.out).1, (arm_of x HLN.out).2] at h1
        rw [HTS.out, fillA_snoc]
        exact h1
      obtain ⟨kx, hkx⟩ : ∃ kx, kx = ofK x := ⟨_, rfl⟩
      rw [← hkx] at HOF HAR
      obtain ⟨S, hS⟩ : ∃ S : World → Prop, S = fun W => W.cell? ⟨bk, off + k * 4, none⟩ = some (.int .u8 (x.kind : Int)) ∧ W.cell? ⟨bk, off + k * 4 + 1, none⟩ = some (.int .u8 (x.peer : Int)) ∧ W.cell? ⟨bk, off + k * 4 + 2, none⟩ = some (.int .u8 (x.fam : Int)) ∧ W.cell? ⟨bk, off + k * 4 + 3, none⟩ = some (.int .u8 (x.tick : Int)) := ⟨_, rfl⟩
      have hs0 : Held S wr.drew := by unfold Held; rw [hS]; exact ⟨c0, c1, c2, c3⟩
      have HSB : Hid (∀ a c, Held S a → Grw a c → Held S c) := fun a c h hb => by
        unfold Held at *; rw [hS] at *
        exact ⟨cell2 hb.bel h.1, cell2 hb.bel h.2.1, cell2 hb.bel h.2.2.1, cell2 hb.bel h.2.2.2⟩
      have HSG : Hid (∀ a c, Held S a → a.grownBy c (some w.heap.size) → Held S c) := fun a c h hg => by
        have hne : some bk ≠ some w.heap.size := fun e => HNE.out (by injection e)
        unfold Held at *; rw [hS] at *
        exact ⟨hg.cell h.1 hne, hg.cell h.2.1 hne, hg.cell h.2.2.1 hne, hg.cell h.2.2.2 hne⟩
      have k0 : ∀ a, Held S a → a.cell? ⟨bk, off + k * 4, none⟩ = some (.int .u8 (x.kind : Int)) := fun a h => by unfold Held at h; rw [hS] at h; exact h.1
      have k1 : ∀ a, Held S a → a.cell? ⟨bk, off + k * 4 + 1, none⟩ = some (.int .u8 (x.peer : Int)) := fun a h => by unfold Held at h; rw [hS] at h; exact h.2.1
      have k2 : ∀ a, Held S a → a.cell? ⟨bk, off + k * 4 + 2, none⟩ = some (.int .u8 (x.fam : Int)) := fun a h => by unfold Held at h; rw [hS] at h; exact h.2.2.1
      have k3 : ∀ a, Held S a → a.cell? ⟨bk, off + k * 4 + 3, none⟩ = some (.int .u8 (x.tick : Int)) := fun a h => by unfold Held at h; rw [hS] at h; exact h.2.2.2
      have HWD : Hid (∀ wx, Grw wr.drew wx → WhAt wx (w.heap.size + 1) w.heap.size (fillA (l.take k))) := fun wx hg => (HF.out.whl.below (Below.refl _ _).drew).below hg.bel
      have hwr : IntKind.u64.wrap (x.tick : Int) = (x.tick : Int) := by have := x.ok; simp [IntKind.wrap, IntKind.bits, IntKind.signed]; omega
      clear hS c0 c1 c2 c3 hkx
      go_wp2
      go_region_held3 (fun w' => Held S w') (with_reducible assumption)
        (first | (go_at_call 39; refine Calls.mono (HOF.out _) ?_; rintro e wa ⟨rfl, hgA⟩; have hsA := HSB.out _ _ hs0 hgA; have hwA := HWD.out _ hgA) | (go_at_call 10; (try rw [hwr]); refine Calls.mono (HAR.out _ hwA) ?_; rintro e wb ⟨rfl, hwB, hgB⟩; have hsB := HSG.out _ _ hsA hgB))
      have HF2 : Hid (FiAt w wb (w.heap.size + 1) w.heap.size bk off l (fillA (l.take (k + 1)))) := by
        have h1 : wr.grownBy wb (some w.heap.size) := ((grown_of_below (Below.refl _ _).drew _).trans (grown_of_below hgA.bel _)).trans hgB
        exact ⟨hwB, HF.out.set.kept h1 HNE.out, HF.out.bel.grown h1 HF.out.bel.size (fun j e => by cases e; exact Nat.le_refl _)⟩
      clear hgA hgB hwA hwB hsA hsB hs0
      go_wp2
      go_roundw
      case rel => exact ⟨k + 1, by omega, by go_num, HF2.out⟩
      case measure => simp [intOf]; omega
    · obtain rfl : k = n := by omega
      go_wp2
      go_ret
      exact ⟨rfl, HF.out.whl, HF.out.bel⟩
end Go.Proofs.Ytgplhdhnailpfaa
