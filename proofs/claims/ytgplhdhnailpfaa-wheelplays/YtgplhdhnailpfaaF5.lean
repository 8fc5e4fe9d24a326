/-
  filled, turned round.
-/
import Derived.Test.YtgplhdhnailpfaaF4
set_option linter.unusedSimpArgs false
set_option maxRecDepth 100000
namespace Go.Proofs.Ytgplhdhnailpfaa
open Go.RowKit Go.Maps
set_option maxHeartbeats 2000000 in
theorem filledB_any (w : World) (bk off len cap n : Nat) (l : List St) (hl : l.length = len) (hn : n = min len 60) (hn0 : 0 < n) (h63 : len ≤ maxLen) (hs : SetsAt w bk off l) :
    Calls Try.prog 23 #[.slice (some ⟨bk, off, none⟩) len cap, .bool true] w fun e w' => e = .returned (.pointer (some ⟨w.heap.size + 1, 0, none⟩)) ∧ WhAt w' (w.heap.size + 1) w.heap.size (fillB (l.take n).reverse) ∧ Below w.heap.size w w' := by
  have hmin : min (len : Int) 60 = (n : Int) := by omega
  have HLL : Hid (l.length = len ∧ n ≤ len ∧ n ≤ 60 ∧ 0 < n) := ⟨hl, by omega, by omega, hn0⟩
  have HS : Hid (SetsAt w bk off l) := hs
  have hn60 : (n : Int) ≤ 60 := by omega
  have hlenI : (n : Int) ≤ (len : Int) := by omega
  unfold maxLen at h63
  clear hl hn hn0 hs
  go_enter Try.func23, Try.ntmps23
  go_wp2_with fail
  refine (new_any _).mono ?_
  rintro e w1 ⟨rfl, hw1, hb1⟩
  have HF1 : Hid (FiAt w w1 (w.heap.size + 1) w.heap.size bk off l []) := ⟨hw1, HS.out.below hb1, hb1⟩
  clear hw1 hb1 HS
  go_wp2_with fail
  go_loopw [7] (fun i wr => ∃ k : Nat, k ≤ n ∧ i = .int .i64 k ∧ FiAt w wr (w.heap.size + 1) w.heap.size bk off l (fillB ((l.take n).reverse.take k))) (fun i _ => n - (intOf i).toNat)
  case atStart => exact ⟨0, Nat.zero_le _, rfl, HF1.out⟩
  case round =>
    obtain ⟨k, hk, rfl, hf⟩ := hrel
    have HF : Hid (FiAt w wr (w.heap.size + 1) w.heap.size bk off l (fillB ((l.take n).reverse.take k))) := hf
    clear hf
    by_cases hlt : k < n
    · have hkl : n - 1 - k < l.length := by have := HLL.out; omega
      have hlt' : (k : Int) < (n : Int) := by omega
      have hsub : (n : Int) - 1 - (k : Int) = ((n - 1 - k : Nat) : Int) := by omega
      have hltl : ((n - 1 - k : Nat) : Int) < (len : Int) := by omega
      have hnat : ((n - 1 - k : Nat) : Int).toNat = n - 1 - k := by simp
      obtain ⟨c0, c1, c2, c3⟩ := HF.out.set.cell (n - 1 - k) hkl
      have HTS : Hid ((l.take n).reverse.take (k + 1) = (l.take n).reverse.take k ++ [l[n - 1 - k]]) := by
        have h1 : k < (l.take n).reverse.length := by rw [List.length_reverse, List.length_take]; have := HLL.out; omega
        unfold Hid
        rw [List.take_succ_eq_append_getElem h1, List.getElem_reverse, List.getElem_take]
        congr 3
        rw [List.length_take]; have := HLL.out; omega
      have HLN : Hid ((fillB ((l.take n).reverse.take k)).length < 1024) := by
        have h1 := (fillB_whl ((l.take n).reverse.take k)).2
        have h2 := HLL.out
        have h3 : ((l.take n).reverse.take k).length ≤ k := List.length_take_le _ _
        unfold Hid; omega
      have HNE : Hid (bk ≠ w.heap.size) := HF.out.set.ne HF.out.whl.m (by omega)
      generalize l[n - 1 - k] = x at *
      generalize n - 1 - k = m at *
      have HOF : Hid (∀ W, _) := fun W => of_any x W
      have HAR : Hid (∀ W, WhAt W (w.heap.size + 1) w.heap.size (fillB ((l.take n).reverse.take k)) → Calls Try.prog 10 #[.pointer (some ⟨w.heap.size + 1, 0, none⟩), .agg #[.int .i64 (ofK x).kind, .string (ofK x).peer, .int .i64 (ofK x).fam], .int .u64 (x.tick : Int)] W fun e w' => e = .returned (.int .i64 0) ∧ WhAt w' (w.heap.size + 1) w.heap.size (armed (fillB ((l.take n).reverse.take k)) (ofK x) x.tick) ∧ W.grownBy w' (some w.heap.size)) := fun W h => by
        have h1 := arm_any h (ofK x) x.tick (by have := HLN.out; omega)
        rw [(arm_of x HLN.out).1, (arm_of x HLN.out).2] at h1
        exact h1
      have HAT : Hid (∀ W, WhAt W (w.heap.size + 1) w.heap.size (fillB ((l.take n).reverse.take k)) → Calls Try.prog 8 #[.pointer (some ⟨w.heap.size + 1, 0, none⟩), .agg #[.int .i64 (ofK x).kind, .string (ofK x).peer, .int .i64 (ofK x).fam]] W fun e w' => e = .returned (.tuple #[.int .u64 (((lookF (fillB ((l.take n).reverse.take k)) (ofK x)).getD 0 : Nat) : Int), .bool (lookF (fillB ((l.take n).reverse.take k)) (ofK x)).isSome]) ∧ Below W.heap.size W w') := fun W h => at_any h (ofK x)
      have HST : Hid (fillB ((l.take n).reverse.take (k + 1)) = stepB (fillB ((l.take n).reverse.take k)) x) := by unfold Hid; rw [HTS.out, fillB_snoc]
      obtain ⟨kx, hkx⟩ : ∃ kx, kx = ofK x := ⟨_, rfl⟩
      have HKX : Hid (kx = ofK x) := hkx
      rw [← hkx] at HOF HAR HAT
      have HFW : Hid (∀ wx, Below wr.heap.size wr wx → FiAt w wx (w.heap.size + 1) w.heap.size bk off l (fillB ((l.take n).reverse.take k)) ∧ (wx.cell? ⟨bk, off + m * 4, none⟩ = some (.int .u8 (x.kind : Int)) ∧ wx.cell? ⟨bk, off + m * 4 + 1, none⟩ = some (.int .u8 (x.peer : Int)) ∧ wx.cell? ⟨bk, off + m * 4 + 2, none⟩ = some (.int .u8 (x.fam : Int)) ∧ wx.cell? ⟨bk, off + m * 4 + 3, none⟩ = some (.int .u8 (x.tick : Int)))) := fun wx hb =>
        ⟨⟨HF.out.whl.below hb, HF.out.set.below hb, HF.out.bel.trans (hb.mono HF.out.bel.size)⟩, cell2 hb c0, cell2 hb c1, cell2 hb c2, cell2 hb c3⟩
      clear hkx
      go_wp2_with fail
      refine Calls.mono (HOF.out _) ?_
      rintro e wp ⟨rfl, hgP⟩
      go_wp2_with fail
      refine Calls.mono (HAT.out _ (HFW.out _ hgP.bel).1.whl) ?_
      rintro e wq ⟨rfl, hbQ⟩
      obtain ⟨hFQ, d0, d1, d2, d3⟩ := HFW.out _ (hgP.bel.trans (hbQ.mono hgP.bel.size))
      have HQ : Hid (FiAt w wq (w.heap.size + 1) w.heap.size bk off l (fillB ((l.take n).reverse.take k))) := hFQ
      clear hgP hbQ hFQ c0 c1 c2 c3 HFW HF
      cases hthere : (lookF (fillB ((l.take n).reverse.take k)) kx).isSome
      case true =>
        have HF2 : Hid (FiAt w wq (w.heap.size + 1) w.heap.size bk off l (fillB ((l.take n).reverse.take (k + 1)))) := by
          unfold Hid
          rw [HST.out]
          unfold stepB
          rw [← HKX.out, hthere, if_pos rfl]
          exact HQ.out
        clear HST HKX
        generalize (lookF (fillB ((l.take n).reverse.take k)) kx).getD 0 = tt at *
        go_wp2
        go_roundw
        case rel => exact ⟨k + 1, by omega, by go_num, HF2.out⟩
        case measure => simp [intOf]; omega
      have HSS : Hid (armed (fillB ((l.take n).reverse.take k)) kx x.tick = fillB ((l.take n).reverse.take (k + 1))) := by
        unfold Hid
        rw [HST.out]
        unfold stepB
        rw [← HKX.out, hthere, if_neg (by simp)]
      rw [HSS.out] at HAR
      generalize (lookF (fillB ((l.take n).reverse.take k)) kx).getD 0 = tt at *
      obtain ⟨S, hS⟩ : ∃ S : World → Prop, S = fun W => W.cell? ⟨bk, off + m * 4, none⟩ = some (.int .u8 (x.kind : Int)) ∧ W.cell? ⟨bk, off + m * 4 + 1, none⟩ = some (.int .u8 (x.peer : Int)) ∧ W.cell? ⟨bk, off + m * 4 + 2, none⟩ = some (.int .u8 (x.fam : Int)) ∧ W.cell? ⟨bk, off + m * 4 + 3, none⟩ = some (.int .u8 (x.tick : Int)) := ⟨_, rfl⟩
      have hs0 : Held S wq.drew := by unfold Held; rw [hS]; exact ⟨d0, d1, d2, d3⟩
      have HSB : Hid (∀ a c, Held S a → Grw a c → Held S c) := fun a c h hb => by
        unfold Held at *; rw [hS] at *
        exact ⟨cell2 hb.bel h.1, cell2 hb.bel h.2.1, cell2 hb.bel h.2.2.1, cell2 hb.bel h.2.2.2⟩
      have HSG : Hid (∀ a c, Held S a → a.grownBy c (some w.heap.size) → Held S c) := fun a c h hg => by
        have hne : some bk ≠ some w.heap.size := fun e => HNE.out (by injection e)
        unfold Held at *; rw [hS] at *
        exact ⟨hg.cell h.1 hne, hg.cell h.2.1 hne, hg.cell h.2.2.1 hne, hg.cell h.2.2.2 hne⟩
      have k0 : ∀ a, Held S a → a.cell? ⟨bk, off + m * 4, none⟩ = some (.int .u8 (x.kind : Int)) := fun a h => by unfold Held at h; rw [hS] at h; exact h.1
      have k1 : ∀ a, Held S a → a.cell? ⟨bk, off + m * 4 + 1, none⟩ = some (.int .u8 (x.peer : Int)) := fun a h => by unfold Held at h; rw [hS] at h; exact h.2.1
      have k2 : ∀ a, Held S a → a.cell? ⟨bk, off + m * 4 + 2, none⟩ = some (.int .u8 (x.fam : Int)) := fun a h => by unfold Held at h; rw [hS] at h; exact h.2.2.1
      have k3 : ∀ a, Held S a → a.cell? ⟨bk, off + m * 4 + 3, none⟩ = some (.int .u8 (x.tick : Int)) := fun a h => by unfold Held at h; rw [hS] at h; exact h.2.2.2
      have HWD : Hid (∀ wx, Grw wq.drew wx → WhAt wx (w.heap.size + 1) w.heap.size (fillB ((l.take n).reverse.take k))) := fun wx hg => (HQ.out.whl.below (Below.refl _ _).drew).below hg.bel
      have hwr : IntKind.u64.wrap (x.tick : Int) = (x.tick : Int) := by have := x.ok; simp [IntKind.wrap, IntKind.bits, IntKind.signed]; omega
      clear hS d0 d1 d2 d3 HKX HSS HST
      go_wp2
      go_region_held3 (fun w' => Held S w') (with_reducible assumption)
        (first | (go_at_call 39; refine Calls.mono (HOF.out _) ?_; rintro e wa ⟨rfl, hgA⟩; have hsA := HSB.out _ _ hs0 hgA; have hwA := HWD.out _ hgA) | (go_at_call 10; (try rw [hwr]); refine Calls.mono (HAR.out _ hwA) ?_; rintro e wb ⟨rfl, hwB, hgB⟩; have hsB := HSG.out _ _ hsA hgB))
      have HF2 : Hid (FiAt w wb (w.heap.size + 1) w.heap.size bk off l (fillB ((l.take n).reverse.take (k + 1)))) := by
        have h1 : wq.grownBy wb (some w.heap.size) := ((grown_of_below (Below.refl _ _).drew _).trans (grown_of_below hgA.bel _)).trans hgB
        exact ⟨hwB, HQ.out.set.kept h1 HNE.out, HQ.out.bel.grown h1 HQ.out.bel.size (fun j e => by cases e; exact Nat.le_refl _)⟩
      clear hgA hgB hwA hwB hsA hsB hs0
      go_wp2
      go_roundw
      case rel => exact ⟨k + 1, by omega, by go_num, HF2.out⟩
      case measure => simp [intOf]; omega
    · obtain rfl : k = n := by omega
      go_wp2
      go_ret
      refine ⟨rfl, ?_, HF.out.bel⟩
      have h := HF.out.whl
      rw [List.take_of_length_le (by rw [List.length_reverse]; exact List.length_take_le _ _)] at h
      exact h
end Go.Proofs.Ytgplhdhnailpfaa
