/-
  WheelKnown answers true.
-/
import Derived.Test.YtgplhdhnailpfaaK2
set_option linter.unusedSimpArgs false
set_option maxRecDepth 100000
namespace Go.Proofs.Ytgplhdhnailpfaa
open Go.RowKit Go.Maps
theorem bads_at (w : World) : KeysAt (w.alloc (.cells #[.int .i64 0, .string ⟨#[97]⟩, .int .i64 0, .int .i64 8, .string ⟨#[97]⟩, .int .i64 0, .int .i64 1, .string ⟨#[65]⟩, .int .i64 0, .int .i64 1, .string ⟨#[]⟩, .int .i64 0, .int .i64 1, .string ⟨#[97]⟩, .int .i64 6, .int .i64 1, .string ⟨#[97]⟩, .int .i64 (-1), .int .i64 1, .string ⟨#[97, 98, 99, 100, 101, 102, 103, 104, 105, 106, 107, 108, 109, 110, 111, 112, 113]⟩, .int .i64 0] 27)) (.slice (some ⟨w.heap.size, 0, none⟩) 7 7) bads := by
  refine ⟨⟨_, 7, rfl⟩, fun j hj => ⟨w.heap.size, 7, rfl, ?_⟩⟩
  have hj' : j < 7 := hj
  have hc : ∀ t, (w.alloc (.cells #[.int .i64 0, .string ⟨#[97]⟩, .int .i64 0, .int .i64 8, .string ⟨#[97]⟩, .int .i64 0, .int .i64 1, .string ⟨#[65]⟩, .int .i64 0, .int .i64 1, .string ⟨#[]⟩, .int .i64 0, .int .i64 1, .string ⟨#[97]⟩, .int .i64 6, .int .i64 1, .string ⟨#[97]⟩, .int .i64 (-1), .int .i64 1, .string ⟨#[97, 98, 99, 100, 101, 102, 103, 104, 105, 106, 107, 108, 109, 110, 111, 112, 113]⟩, .int .i64 0] 27)).cell? ⟨w.heap.size, t, none⟩ = (#[.int .i64 0, .string ⟨#[97]⟩, .int .i64 0, .int .i64 8, .string ⟨#[97]⟩, .int .i64 0, .int .i64 1, .string ⟨#[65]⟩, .int .i64 0, .int .i64 1, .string ⟨#[]⟩, .int .i64 0, .int .i64 1, .string ⟨#[97]⟩, .int .i64 6, .int .i64 1, .string ⟨#[97]⟩, .int .i64 (-1), .int .i64 1, .string ⟨#[97, 98, 99, 100, 101, 102, 103, 104, 105, 106, 107, 108, 109, 110, 111, 112, 113]⟩, .int .i64 0] : Array Value)[t]? := fun t => by
    rw [World.cell?_alloc_at _ _ _ _ rfl]
  rw [hc, hc, hc]
  rcases j with _ | _ | _ | _ | _ | _ | _ | j
  · exact ⟨rfl, rfl, rfl⟩
  · exact ⟨rfl, rfl, rfl⟩
  · exact ⟨rfl, rfl, rfl⟩
  · exact ⟨rfl, rfl, rfl⟩
  · exact ⟨rfl, rfl, rfl⟩
  · exact ⟨rfl, rfl, rfl⟩
  · exact ⟨rfl, rfl, rfl⟩
  · omega
theorem nkS_conv (k : Nat) (hk : k < 1023) (w : World) : (convert 56 9 (.slice (some ⟨w.heap.size, 0, none⟩) 4 4)).run Try.prog (w.alloc (.cells #[.int .u8 98, .int .u8 (97 + (k : Int) % 26), .int .u8 (97 + (k : Int) / 26 % 26), .int .u8 (97 + (k : Int) / 676)] 5)) = .ok (.string (nkS k)) (w.alloc (.cells #[.int .u8 98, .int .u8 (97 + (k : Int) % 26), .int .u8 (97 + (k : Int) / 26 % 26), .int .u8 (97 + (k : Int) / 676)] 5)) := by
  have h := run_convert_bytes_back (P := Try.prog) (w.alloc (.cells #[.int .u8 98, .int .u8 (97 + (k : Int) % 26), .int .u8 (97 + (k : Int) / 26 % 26), .int .u8 (97 + (k : Int) / 676)] 5)) 56 9 5 ⟨w.heap.size, 0, none⟩ 4 [98, UInt8.ofNat (97 + k % 26), UInt8.ofNat (97 + k / 26 % 26), UInt8.ofNat (97 + k / 676)] Try.underlying56 Try.underlying5 Try.underlying9 (by
    intro j hj
    have hj' : j < 4 := by simpa using hj
    rcases j with _ | _ | _ | _ | j
    · simp [Addr.add]
    · simp [Addr.add]; omega
    · simp [Addr.add]; omega
    · simp [Addr.add]; omega
    · omega)
  exact h
/-- What stands in memory: the wheel; all that lay there before. -/
structure KwAt (w wr : World) (p b : Nat) (L : List Fd) : Prop where
  whl : WhAt wr p b L
  bel : Below w.heap.size w wr
theorem KwAt.below {w wr wx : World} {p b : Nat} {L : List Fd} (h : KwAt w wr p b L) (hb : Below wr.heap.size wr wx) : KwAt w wx p b L := ⟨h.whl.below hb, h.bel.trans (hb.mono h.bel.size)⟩
theorem KwAt.turned {w wr wx : World} {p b : Nat} {L L' : List Fd} (h : KwAt w wr p b L) (hw : WhAt wx p b L') (hg : wr.grownBy wx (some b)) (hb : w.heap.size ≤ b) : KwAt w wx p b L' :=
  ⟨hw, h.bel.grown hg h.bel.size (fun k e => by cases e; exact hb)⟩
set_option maxHeartbeats 4000000 in
theorem known_walk (w : World) : Calls Try.prog 6 #[] w fun e w' => e = .returned (.bool true) ∧ Below w.heap.size w w' := by
  have HK : Hid (∀ (a : Int) (s : ByteArray) (c : Int) (W : World), _) := fun a s c W => key_any a s c W
  go_enter Try.func6, Try.ntmps6
  go_wp2_with fail
  refine (new_any _).mono ?_
  rintro e w1 ⟨rfl, hw1, hb1⟩
  generalize hp : w.heap.size + 1 = p at *
  generalize hb : w.heap.size = b at hw1
  have HBB : Hid (w.heap.size ≤ b) := by unfold Hid; omega
  have HQ : Hid (KwAt w w1 p b []) := ⟨hw1, hb1⟩
  clear hp hb hw1 hb1
  go_wp2_with fail
  refine Calls.mono (HK.out _ _ _ _) ?_
  rintro e wa0 ⟨rfl, hg⟩
  replace HQ : Hid (KwAt w wa0 p b []) := HQ.out.below hg.bel
  clear hg
  go_wp2_with fail
  refine Calls.mono (HK.out _ _ _ _) ?_
  rintro e wa1 ⟨rfl, hg⟩
  replace HQ : Hid (KwAt w wa1 p b []) := HQ.out.below hg.bel
  clear hg
  go_wp2_with fail
  refine Calls.mono (HK.out _ _ _ _) ?_
  rintro e wa2 ⟨rfl, hg⟩
  replace HQ : Hid (KwAt w wa2 p b []) := HQ.out.below hg.bel
  clear hg
  go_wp2_with fail
  refine Calls.mono (HK.out _ _ _ _) ?_
  rintro e wa3 ⟨rfl, hg⟩
  replace HQ : Hid (KwAt w wa3 p b []) := HQ.out.below hg.bel
  clear hg
  go_wp2_with fail
  refine Calls.mono (HK.out _ _ _ _) ?_
  rintro e wa4 ⟨rfl, hg⟩
  replace HQ : Hid (KwAt w wa4 p b []) := HQ.out.below hg.bel
  clear hg
  go_wp2_with fail
  refine Calls.mono (HK.out _ _ _ _) ?_
  rintro e wa5 ⟨rfl, hg⟩
  replace HQ : Hid (KwAt w wa5 p b []) := HQ.out.below hg.bel
  clear hg
  go_wp2_with fail
  refine Calls.mono (HK.out _ _ _ _) ?_
  rintro e wa6 ⟨rfl, hg⟩
  replace HQ : Hid (KwAt w wa6 p b []) := HQ.out.below hg.bel
  clear hg
  have HKA : Hid (KeysAt (wa6.alloc (.cells #[.int .i64 0, .string ⟨#[97]⟩, .int .i64 0, .int .i64 8, .string ⟨#[97]⟩, .int .i64 0, .int .i64 1, .string ⟨#[65]⟩, .int .i64 0, .int .i64 1, .string ⟨#[]⟩, .int .i64 0, .int .i64 1, .string ⟨#[97]⟩, .int .i64 6, .int .i64 1, .string ⟨#[97]⟩, .int .i64 (-1), .int .i64 1, .string ⟨#[97, 98, 99, 100, 101, 102, 103, 104, 105, 106, 107, 108, 109, 110, 111, 112, 113]⟩, .int .i64 0] 27)) (.slice (some ⟨wa6.heap.size, 0, none⟩) 7 7) bads) := bads_at wa6
  have HQ1 : Hid (KwAt w (wa6.alloc (.cells #[.int .i64 0, .string ⟨#[97]⟩, .int .i64 0, .int .i64 8, .string ⟨#[97]⟩, .int .i64 0, .int .i64 1, .string ⟨#[65]⟩, .int .i64 0, .int .i64 1, .string ⟨#[]⟩, .int .i64 0, .int .i64 1, .string ⟨#[97]⟩, .int .i64 6, .int .i64 1, .string ⟨#[97]⟩, .int .i64 (-1), .int .i64 1, .string ⟨#[97, 98, 99, 100, 101, 102, 103, 104, 105, 106, 107, 108, 109, 110, 111, 112, 113]⟩, .int .i64 0] 27)) p b []) := HQ.out.below ((Below.refl _ _).alloc (Nat.le_refl _) _)
  have HNB : Hid (wa6.heap.size ≠ b) := by have := HQ.out.whl.m.lt; unfold Hid; omega
  clear HQ
  go_wp2_with fail
  generalize wa6.alloc (.cells #[.int .i64 0, .string ⟨#[97]⟩, .int .i64 0, .int .i64 8, .string ⟨#[97]⟩, .int .i64 0, .int .i64 1, .string ⟨#[65]⟩, .int .i64 0, .int .i64 1, .string ⟨#[]⟩, .int .i64 0, .int .i64 1, .string ⟨#[97]⟩, .int .i64 6, .int .i64 1, .string ⟨#[97]⟩, .int .i64 (-1), .int .i64 1, .string ⟨#[97, 98, 99, 100, 101, 102, 103, 104, 105, 106, 107, 108, 109, 110, 111, 112, 113]⟩, .int .i64 0] 27) = wb at *
  generalize wa6.heap.size = gb at *
  go_loopw [25] (fun i wr => ∃ k : Nat, k ≤ 7 ∧ i = .int .i64 k ∧ KwAt w wr p b [] ∧ KeysAt wr (.slice (some ⟨gb, 0, none⟩) 7 7) bads) (fun i _ => 7 - (intOf i).toNat)
  case atStart => exact ⟨0, by omega, rfl, HQ1.out, HKA.out⟩
  case round =>
    obtain ⟨k, hk, rfl, hq, hka⟩ := hrel
    have HQ : Hid (KwAt w wr p b []) := hq
    have HA : Hid (KeysAt wr (.slice (some ⟨gb, 0, none⟩) 7 7) bads) := hka
    clear hq hka
    by_cases hlt : k < 7
    · have hlt' : (k : Int) < 7 := by omega
      obtain ⟨g', c', e', c0, c1, c2⟩ := HA.out.cell k hlt
      have HN : Hid (mayK (bads[k]'hlt) = false) := bads_not _ (List.getElem_mem _)
      injection e' with e1 e2 e3
      injection e1 with e1
      injection e1 with e1
      subst e1
      clear e2 e3
      generalize bads[k]'hlt = x at *
      have HQ2 : Hid (KwAt w (wr.alloc (.cells #[.int .i64 x.kind, .string x.peer, .int .i64 x.fam] 27)) p b []) := HQ.out.below ((Below.refl _ _).alloc (Nat.le_refl _) _)
      have HAR : Hid (_ : Prop) := arm_any HQ2.out.whl x 1 (by decide)
      rw [armI_no (L := []) (k := x) (t := 1) (by rw [armE_arg (Or.inl HN.out)]; decide), armE_arg (Or.inl HN.out)] at HAR
      go_wp2_with (go_at_call 10; refine Calls.mono HAR.out ?_; rintro e w5 ⟨rfl, hw5, hg5⟩)
      have HQ5 : Hid (KwAt w w5 p b []) := HQ2.out.turned hw5 hg5 HBB.out
      have HA5 : Hid (KeysAt w5 (.slice (some ⟨gb, 0, none⟩) 7 7) bads) := (HA.out.kept (grown_of_below ((Below.refl _ _).alloc (Nat.le_refl _) (.cells #[.int .i64 x.kind, .string x.peer, .int .i64 x.fam] 27)) none) (fun r e => by cases e)).kept hg5 (fun r e e2 => by cases e; exact HNB.out (by simpa [Value.ownBlock] using e2))
      clear hw5 hg5
      go_wp2
      go_roundw
      case rel => exact ⟨k + 1, by omega, by go_num, HQ5.out, HA5.out⟩
      case measure => simp [intOf]; omega
    · obtain rfl : k = 7 := by omega
      generalize wr = wo at *
      clear HA HQ1 HKA HNB
      have HA1 : Hid (∀ W, WhAt W p b [] → Calls Try.prog 10 #[.pointer (some ⟨p, 0, none⟩), .agg #[.int .i64 1, .string ⟨#[97]⟩, .int .i64 0], .int .u64 1099511627777] W fun e w' => e = .returned (.int .i64 2) ∧ WhAt w' p b [] ∧ W.grownBy w' (some b)) := fun W h => by
        have := arm_any h k0 1099511627777 (by decide)
        rw [armI_no (L := []) (k := k0) (t := 1099511627777) (by rw [armE_arg (Or.inr (by decide))]; decide), armE_arg (Or.inr (by decide))] at this
        exact this
      have HA2 : Hid (∀ W, WhAt W p b [] → Calls Try.prog 10 #[.pointer (some ⟨p, 0, none⟩), .agg #[.int .i64 1, .string ⟨#[97]⟩, .int .i64 0], .int .u64 1099511627776] W fun e w' => e = .returned (.int .i64 0) ∧ WhAt w' p b [⟨1099511627776, k0⟩] ∧ W.grownBy w' (some b)) := fun W h => by
        have h0 : armE [] k0 1099511627776 = 0 := armE_ok k0_may (by decide) (Or.inr (by decide))
        have := arm_any h k0 1099511627776 (by decide)
        rw [armI_ok h0, h0] at this
        exact this
      go_wp2_with fail
      refine Calls.mono (HK.out _ _ _ _) ?_
      rintro e w2 ⟨rfl, hg⟩
      replace HQ : Hid (KwAt w w2 p b []) := HQ.out.below hg.bel
      clear hg
      go_wp2_with fail
      refine Calls.mono (HA1.out _ HQ.out.whl) ?_
      rintro e w3 ⟨rfl, hw3, hg⟩
      replace HQ : Hid (KwAt w w3 p b []) := HQ.out.turned hw3 hg HBB.out
      clear hg hw3
      go_wp2_with fail
      refine Calls.mono (HK.out _ _ _ _) ?_
      rintro e w4 ⟨rfl, hg⟩
      replace HQ : Hid (KwAt w w4 p b []) := HQ.out.below hg.bel
      clear hg
      go_wp2_with fail
      refine Calls.mono (HA2.out _ HQ.out.whl) ?_
      rintro e w5 ⟨rfl, hw5, hg⟩
      have HQ5 : Hid (KwAt w w5 p b [⟨1099511627776, k0⟩]) := HQ.out.turned hw5 hg HBB.out
      clear hg hw5 HQ HA1 HA2
      go_wp2_with fail
      go_loopw [4] (fun i wr => ∃ (k : Nat) (L : List Fd), k ≤ 1023 ∧ i = .int .i64 k ∧ KwAt w wr p b L ∧ Kn L k) (fun i _ => 1023 - (intOf i).toNat)
      case atStart => exact ⟨0, _, by omega, rfl, HQ5.out, ⟨rfl, by simp, fun x hx => Or.inl (by simpa using hx)⟩⟩
      case round =>
        obtain ⟨k, L, hk, rfl, hq, hkn⟩ := hrel
        have HQ : Hid (KwAt w wr p b L) := hq
        have HN : Hid (Kn L k) := hkn
        clear hq hkn
        by_cases hlt : k < 1023
        · have hlt' : (k : Int) < 1023 := by omega
          have hconv := nkS_conv k hlt wr
          have HQ1 : Hid (KwAt w (wr.alloc (.cells #[.int .u8 98, .int .u8 (97 + (k : Int) % 26), .int .u8 (97 + (k : Int) / 26 % 26), .int .u8 (97 + (k : Int) / 676)] 5)) p b L) := HQ.out.below ((Below.refl _ _).alloc (Nat.le_refl _) _)
          have HNX : Hid (armE L (nk k) 7 = 0 ∧ Kn (armI L (nk k) 7) (k + 1)) := HN.out.next HQ.out.whl.m.whl hlt
          have HAR : Hid (∀ W, WhAt W p b L → Calls Try.prog 10 #[.pointer (some ⟨p, 0, none⟩), .agg #[.int .i64 (1 + (k : Int) % 7), .string (nkS k), .int .i64 ((k : Int) % 6)], .int .u64 7] W fun e w' => e = .returned (.int .i64 0) ∧ WhAt w' p b (armI L (nk k) 7) ∧ W.grownBy w' (some b)) := fun W h => by
            have := arm_any h (nk k) 7 (by rw [HN.out.len]; omega)
            rw [HNX.out.1] at this
            exact this
          generalize nkS k = sn at *
          go_wp2_with (first | (go_at_call 25; refine Calls.mono (HK.out _ _ _ _) ?_; rintro e w6 ⟨rfl, hg⟩) | (go_at_call 10; refine Calls.mono (HAR.out _ (HQ1.out.below hg.bel).whl) ?_; rintro e w7 ⟨rfl, hw7, hg7⟩))
          have HQ7 : Hid (KwAt w w7 p b (armI L (nk k) 7)) := (HQ1.out.below hg.bel).turned hw7 hg7 HBB.out
          clear hg hg7 hw7 hconv
          go_wp2
          go_roundw
          case rel => exact ⟨k + 1, _, by omega, by go_num, HQ7.out, HNX.out.2⟩
          case measure => simp [intOf]; omega
        · obtain rfl : k = 1023 := by omega
          generalize wr = wx at *
          have HF : Hid (_ ∧ _) := HN.out.full
          have HM : Hid (_ ∧ _) := HN.out.moved HQ.out.whl.m.whl
          have HL : Hid (L.length = 1024) := HN.out.len
          have HLE : Hid (∀ W, WhAt W p b L → Calls Try.prog 20 #[.pointer (some ⟨p, 0, none⟩)] W fun e w' => e = .returned (.int .i64 1024) ∧ w' = W) := fun W h => by
            have := len_any h
            rw [HL.out] at this
            exact this
          have HAZ : Hid (∀ W, WhAt W p b L → Calls Try.prog 10 #[.pointer (some ⟨p, 0, none⟩), .agg #[.int .i64 2, .string ⟨#[122, 122]⟩, .int .i64 0], .int .u64 7] W fun e w' => e = .returned (.int .i64 7) ∧ WhAt w' p b L ∧ W.grownBy w' (some b)) := fun W h => by
            have := arm_any h kz 7 (by rw [HL.out]; omega)
            rw [HF.out.1, HF.out.2] at this
            exact this
          have HA0 : Hid (∀ W, WhAt W p b L → Calls Try.prog 10 #[.pointer (some ⟨p, 0, none⟩), .agg #[.int .i64 1, .string ⟨#[97]⟩, .int .i64 0], .int .u64 3] W fun e w' => e = .returned (.int .i64 0) ∧ WhAt w' p b (armed L k0 3) ∧ W.grownBy w' (some b)) := fun W h => by
            have := arm_any h k0 3 (by rw [HL.out]; omega)
            rw [HM.out.1, HM.out.2.1] at this
            exact this
          obtain ⟨M, hM⟩ : ∃ M, M = armed L k0 3 := ⟨_, rfl⟩
          rw [← hM] at HM HA0
          have HNT : Hid (∀ W, WhAt W p b M → Calls Try.prog 19 #[.pointer (some ⟨p, 0, none⟩)] W fun e w' => e = .returned (.tuple #[.int .u64 3, .bool true]) ∧ Below W.heap.size W w') := fun W h => by
            have := next_any h
            rw [HM.out.2.2.2.1, HM.out.2.2.2.2.1] at this
            exact this
          have HT2 : Hid (∀ W, WhAt W p b M → Calls Try.prog 16 #[.pointer (some ⟨p, 0, none⟩), .int .u64 2] W fun e w' => ∃ v, e = .returned v ∧ OwnF w' W.heap.size v [] ∧ WhAt w' p b M ∧ W.grownBy w' (some b)) := fun W h => by
            have := take_any h 2 (by rw [HM.out.2.2.1]; omega)
            rw [HM.out.2.2.2.2.2.1, HM.out.2.2.2.2.2.2.1] at this
            exact this
          have HT3 : Hid (∀ W, WhAt W p b M → Calls Try.prog 16 #[.pointer (some ⟨p, 0, none⟩), .int .u64 3] W fun e w' => ∃ ad c, e = .returned (.slice ad 1 c) ∧ WhAt w' p b (leftF M 3) ∧ W.grownBy w' (some b)) := fun W h => by
            refine (take_any h 3 (by rw [HM.out.2.2.1]; omega)).mono ?_
            rintro e w' ⟨v, rfl, ho, hw, hg⟩
            obtain ⟨ad, c, rfl, _⟩ := own_len ho
            exact ⟨ad, c, by rw [HM.out.2.2.2.2.2.2.2], hw, hg⟩
          have HAN : Hid (∀ W, Calls Try.prog 10 #[.pointer none, .agg #[.int .i64 1, .string ⟨#[97]⟩, .int .i64 0], .int .u64 1] W fun e w' => e = .returned (.int .i64 1) ∧ Below W.heap.size W w') := fun W => arm_nil k0 1 W
          have HTN : Hid (∀ W, Calls Try.prog 8 #[.pointer none, .agg #[.int .i64 1, .string ⟨#[97]⟩, .int .i64 0]] W fun e w' => e = .returned (.tuple #[.int .u64 0, .bool false]) ∧ Below W.heap.size W w') := fun W => at_nil k0 W
          have HAO : Hid (∀ (q : Nat) (W : World), W.cell? ⟨q, 0, none⟩ = some (.map none) → Calls Try.prog 10 #[.pointer (some ⟨q, 0, none⟩), .agg #[.int .i64 0, .string ⟨#[]⟩, .int .i64 9], .int .u64 1] W fun e w' => e = .returned (.int .i64 1) ∧ Below W.heap.size W w') := fun q W h => arm_none ⟨0, ⟨#[]⟩, 9, by decide, by decide, by decide⟩ 1 h
          clear hM HF HN HL HQ5 hlt hk
          go_wp2_with fail
          refine Calls.mono (HLE.out _ HQ.out.whl) ?_
          rintro e wq ⟨rfl, hwq⟩
          subst wq
          go_wp2_with fail
          refine Calls.mono (HK.out _ _ _ _) ?_
          rintro e y1 ⟨rfl, hg⟩
          replace HQ : Hid (KwAt w y1 p b L) := HQ.out.below hg.bel
          clear hg
          go_wp2_with fail
          refine Calls.mono (HAZ.out _ HQ.out.whl) ?_
          rintro e y2 ⟨rfl, hw, hg⟩
          replace HQ : Hid (KwAt w y2 p b L) := HQ.out.turned hw hg HBB.out
          clear hg hw
          go_wp2_with fail
          refine Calls.mono (HK.out _ _ _ _) ?_
          rintro e y3 ⟨rfl, hg⟩
          replace HQ : Hid (KwAt w y3 p b L) := HQ.out.below hg.bel
          clear hg
          go_wp2_with fail
          refine Calls.mono (HA0.out _ HQ.out.whl) ?_
          rintro e y4 ⟨rfl, hw, hg⟩
          have HR : Hid (KwAt w y4 p b M) := HQ.out.turned hw hg HBB.out
          clear hg hw HQ HAZ HA0 HLE
          go_wp2_with fail
          refine Calls.mono (HNT.out _ HR.out.whl) ?_
          rintro e y5 ⟨rfl, hb5⟩
          replace HR : Hid (KwAt w y5 p b M) := HR.out.below hb5
          clear hb5
          go_wp2_with fail
          refine Calls.mono (HK.out _ _ _ _) ?_
          rintro e y6 ⟨rfl, hg⟩
          replace HR : Hid (KwAt w y6 p b M) := HR.out.below hg.bel
          clear hg
          go_wp2_with fail
          refine Calls.mono (HTN.out _) ?_
          rintro e y7 ⟨rfl, hb7⟩
          replace HR : Hid (KwAt w y7 p b M) := HR.out.below hb7
          clear hb7
          go_wp2_with fail
          refine Calls.mono (new_any _) ?_
          rintro e y8 ⟨rfl, hw8, hb8⟩
          have HN8 : Hid (_ : Prop) := next_any hw8
          replace HR : Hid (KwAt w y8 p b M) := HR.out.below hb8
          clear hb8 hw8
          go_wp2_with fail
          refine Calls.mono HN8.out ?_
          rintro e y9 ⟨rfl, hb9⟩
          replace HR : Hid (KwAt w y9 p b M) := HR.out.below hb9
          clear hb9 HN8
          go_wp2_with fail
          refine Calls.mono (HT2.out _ HR.out.whl) ?_
          rintro e z1 ⟨v1, rfl, ho, hw, hg⟩
          obtain ⟨ad1, c1, rfl, _⟩ := own_len ho
          replace HR : Hid (KwAt w z1 p b M) := HR.out.turned hw hg HBB.out
          clear ho hw hg
          go_wp2_with fail
          refine Calls.mono (HT3.out _ HR.out.whl) ?_
          rintro e z2 ⟨ad2, c2, rfl, hw, hg⟩
          have HB2 : Hid (Below w.heap.size w z2) := (HR.out.turned hw hg HBB.out).bel
          clear hw hg HR HT2 HT3 HNT HM
          go_wp2_with fail
          refine Calls.mono (HK.out _ _ _ _) ?_
          rintro e z3 ⟨rfl, hg⟩
          have HB3 : Hid (Below w.heap.size w z3) := HB2.out.trans (hg.bel.mono HB2.out.size)
          clear hg
          go_wp2_with fail
          refine Calls.mono (HAN.out _) ?_
          rintro e z4 ⟨rfl, hb4⟩
          have HB4 : Hid (Below w.heap.size w z4) := HB3.out.trans (hb4.mono HB3.out.size)
          clear hb4
          go_wp2_with fail
          refine Calls.mono (HK.out _ _ _ _) ?_
          rintro e z5 ⟨rfl, hg⟩
          have HC5 : Hid (z5.cell? ⟨z4.heap.size, 0, none⟩ = some (.map none)) := cell2 hg.bel (by simp)
          have HB5 : Hid (Below w.heap.size w z5) := (HB4.out.alloc HB4.out.size _).trans (hg.bel.mono (Nat.le_trans HB4.out.size (by simp)))
          clear hg
          go_wp2_with fail
          refine Calls.mono (HAO.out _ _ HC5.out) ?_
          rintro e z6 ⟨rfl, hb6⟩
          have HB6 : Hid (Below w.heap.size w z6) := HB5.out.trans (hb6.mono HB5.out.size)
          clear hb6
          go_wp2_with fail
          refine (len_nil' _).mono ?_
          rintro e wq ⟨rfl, hwq⟩
          subst wq
          go_wp2_with fail
          refine (copy_nil _).mono ?_
          rintro e wq ⟨rfl, hwq⟩
          subst wq
          go_wp2_with fail
          refine (take_nil _ _).mono ?_
          rintro e z7 ⟨rfl, hb7⟩
          have HB7 : Hid (Below w.heap.size w z7) := HB6.out.trans (hb7.mono HB6.out.size)
          clear hb7
          go_wp2_with fail
          refine (drop_nil' _ _).mono ?_
          rintro e z8 ⟨rfl, hb8⟩
          have HB8 : Hid (Below w.heap.size w z8) := HB7.out.trans (hb8.mono HB7.out.size)
          clear hb8
          go_wp2_with fail
          refine (works_any _).mono ?_
          rintro e z9 ⟨rfl, hb9⟩
          go_wp2
          go_ret
          exact ⟨rfl, HB8.out.trans (hb9.mono HB8.out.size)⟩
end Go.Proofs.Ytgplhdhnailpfaa
