/-
  Arm.
-/
import Derived.Test.YtgplhdhnailpfaaB2
set_option linter.unusedSimpArgs false
set_option maxRecDepth 100000
namespace Go.Proofs.Ytgplhdhnailpfaa
open Go.RowKit Go.Maps
/-- What Arm answers. -/
def armE (L : List Fd) (k : Ky) (t : Nat) : Int := if mayK k = false ∨ 1099511627776 < t then 2 else if (lookF L k).isSome = false ∧ 1024 ≤ L.length then 7 else 0
/-- The timers behind it. -/
def armI (L : List Fd) (k : Ky) (t : Nat) : List Fd := if armE L k t = 0 then armed L k t else L
theorem armE_arg {L : List Fd} {k : Ky} {t : Nat} (h : mayK k = false ∨ 1099511627776 < t) : armE L k t = 2 := by unfold armE; rw [if_pos h]
theorem armE_full {L : List Fd} {k : Ky} {t : Nat} (h : mayK k = true) (ht : t ≤ 1099511627776) (h1 : (lookF L k).isSome = false) (h2 : 1024 ≤ L.length) : armE L k t = 7 := by
  unfold armE; rw [if_neg (by rw [h]; simp; omega), if_pos ⟨h1, h2⟩]
theorem armE_ok {L : List Fd} {k : Ky} {t : Nat} (h : mayK k = true) (ht : t ≤ 1099511627776) (h1 : (lookF L k).isSome = true ∨ L.length < 1024) : armE L k t = 0 := by
  unfold armE; rw [if_neg (by rw [h]; simp; omega), if_neg (by rintro ⟨h2, h3⟩; rcases h1 with h1 | h1 <;> simp_all <;> omega)]
theorem armI_no {L : List Fd} {k : Ky} {t : Nat} (h : armE L k t ≠ 0) : armI L k t = L := by unfold armI; rw [if_neg h]
theorem armI_ok {L : List Fd} {k : Ky} {t : Nat} (h : armE L k t = 0) : armI L k t = armed L k t := by unfold armI; rw [if_pos h]
theorem map_eql (b : Nat) (W : World) : (binOp .eql 60 (.map (some b)) (.map none)).run Try.prog W = .ok (.bool false) W := by kernel_rfl
theorem nil_eql (W : World) : (binOp .eql 60 (.map none) (.map none)).run Try.prog W = .ok (.bool true) W := by kernel_rfl
theorem box_cells {w w2 : World} (k : Ky) (hb : Below (w.alloc (.cells #[.int .i64 k.kind, .string k.peer, .int .i64 k.fam] 27)).heap.size (w.alloc (.cells #[.int .i64 k.kind, .string k.peer, .int .i64 k.fam] 27)) w2) :
    w2.cell? ⟨w.heap.size, 0, none⟩ = some (.int .i64 k.kind) ∧ w2.cell? ⟨w.heap.size, 1, none⟩ = some (.string k.peer) ∧ w2.cell? ⟨w.heap.size, 2, none⟩ = some (.int .i64 k.fam) := by
  refine ⟨(hb.cell (p := ⟨w.heap.size, 0, none⟩) (by simp)).trans (by simp), (hb.cell (p := ⟨w.heap.size, 1, none⟩) (by simp)).trans (by simp), (hb.cell (p := ⟨w.heap.size, 2, none⟩) (by simp)).trans (by simp)⟩
theorem armI_len {L : List Fd} (h : Whl L) (k : Ky) (t : Nat) : (armI L k t).length ≤ L.length + 1 := by
  unfold armI
  split
  · rw [len_armed h.once]; split <;> omega
  · omega
set_option maxHeartbeats 1000000 in
theorem arm_any {p b : Nat} {L : List Fd} {w : World} (h : WhAt w p b L) (k : Ky) (t : Nat) (hl : L.length ≤ 50000) :
    Calls Try.prog 10 #[.pointer (some ⟨p, 0, none⟩), .agg #[.int .i64 k.kind, .string k.peer, .int .i64 k.fam], .int .u64 (t : Int)] w fun e w' => e = .returned (.int .i64 (armE L k t)) ∧ WhAt w' p b (armI L k t) ∧ w.grownBy w' (some b) := by
  have hb1 : Below w.heap.size w (w.alloc (.cells #[.int .i64 k.kind, .string k.peer, .int .i64 k.fam] 27)) := (Below.refl _ _).alloc (Nat.le_refl _) _
  have h1 : WhAt (w.alloc (.cells #[.int .i64 k.kind, .string k.peer, .int .i64 k.fam] 27)) p b L := h.below hb1
  have hlook := h1.m.look k
  have hmq := map_eql b
  have HM : Hid (∀ W, _) := fun W => mayBe_any k W
  have HB : Hid (_ : Prop) := hb1
  have HW : Hid (_ : Prop) := h1
  clear hb1
  cases hm : mayK k
  · rw [hm] at HM
    have H : Hid (armE L k t = 2) := armE_arg (Or.inl hm)
    have H2 : Hid (armI L k t = L) := armI_no (by rw [H.out]; decide)
    rw [H2.out]
    generalize armE L k t = e2 at *
    generalize (lookF L k).isSome = r at hlook
    generalize (lookF L k).getD 0 = u at hlook
    clear h hl hm H2
    go_enter Try.func10, Try.ntmps10
    go_wp2_with (first | (go_at_call 26; refine (timers_yes h1).mono ?_; rintro e w' ⟨rfl, rfl⟩) | (go_at_call 27; refine Calls.mono (HM.out _) ?_; rintro e w2 ⟨rfl, hb2⟩))
    go_ret
    exact ⟨ret_int H.out.symm, HW.out.below hb2, (grown_of_below HB.out _).trans (grown_of_below hb2 _)⟩
  · rw [hm] at HM
    by_cases ht : 1099511627776 < t
    · have H : Hid (armE L k t = 2) := armE_arg (Or.inr ht)
      have H2 : Hid (armI L k t = L) := armI_no (by rw [H.out]; decide)
      rw [H2.out]
      have ht' : (1099511627776 : Int) < (t : Int) := by omega
      generalize armE L k t = e2 at *
      generalize (lookF L k).isSome = r at hlook
      generalize (lookF L k).getD 0 = u at hlook
      clear h hl hm H2 ht
      go_enter Try.func10, Try.ntmps10
      go_wp2_with (first | (go_at_call 26; refine (timers_yes h1).mono ?_; rintro e w' ⟨rfl, rfl⟩) | (go_at_call 27; refine Calls.mono (HM.out _) ?_; rintro e w2 ⟨rfl, hb2⟩))
      go_ret
      exact ⟨ret_int H.out.symm, HW.out.below hb2, (grown_of_below HB.out _).trans (grown_of_below hb2 _)⟩
    · have ht' : ¬ (1099511627776 : Int) < (t : Int) := by omega
      have HT : Hid (t ≤ 1099511627776) := by unfold Hid; omega
      clear ht
      cases hr : (lookF L k).isSome
      · by_cases hfull : 1024 ≤ L.length
        · have H : Hid (armE L k t = 7) := armE_full hm HT.out hr hfull
          have H2 : Hid (armI L k t = L) := armI_no (by rw [H.out]; decide)
          rw [H2.out]
          rw [hr] at hlook
          have hfull' : (1024 : Int) ≤ (L.length : Int) := by omega
          generalize armE L k t = e2 at *
          generalize (lookF L k).getD 0 = u at hlook
          clear h hm H2 hr hfull hl
          go_enter Try.func10, Try.ntmps10
          go_wp2_with (first | (go_at_call 26; refine (timers_yes h1).mono ?_; rintro e w' ⟨rfl, rfl⟩) | (go_at_call 27; refine Calls.mono (HM.out _) ?_; rintro e w2 ⟨rfl, hb2⟩; have hln := (HW.out.below hb2).m.len))
          go_ret
          exact ⟨ret_int H.out.symm, HW.out.below hb2, (grown_of_below HB.out _).trans (grown_of_below hb2 _)⟩
        · have H : Hid (armE L k t = 0) := armE_ok hm HT.out (Or.inr (by omega))
          have H2 : Hid (armI L k t = armed L k t) := armI_ok H.out
          rw [H2.out]
          rw [hr] at hlook
          have HL : Hid (L.length ≤ 100000) := by unfold Hid; omega
          have hfull' : ¬ (1024 : Int) ≤ (L.length : Int) := by omega
          generalize armE L k t = e2 at *
          generalize (lookF L k).getD 0 = u at hlook
          clear h hm H2 hr hfull hl
          go_enter Try.func10, Try.ntmps10
          go_wp2_with (first | (go_at_call 26; refine (timers_yes h1).mono ?_; rintro e w' ⟨rfl, rfl⟩) | (go_at_call 27; refine Calls.mono (HM.out _) ?_; rintro e w2 ⟨rfl, hb2⟩; have hln := (HW.out.below hb2).m.len; obtain ⟨d0, d1, d2⟩ := box_cells k hb2; obtain ⟨w3, hput, hm3, hg3⟩ := (HW.out.below hb2).m.put k t HT.out HL.out))
          go_ret
          exact ⟨ret_int H.out.symm, (HW.out.below hb2).turned hg3 hm3, ((grown_of_below HB.out _).trans (grown_of_below hb2 _)).trans hg3⟩
      · have H : Hid (armE L k t = 0) := armE_ok hm HT.out (Or.inl hr)
        have H2 : Hid (armI L k t = armed L k t) := armI_ok H.out
        rw [H2.out]
        rw [hr] at hlook
        have HL : Hid (L.length ≤ 100000) := by unfold Hid; omega
        generalize armE L k t = e2 at *
        generalize (lookF L k).getD 0 = u at hlook
        clear h hm H2 hr hl
        go_enter Try.func10, Try.ntmps10
        go_wp2_with (first | (go_at_call 26; refine (timers_yes h1).mono ?_; rintro e w' ⟨rfl, rfl⟩) | (go_at_call 27; refine Calls.mono (HM.out _) ?_; rintro e w2 ⟨rfl, hb2⟩; obtain ⟨d0, d1, d2⟩ := box_cells k hb2; obtain ⟨w3, hput, hm3, hg3⟩ := (HW.out.below hb2).m.put k t HT.out HL.out))
        go_ret
        exact ⟨ret_int H.out.symm, (HW.out.below hb2).turned hg3 hm3, ((grown_of_below HB.out _).trans (grown_of_below hb2 _)).trans hg3⟩
end Go.Proofs.Ytgplhdhnailpfaa
