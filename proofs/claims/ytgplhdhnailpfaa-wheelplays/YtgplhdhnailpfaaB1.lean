/-
  The wheel's small functions: its map, names, keys that may be; a new wheel, Len, At, Cancel, Arm.
-/
import Derived.Test.YtgplhdhnailpfaaA1
set_option linter.unusedSimpArgs false
set_option maxRecDepth 100000
namespace Go.Proofs.Ytgplhdhnailpfaa
open Go.RowKit Go.Maps
theorem timers_yes {p b : Nat} {L : List Fd} {w : World} (h : WhAt w p b L) : Calls Try.prog 26 #[.pointer (some ⟨p, 0, none⟩)] w fun e w' => e = .returned (.map (some b)) ∧ w' = w := by
  have hc := h.c
  clear h
  go_enter Try.func26, Try.ntmps26
  go_wp2
  go_ret
  exact ⟨rfl, rfl⟩
theorem timers_nil (w : World) : Calls Try.prog 26 #[.pointer none] w fun e w' => e = .returned (.map none) ∧ w' = w := by
  go_enter Try.func26, Try.ntmps26
  go_wp2
  go_ret
  exact ⟨rfl, rfl⟩
theorem timers_none {p : Nat} {w : World} (hc : w.cell? ⟨p, 0, none⟩ = some (.map none)) : Calls Try.prog 26 #[.pointer (some ⟨p, 0, none⟩)] w fun e w' => e = .returned (.map none) ∧ w' = w := by
  go_enter Try.func26, Try.ntmps26
  go_wp2
  go_ret
  exact ⟨rfl, rfl⟩
/-- A small letter. -/
def letB (c : UInt8) : Bool := decide (97 ≤ c.toNat ∧ c.toNat ≤ 122)
def digB (c : UInt8) : Bool := decide (48 ≤ c.toNat ∧ c.toNat ≤ 57)
theorem isLetter_any (c : UInt8) (w : World) : Calls Try.prog 49 #[.int .u8 (c.toNat : Int)] w fun e w' => e = .returned (.bool (letB c)) ∧ w' = w := by
  by_cases h1 : 97 ≤ c.toNat
  · by_cases h2 : c.toNat ≤ 122
    · have H : Hid (letB c = true) := by unfold Hid letB; simp [h1, h2]
      have h1' : (97 : Int) ≤ (c.toNat : Int) := by omega
      have h2' : (c.toNat : Int) ≤ 122 := by omega
      clear h1 h2
      go_enter Try.func49, Try.ntmps49
      go_wp2
      go_ret
      exact ⟨ret_bool H.out.symm, rfl⟩
    · have H : Hid (letB c = false) := by unfold Hid letB; simp [h1, h2]
      have h1' : (97 : Int) ≤ (c.toNat : Int) := by omega
      have h2' : ¬ (c.toNat : Int) ≤ 122 := by omega
      clear h1 h2
      go_enter Try.func49, Try.ntmps49
      go_wp2
      go_ret
      exact ⟨ret_bool H.out.symm, rfl⟩
  · have H : Hid (letB c = false) := by unfold Hid letB; simp [h1]
    have h1' : ¬ (97 : Int) ≤ (c.toNat : Int) := by omega
    clear h1
    go_enter Try.func49, Try.ntmps49
    go_wp2
    go_ret
    exact ⟨ret_bool H.out.symm, rfl⟩
theorem isDigit_any (c : UInt8) (w : World) : Calls Try.prog 50 #[.int .u8 (c.toNat : Int)] w fun e w' => e = .returned (.bool (digB c)) ∧ w' = w := by
  by_cases h1 : 48 ≤ c.toNat
  · by_cases h2 : c.toNat ≤ 57
    · have H : Hid (digB c = true) := by unfold Hid digB; simp [h1, h2]
      have h1' : (48 : Int) ≤ (c.toNat : Int) := by omega
      have h2' : (c.toNat : Int) ≤ 57 := by omega
      clear h1 h2
      go_enter Try.func50, Try.ntmps50
      go_wp2
      go_ret
      exact ⟨ret_bool H.out.symm, rfl⟩
    · have H : Hid (digB c = false) := by unfold Hid digB; simp [h1, h2]
      have h1' : (48 : Int) ≤ (c.toNat : Int) := by omega
      have h2' : ¬ (c.toNat : Int) ≤ 57 := by omega
      clear h1 h2
      go_enter Try.func50, Try.ntmps50
      go_wp2
      go_ret
      exact ⟨ret_bool H.out.symm, rfl⟩
  · have H : Hid (digB c = false) := by unfold Hid digB; simp [h1]
    have h1' : ¬ (48 : Int) ≤ (c.toNat : Int) := by omega
    clear h1
    go_enter Try.func50, Try.ntmps50
    go_wp2
    go_ret
    exact ⟨ret_bool H.out.symm, rfl⟩
/-- A sign of a name. -/
def nameC (c : UInt8) : Bool := letB c || digB c || c == 45
/-- A name. -/
def nameB (s : ByteArray) : Bool := decide (0 < s.size ∧ s.size ≤ 16) && letB (s.data.toList.headD 0) && s.data.toList.all nameC
/-- May a key be? -/
def mayK (k : Ky) : Bool := decide (1 ≤ k.kind ∧ k.kind ≤ 7) && nameB k.peer && decide (0 ≤ k.fam ∧ k.fam ≤ 5)
theorem new_any (w : World) : Calls Try.prog 7 #[] w fun e w' => e = .returned (.pointer (some ⟨w.heap.size + 1, 0, none⟩)) ∧ WhAt w' (w.heap.size + 1) w.heap.size [] ∧ Below w.heap.size w w' := by
  have hmm := @run_makeMap Try.prog
  go_enter Try.func7, Try.ntmps7
  go_wp2
  go_ret
  refine ⟨rfl, ⟨by simp, (MpAt.made w).alloc _⟩, ((Below.refl _ _).alloc (Nat.le_refl _) _).alloc (by simp) _⟩
theorem len_any {p b : Nat} {L : List Fd} {w : World} (h : WhAt w p b L) : Calls Try.prog 20 #[.pointer (some ⟨p, 0, none⟩)] w fun e w' => e = .returned (.int .i64 (L.length : Int)) ∧ w' = w := by
  have hl := h.m.len
  go_enter Try.func20, Try.ntmps20
  go_wp2_with (go_at_call 26; refine (timers_yes h).mono ?_; rintro e w' ⟨rfl, rfl⟩)
  go_ret
  exact ⟨rfl, rfl⟩
theorem at_any {p b : Nat} {L : List Fd} {w : World} (h : WhAt w p b L) (k : Ky) :
    Calls Try.prog 8 #[.pointer (some ⟨p, 0, none⟩), .agg #[.int .i64 k.kind, .string k.peer, .int .i64 k.fam]] w fun e w' => e = .returned (.tuple #[.int .u64 (((lookF L k).getD 0 : Nat) : Int), .bool (lookF L k).isSome]) ∧ Below w.heap.size w w' := by
  have h1 : WhAt (w.alloc (.cells #[.int .i64 k.kind, .string k.peer, .int .i64 k.fam] 27)) p b L := h.below ((Below.refl _ _).alloc (Nat.le_refl _) _)
  have hc : ∀ n, WhAt ((w.alloc (.cells #[.int .i64 k.kind, .string k.peer, .int .i64 k.fam] 27)).drewN n) p b L := fun n => h1.below (below_drewN (Below.refl _ _) n)
  have hl := fun n => (hc n).m.look k
  generalize (lookF L k).isSome = r at hl ⊢
  generalize (lookF L k).getD 0 = t at hl ⊢
  have HC : Hid (_ : Prop) := hc
  clear h h1 hc
  go_enter Try.func8, Try.ntmps8
  go_wp2
  go_quiet ((go_at_call 26; exact Calls.quiet_of_same (timers_yes (HC.out _))))
  go_wp2
  go_ret2
  exact ⟨rfl, below_drewN ((Below.refl _ _).alloc (Nat.le_refl _) _) _⟩
theorem cancel_any {p b : Nat} {L : List Fd} {w : World} (h : WhAt w p b L) (k : Ky) :
    Calls Try.prog 12 #[.pointer (some ⟨p, 0, none⟩), .agg #[.int .i64 k.kind, .string k.peer, .int .i64 k.fam]] w fun e w' => e = .returned (.bool (lookF L k).isSome) ∧ WhAt w' p b (without L k) ∧ w.grownBy w' (some b) := by
  have hb1 : Below w.heap.size w (w.alloc (.cells #[.int .i64 k.kind, .string k.peer, .int .i64 k.fam] 27)) := (Below.refl _ _).alloc (Nat.le_refl _) _
  have h1 : WhAt (w.alloc (.cells #[.int .i64 k.kind, .string k.peer, .int .i64 k.fam] 27)) p b L := h.below hb1
  have hl := h1.m.look k
  obtain ⟨w2, hd, hm2, hg2, _⟩ := h1.m.del k 0
  have H : Hid (WhAt w2 p b (without L k) ∧ w.grownBy w2 (some b)) := ⟨h1.turned hg2 hm2, (grown_of_below hb1 _).trans hg2⟩
  generalize (lookF L k).isSome = r at hl ⊢
  generalize (lookF L k).getD 0 = t at hl ⊢
  clear hm2 hg2 h hb1
  go_enter Try.func12, Try.ntmps12
  go_wp2_with (go_at_call 26; refine (timers_yes h1).mono ?_; rintro e w' ⟨rfl, rfl⟩)
  go_ret
  exact ⟨rfl, H.out⟩
end Go.Proofs.Ytgplhdhnailpfaa
