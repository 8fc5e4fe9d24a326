/-
  readNumber of every text.
-/
import Derived.Test.YtkgedoedojkdkaaDoorTn
import Derived.Test.YtkgedoedojkdkaaDoorTv
set_option linter.unusedVariables false
set_option linter.unusedSimpArgs false
set_option maxRecDepth 100000
namespace Go.Proofs.YtkgedoedojkdkaaDoor
open Go.RowKit
def rdN (D : Nat → List UInt8) (o : Option Nat) (l : List UInt8) : Option Nat := match o with
  | some u => if D u = l then some u else none
  | none => none
def RnV (o : Option Nat) : Value := match o with
  | some n => .tuple #[.int .u64 (n : Int), .bool true]
  | none => .tuple #[.int .u64 0, .bool false]
/-- o is the number whose digits l is, if it is at most M. -/
structure RdP (D : Nat → List UInt8) (M : Nat) (o : Option Nat) (l : List UInt8) : Prop where
  sound : ∀ u, o = some u → l = D u ∧ u ≤ M
  full : ∀ u, u ≤ M → l = D u → o = some u
theorem RdP.one {D : Nat → List UInt8} {M : Nat} {o : Option Nat} {l : List UInt8} (h1 : ∀ u, o = some u → u ≤ M) (h2 : ∀ u, u ≤ M → l = D u → o = some u) : RdP D M (rdN D o l) l := by
  refine ⟨fun u h => ?_, fun u h e => ?_⟩
  · cases o with
    | none => cases h
    | some x =>
      simp only [rdN] at h
      split at h
      · rename_i hx
        obtain rfl := Option.some.inj h
        exact ⟨hx.symm, h1 _ rfl⟩
      · cases h
  · rw [h2 u h e]
    simp only [rdN]
    rw [if_pos e.symm]
theorem pB_ok (bits : Nat) (l : List UInt8) (u : Nat) (h : Lib.parseUintB bits l = .ok u) : u ≤ 2 ^ bits - 1 := by
  unfold Lib.parseUintB at h
  split at h
  · cases h
  · exact pm_le _ 0 l u (Nat.zero_le _) h
theorem o10_le (bits : Nat) (l : List UInt8) (u : Nat) (h : o10 bits l = some u) : u ≤ 2 ^ bits - 1 := by
  unfold o10 at h
  split at h
  · rename_i x hx
    obtain rfl := Option.some.inj h
    exact pB_ok bits l _ hx
  · cases h
theorem o10_full (bits : Nat) (hb : bits ≤ 64) (l : List UInt8) (u : Nat) (hu : u ≤ 2 ^ bits - 1) (h : l = Lib.decDigits u) : o10 bits l = some u := by
  have hp : 2 ^ bits ≤ 2 ^ 64 := Nat.pow_le_pow_right (by decide) hb
  have : Lib.parseUintB bits l = .ok u := by
    unfold Lib.parseUintB
    rw [h, if_neg (digits_ne u)]
    exact pm_back _ u hu (by omega)
  unfold o10
  rw [this]
theorem rd64 (l : List UInt8) : RdP Lib.decDigits 18446744073709551615 (rdN Lib.decDigits (o10 64 l) l) l := RdP.one (fun u h => o10_le 64 l u h) (fun u h e => o10_full 64 (by decide) l u h e)
theorem rd8 (l : List UInt8) : RdP Lib.decDigits 255 (rdN Lib.decDigits (o10 8 l) l) l := RdP.one (fun u h => o10_le 8 l u h) (fun u h e => o10_full 8 (by decide) l u h e)
theorem p16_le : ∀ (l : List UInt8) (a u : Nat), a ≤ 65535 → p16 a l = some u → u ≤ 65535
  | [], a, u, h, e => by obtain rfl := Option.some.inj e; exact h
  | c :: r, a, u, h, e => by
    simp only [p16] at e
    cases hd : dv c with
    | none => rw [hd] at e; cases e
    | some d =>
      rw [hd] at e
      simp only [Option.bind_some] at e
      split at e
      · cases e
      · exact p16_le r _ u (by omega) e
theorem p16_app : ∀ (l r : List UInt8) (a u : Nat), p16 a l = some u → p16 a (l ++ r) = p16 u r
  | [], r, a, u, e => by obtain rfl := Option.some.inj e; rfl
  | c :: l, r, a, u, e => by
    simp only [p16, List.cons_append] at e ⊢
    cases hd : dv c with
    | none => rw [hd] at e; cases e
    | some d =>
      rw [hd] at e
      simp only [Option.bind_some] at e ⊢
      split at e
      · cases e
      · rename_i hn
        rw [if_neg hn]
        exact p16_app l r _ u e
theorem dv_dg (d : Nat) (h : d < 16) : dv (dg d) = some d := by
  rcases (show d = 0 ∨ d = 1 ∨ d = 2 ∨ d = 3 ∨ d = 4 ∨ d = 5 ∨ d = 6 ∨ d = 7 ∨ d = 8 ∨ d = 9 ∨ d = 10 ∨ d = 11 ∨ d = 12 ∨ d = 13 ∨ d = 14 ∨ d = 15 by omega) with rfl | rfl | rfl | rfl | rfl | rfl | rfl | rfl | rfl | rfl | rfl | rfl | rfl | rfl | rfl | rfl <;> decide +kernel
theorem p16_back (u : Nat) (h : u ≤ 65535) : p16 0 (hexD u) = some u := by
  induction u using Nat.strongRecOn with
  | _ u ih =>
    by_cases hl : u < 16
    · rw [digs16.low u hl]
      simp only [p16, dv_dg u hl, Option.bind_some]
      rw [if_neg (by omega)]; simp
    · rw [digs16.high u hl, p16_app _ _ _ _ (ih (u / 16) (by omega) (by omega))]
      simp only [p16, dv_dg (u % 16) (Nat.mod_lt _ (by decide)), Option.bind_some]
      rw [if_neg (by omega)]
      congr 1; omega
theorem rd16 (l : List UInt8) : RdP hexD 65535 (rdN hexD (o16 l) l) l := by
  refine RdP.one (fun u h => ?_) (fun u h e => ?_)
  · unfold o16 at h
    split at h
    · cases h
    · exact p16_le l 0 u (by omega) h
  · have := hexD_ne u
    unfold o16
    rw [if_neg (by rw [e]; intro h; rw [h] at this; simp at this), e]
    exact p16_back u h
theorem toL_eq (l : List UInt8) (s : ByteArray) (h : l = s.data.toList) : ((⟨l.toArray⟩ : ByteArray).toList == s.toList) = true := by
  rw [beq_iff_eq, ByteArray.toList_eq, ByteArray.toList_eq, h]
theorem toL_ne (l : List UInt8) (s : ByteArray) (h : ¬ l = s.data.toList) : ((⟨l.toArray⟩ : ByteArray).toList == s.toList) = false := by
  rw [beq_eq_false_iff_ne, ne_eq, ByteArray.toList_eq, ByteArray.toList_eq]; exact h
set_option maxHeartbeats 2000000 in
theorem rn64 (s : ByteArray) (hs : s.size ≤ 281474976710656) (w : World) (hE : ErrsAt w) (hP : PowAt w) :
    Calls Tryd.prog 61 #[.string s, .int .i64 10, .int .i64 64] w fun e w' => e = .returned (RnV (rdN Lib.decDigits (o10 64 s.data.toList) s.data.toList)) ∧ Below w.heap.size w w' := by
  have HL : Hid (∀ u, o10 64 s.data.toList = some u → u < 18446744073709551616) := fun u h => Nat.lt_of_le_of_lt (o10_le 64 _ u h) (by decide)
  have HPu : Hid (_ : Prop) := pu10_64 s hs w hE
  have HF : Hid (∀ (u : Nat) (hu : u < 18446744073709551616) W, PowAt W → _) := fun u hu W hp => fmt_any u hu W hp
  have HP : Hid (PowAt w) := hP
  clear hE hP
  generalize ho : o10 64 s.data.toList = o at *
  clear ho
  go_enter Tryd.func61, Tryd.ntmps61
  go_wp2_with fail
  refine Calls.mono HPu.out ?_
  rintro e w1 ⟨he, hb1⟩
  have HB : Hid (Below w.heap.size w w1) := hb1
  have HP1 : Hid (PowAt w1) := HP.out.below hb1
  clear hb1
  cases o with
  | none =>
    obtain ⟨v, t, p, rfl⟩ := he
    go_wp2
    go_ret2
    exact ⟨rfl, HB.out⟩
  | some u =>
    obtain rfl := he
    have hu := HL.out u rfl
    have hF := HF.out u hu
    have HF2 : Hid (∀ W, _) := hF
    by_cases hq : Lib.decDigits u = s.data.toList
    · have HR : Hid (rdN Lib.decDigits (some u) s.data.toList = some u) := by unfold Hid rdN; simp only []; rw [if_pos hq]
      have hq1 := toL_eq _ _ hq
      clear hF HF HL hq hu
      generalize (⟨(Lib.decDigits u).toArray⟩ : ByteArray) = dt at *
      go_wp2_with fail
      refine Calls.mono (HF2.out _ HP1.out) ?_
      rintro e w2 ⟨rfl, hb2⟩
      go_wp2
      go_ret2
      exact ⟨by rw [HR.out]; rfl, HB.out.trans (hb2.mono HB.out.size)⟩
    · have HR : Hid (rdN Lib.decDigits (some u) s.data.toList = none) := by unfold Hid rdN; simp only []; rw [if_neg hq]
      have hq1 := toL_ne _ _ hq
      clear hF HF HL hq hu
      generalize (⟨(Lib.decDigits u).toArray⟩ : ByteArray) = dt at *
      go_wp2_with fail
      refine Calls.mono (HF2.out _ HP1.out) ?_
      rintro e w2 ⟨rfl, hb2⟩
      go_wp2
      go_ret2
      exact ⟨by rw [HR.out]; rfl, HB.out.trans (hb2.mono HB.out.size)⟩
set_option maxHeartbeats 2000000 in
theorem rn8 (s : ByteArray) (hs : s.size ≤ 281474976710656) (w : World) (hE : ErrsAt w) (hP : PowAt w) :
    Calls Tryd.prog 61 #[.string s, .int .i64 10, .int .i64 8] w fun e w' => e = .returned (RnV (rdN Lib.decDigits (o10 8 s.data.toList) s.data.toList)) ∧ Below w.heap.size w w' := by
  have HL : Hid (∀ u, o10 8 s.data.toList = some u → u < 18446744073709551616) := fun u h => Nat.lt_of_le_of_lt (o10_le 8 _ u h) (by decide)
  have HPu : Hid (_ : Prop) := pu10_8 s hs w hE
  have HF : Hid (∀ (u : Nat) (hu : u < 18446744073709551616) W, PowAt W → _) := fun u hu W hp => fmt_any u hu W hp
  have HP : Hid (PowAt w) := hP
  clear hE hP
  generalize ho : o10 8 s.data.toList = o at *
  clear ho
  go_enter Tryd.func61, Tryd.ntmps61
  go_wp2_with fail
  refine Calls.mono HPu.out ?_
  rintro e w1 ⟨he, hb1⟩
  have HB : Hid (Below w.heap.size w w1) := hb1
  have HP1 : Hid (PowAt w1) := HP.out.below hb1
  clear hb1
  cases o with
  | none =>
    obtain ⟨v, t, p, rfl⟩ := he
    go_wp2
    go_ret2
    exact ⟨rfl, HB.out⟩
  | some u =>
    obtain rfl := he
    have hu := HL.out u rfl
    have hF := HF.out u hu
    have HF2 : Hid (∀ W, _) := hF
    by_cases hq : Lib.decDigits u = s.data.toList
    · have HR : Hid (rdN Lib.decDigits (some u) s.data.toList = some u) := by unfold Hid rdN; simp only []; rw [if_pos hq]
      have hq1 := toL_eq _ _ hq
      clear hF HF HL hq hu
      generalize (⟨(Lib.decDigits u).toArray⟩ : ByteArray) = dt at *
      go_wp2_with fail
      refine Calls.mono (HF2.out _ HP1.out) ?_
      rintro e w2 ⟨rfl, hb2⟩
      go_wp2
      go_ret2
      exact ⟨by rw [HR.out]; rfl, HB.out.trans (hb2.mono HB.out.size)⟩
    · have HR : Hid (rdN Lib.decDigits (some u) s.data.toList = none) := by unfold Hid rdN; simp only []; rw [if_neg hq]
      have hq1 := toL_ne _ _ hq
      clear hF HF HL hq hu
      generalize (⟨(Lib.decDigits u).toArray⟩ : ByteArray) = dt at *
      go_wp2_with fail
      refine Calls.mono (HF2.out _ HP1.out) ?_
      rintro e w2 ⟨rfl, hb2⟩
      go_wp2
      go_ret2
      exact ⟨by rw [HR.out]; rfl, HB.out.trans (hb2.mono HB.out.size)⟩
set_option maxHeartbeats 2000000 in
theorem rn16 (s : ByteArray) (hs : s.size ≤ 281474976710656) (w : World) (hE : ErrsAt w) (hP : Deb w) :
    Calls Tryd.prog 61 #[.string s, .int .i64 16, .int .i64 16] w fun e w' => e = .returned (RnV (rdN hexD (o16 s.data.toList) s.data.toList)) ∧ Below w.heap.size w w' := by
  have HL : Hid (∀ u, o16 s.data.toList = some u → u < 18446744073709551616) := fun u h => by
    unfold o16 at h
    split at h
    · cases h
    · have := p16_le _ 0 u (by omega) h
      omega
  have HPu : Hid (_ : Prop) := pu16 s hs w hE
  have HF : Hid (∀ (u : Nat) (hu : u < 18446744073709551616) W, Deb W → _) := fun u hu W hp => fu16 u hu W hp
  have HP : Hid (Deb w) := hP
  clear hE hP
  generalize ho : o16 s.data.toList = o at *
  clear ho
  go_enter Tryd.func61, Tryd.ntmps61
  go_wp2_with fail
  refine Calls.mono HPu.out ?_
  rintro e w1 ⟨he, hb1⟩
  have HB : Hid (Below w.heap.size w w1) := hb1
  have HP1 : Hid (Deb w1) := HP.out.below hb1
  clear hb1
  cases o with
  | none =>
    obtain ⟨v, t, p, rfl⟩ := he
    go_wp2
    go_ret2
    exact ⟨rfl, HB.out⟩
  | some u =>
    obtain rfl := he
    have hu := HL.out u rfl
    have hF := HF.out u hu
    have HF2 : Hid (∀ W, _) := hF
    by_cases hq : hexD u = s.data.toList
    · have HR : Hid (rdN hexD (some u) s.data.toList = some u) := by unfold Hid rdN; simp only []; rw [if_pos hq]
      have hq1 := toL_eq _ _ hq
      clear hF HF HL hq hu
      generalize (⟨(hexD u).toArray⟩ : ByteArray) = dt at *
      go_wp2_with fail
      refine Calls.mono (HF2.out _ HP1.out) ?_
      rintro e w2 ⟨rfl, hb2⟩
      go_wp2
      go_ret2
      exact ⟨by rw [HR.out]; rfl, HB.out.trans (hb2.mono HB.out.size)⟩
    · have HR : Hid (rdN hexD (some u) s.data.toList = none) := by unfold Hid rdN; simp only []; rw [if_neg hq]
      have hq1 := toL_ne _ _ hq
      clear hF HF HL hq hu
      generalize (⟨(hexD u).toArray⟩ : ByteArray) = dt at *
      go_wp2_with fail
      refine Calls.mono (HF2.out _ HP1.out) ?_
      rintro e w2 ⟨rfl, hb2⟩
      go_wp2
      go_ret2
      exact ⟨by rw [HR.out]; rfl, HB.out.trans (hb2.mono HB.out.size)⟩
end Go.Proofs.YtkgedoedojkdkaaDoor
