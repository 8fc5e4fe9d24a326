/-
  Actions read from their words: an address.
-/
import Derived.Test.YthaebbmekonacaaGreatDoorRD
import Derived.Laws.StructEq
import Derived.Laws.Bits64b
import Derived.Lib.AtoiErrMem
import Derived.Test.YthaebbmekonacaaGreatDoorRCz
import Derived.Test.YthaebbmekonacaaGreatDoorAD
set_option linter.unusedVariables false
set_option linter.unusedSimpArgs false
set_option maxRecDepth 100000
namespace Go.Proofs.YthaebbmekonacaaGreatDoor
open Go.RowKit
theorem takenU (n : Int) (w : World) : Calls Tryz.prog 134 #[.int .u32 n, .int .i64 0] w fun e w' => e = .returned (.int .u32 n) ∧ w' = w := by
  go_enter Tryz.func134, Tryz.ntmps134
  go_wp2_with (go_at_call 89; refine Calls.mono (need_yes _) ?_; rintro e w3 ⟨rfl, rfl⟩)
  go_ret
  exact ⟨rfl, rfl⟩
theorem takenS (b : ByteArray) (w : World) : Calls Tryz.prog 136 #[.string b, .int .i64 0] w fun e w' => e = .returned (.string b) ∧ w' = w := by
  go_enter Tryz.func136, Tryz.ntmps136
  go_wp2_with (go_at_call 89; refine Calls.mono (need_yes _) ?_; rintro e w3 ⟨rfl, rfl⟩)
  go_ret
  exact ⟨rfl, rfl⟩
def nmE : ByteArray := ⟨#[110, 111, 45, 101, 120, 112, 111, 114, 116]⟩
def nmA : ByteArray := ⟨#[110, 111, 45, 97, 100, 118, 101, 114, 116, 105, 115, 101]⟩
def nmC : ByteArray := ⟨#[110, 111, 45, 101, 120, 112, 111, 114, 116, 45, 115, 117, 98, 99, 111, 110, 102, 101, 100]⟩
theorem ne_list {a b : ByteArray} (h : ¬ (a = b)) : (a.toList == b.toList) = false := by
  cases hb : (a.toList == b.toList) with
  | false => rfl
  | true =>
    have e : a.toList = b.toList := eq_of_beq hb
    rw [ByteArray.toList_eq, ByteArray.toList_eq] at e
    exact absurd (ByteArray.ext (Array.toList_inj.mp e)) h
theorem nm_ne1 : (nmE.toList == nmA.toList) = false := ne_list (by decide +kernel)
theorem nm_ne2 : (nmE.toList == nmC.toList) = false := ne_list (by decide +kernel)
theorem nm_ne3 : (nmA.toList == nmC.toList) = false := ne_list (by decide +kernel)
theorem nm_f1 : ∃ r, nmE.data.toList = 110 :: r := ⟨_, rfl⟩
theorem nm_f2 : ∃ r, nmA.data.toList = 110 :: r := ⟨_, rfl⟩
theorem nm_f3 : ∃ r, nmC.data.toList = 110 :: r := ⟨_, rfl⟩
def textC (c : Nat) : ByteArray := ⟨(comT c).toArray⟩
def dgsB (n : Nat) : ByteArray := ⟨(Lib.decDigits n).toArray⟩
def numT (h l : Nat) : List UInt8 := Lib.decDigits h ++ 58 :: Lib.decDigits l
theorem pu_back16 (u : Nat) (h : u < 65536) : Lib.parseUintB 16 (Lib.decDigits u) = .ok u := by
  unfold Lib.parseUintB
  rw [if_neg (digits_ne u)]
  exact pm_back _ u (by simp; omega) (by simp)
theorem cut_numT (h l : Nat) : Lib.cut (numT h l) [58] = (Lib.decDigits h, Lib.decDigits l, true) :=
  cut_in 58 _ _ fun e => by
    have := (digits_are h _ e).2
    revert this; decide
theorem numT_first (h l : Nat) : ∃ c r, numT h l = c :: r ∧ c.toNat ≤ 57 := by
  cases hd : Lib.decDigits h with
  | nil => exact absurd hd (digits_ne h)
  | cons c r => exact ⟨c, r ++ 58 :: Lib.decDigits l, by simp [numT, hd], (digits_are h c (by simp [hd])).2⟩
theorem numT_not (h l : Nat) (nm : ByteArray) (x : UInt8) (r : List UInt8) (hn : nm.data.toList = x :: r) (hx : 57 < x.toNat) : ¬ (nm = (⟨(numT h l).toArray⟩ : ByteArray)) := by
  intro e
  obtain ⟨c, r', hc, hle⟩ := numT_first h l
  rw [e] at hn
  simp [hc] at hn
  rw [hn.1] at hle
  omega
theorem or16 (h l : Nat) (hh : h < 65536) (hl : l < 65536) : bits .or .u64 ((h : Int) * 65536) (l : Int) = ((h * 65536 + l : Nat) : Int) := by
  have e := bits_or_u64_nat (h * 65536) l (by omega) (by omega)
  rw [show ((h * 65536 : Nat) : Int) = (h : Int) * 65536 from by simp] at e
  rw [e, Nat.mul_comm h 65536, Nat.two_pow_add_eq_or_of_lt (i := 16) hl h]
theorem pu_below {w w' : World} {s : ByteArray} (h : w' = w ∨ w' = Lib.bytesWorld w 5 s) : Below w.heap.size w w' := by
  rcases h with rfl | rfl
  · exact Below.refl _ _
  · exact Lib.bytesWorld_below _ _ _
theorem MaxAt.below {w w' : World} (h : MaxAt w) (hb : Below w.heap.size w w') : MaxAt w' := h.elim fun m hm => ⟨m, below_cell hb hm⟩
theorem text_ways (c : Nat) : (c = 4294967041 ∧ textC c = nmE) ∨ (c = 4294967042 ∧ textC c = nmA) ∨ (c = 4294967043 ∧ textC c = nmC) ∨
    (textC c = ⟨(numT (c / 65536) (c % 65536)).toArray⟩ ∧ ¬ (nmE = textC c) ∧ ¬ (nmA = textC c) ∧ ¬ (nmC = textC c)) := by
  by_cases h1 : c = 4294967041
  · exact Or.inl ⟨h1, by simp [textC, comT, h1, nmE]⟩
  by_cases h2 : c = 4294967042
  · exact Or.inr (Or.inl ⟨h2, by simp [textC, comT, h2, nmA]⟩)
  by_cases h3 : c = 4294967043
  · exact Or.inr (Or.inr (Or.inl ⟨h3, by simp [textC, comT, h3, nmC]⟩))
  · have e : textC c = ⟨(numT (c / 65536) (c % 65536)).toArray⟩ := by unfold textC comT; rw [if_neg h1, if_neg h2, if_neg h3]; rfl
    obtain ⟨r1, f1⟩ := nm_f1
    obtain ⟨r2, f2⟩ := nm_f2
    obtain ⟨r3, f3⟩ := nm_f3
    refine Or.inr (Or.inr (Or.inr ⟨e, ?_, ?_, ?_⟩))
    · rw [e]; exact numT_not _ _ _ _ _ f1 (by decide)
    · rw [e]; exact numT_not _ _ _ _ _ f2 (by decide)
    · rw [e]; exact numT_not _ _ _ _ _ f3 (by decide)
theorem ComAt.names {w : World} (h : ComAt w) (k : Nat) (v : Value) (hv : comCells[k]? = some v) : w.cell? ⟨2, k, none⟩ = some v := by
  obtain ⟨t, fr, h⟩ := h
  exact cell_row h k v hv
set_option maxRecDepth 100000 in
theorem parse_nm0 (w : World) (ht : ComAt w) : Calls Tryz.prog 135 #[.string nmE] w fun e w' => e = .returned (.tuple #[.int .u32 4294967041, .int .i64 0]) ∧ Below w.heap.size w w' := by
  have n0 : w.cell? ⟨2, 0, none⟩ = some (.int .u32 4294967041) := ht.names 0 _ rfl
  have n1 : w.cell? ⟨2, 1, none⟩ = some (.string nmE) := ht.names 1 _ rfl
  have n2 : w.cell? ⟨2, 2, none⟩ = some (.int .u32 4294967042) := ht.names 2 _ rfl
  have n3 : w.cell? ⟨2, 3, none⟩ = some (.string nmA) := ht.names 3 _ rfl
  have n4 : w.cell? ⟨2, 4, none⟩ = some (.int .u32 4294967043) := ht.names 4 _ rfl
  have n5 : w.cell? ⟨2, 5, none⟩ = some (.string nmC) := ht.names 5 _ rfl
  clear ht
  go_enter Tryz.func135, Tryz.ntmps135
  go_wp2
  clear n0 n1 n2 n3 n4 n5
  go_loopw [15] (fun i wr => ∃ k : Nat, k ≤ 3 ∧ i = .int .i64 k ∧ Below w.heap.size w wr ∧ (0 < k → False)) (fun i _ => 3 - (intOf i).toNat)
  case atStart => exact ⟨0, by omega, rfl, Below.refl _ _, fun h => by omega⟩
  case round =>
    obtain ⟨k, hk, rfl, hb, hkk⟩ := hrel
    have HB : Hid (∀ o, Below w.heap.size w (wr.alloc o)) := fun o => hb.alloc hb.size _
    have HKK : Hid (_ → False) := hkk
    rcases (show k = 0 by have hkk2 : ¬ (0 < k) := hkk; omega) with rfl
    · have hix : ∀ W, (Instr.index 217 (.agg #[.int .u32 4294967041, .string nmE, .int .u32 4294967042, .string nmA, .int .u32 4294967043, .string nmC]) (.int .i64 0)).run Tryz.prog W = .ok (.agg #[.int .u32 4294967041, .string nmE]) W := fun W => by kernel_rfl
      go_wp2
      go_ret2
      exact ⟨rfl, HB.out _⟩

set_option maxRecDepth 100000 in
theorem parse_nm1 (w : World) (ht : ComAt w) : Calls Tryz.prog 135 #[.string nmA] w fun e w' => e = .returned (.tuple #[.int .u32 4294967042, .int .i64 0]) ∧ Below w.heap.size w w' := by
  have n0 : w.cell? ⟨2, 0, none⟩ = some (.int .u32 4294967041) := ht.names 0 _ rfl
  have n1 : w.cell? ⟨2, 1, none⟩ = some (.string nmE) := ht.names 1 _ rfl
  have n2 : w.cell? ⟨2, 2, none⟩ = some (.int .u32 4294967042) := ht.names 2 _ rfl
  have n3 : w.cell? ⟨2, 3, none⟩ = some (.string nmA) := ht.names 3 _ rfl
  have n4 : w.cell? ⟨2, 4, none⟩ = some (.int .u32 4294967043) := ht.names 4 _ rfl
  have n5 : w.cell? ⟨2, 5, none⟩ = some (.string nmC) := ht.names 5 _ rfl
  clear ht
  have d1 := nm_ne1
  go_enter Tryz.func135, Tryz.ntmps135
  go_wp2
  clear n0 n1 n2 n3 n4 n5
  go_loopw [15] (fun i wr => ∃ k : Nat, k ≤ 3 ∧ i = .int .i64 k ∧ Below w.heap.size w wr ∧ (1 < k → False)) (fun i _ => 3 - (intOf i).toNat)
  case atStart => exact ⟨0, by omega, rfl, Below.refl _ _, fun h => by omega⟩
  case round =>
    obtain ⟨k, hk, rfl, hb, hkk⟩ := hrel
    have HB : Hid (∀ o, Below w.heap.size w (wr.alloc o)) := fun o => hb.alloc hb.size _
    have HKK : Hid (_ → False) := hkk
    rcases (show k = 0 ∨ k = 1 by have hkk2 : ¬ (1 < k) := hkk; omega) with rfl | rfl
    · have hix : ∀ W, (Instr.index 217 (.agg #[.int .u32 4294967041, .string nmE, .int .u32 4294967042, .string nmA, .int .u32 4294967043, .string nmC]) (.int .i64 0)).run Tryz.prog W = .ok (.agg #[.int .u32 4294967041, .string nmE]) W := fun W => by kernel_rfl
      go_wp2
      go_roundw
      case rel => exact ⟨1, by omega, by go_num, HB.out _, fun h => by omega⟩
      case measure => simp [intOf]
    · have hix : ∀ W, (Instr.index 217 (.agg #[.int .u32 4294967041, .string nmE, .int .u32 4294967042, .string nmA, .int .u32 4294967043, .string nmC]) (.int .i64 1)).run Tryz.prog W = .ok (.agg #[.int .u32 4294967042, .string nmA]) W := fun W => by kernel_rfl
      go_wp2
      go_ret2
      exact ⟨rfl, HB.out _⟩

set_option maxRecDepth 100000 in
theorem parse_nm2 (w : World) (ht : ComAt w) : Calls Tryz.prog 135 #[.string nmC] w fun e w' => e = .returned (.tuple #[.int .u32 4294967043, .int .i64 0]) ∧ Below w.heap.size w w' := by
  have n0 : w.cell? ⟨2, 0, none⟩ = some (.int .u32 4294967041) := ht.names 0 _ rfl
  have n1 : w.cell? ⟨2, 1, none⟩ = some (.string nmE) := ht.names 1 _ rfl
  have n2 : w.cell? ⟨2, 2, none⟩ = some (.int .u32 4294967042) := ht.names 2 _ rfl
  have n3 : w.cell? ⟨2, 3, none⟩ = some (.string nmA) := ht.names 3 _ rfl
  have n4 : w.cell? ⟨2, 4, none⟩ = some (.int .u32 4294967043) := ht.names 4 _ rfl
  have n5 : w.cell? ⟨2, 5, none⟩ = some (.string nmC) := ht.names 5 _ rfl
  clear ht
  have d1 := nm_ne1
  have d2 := nm_ne2
  have d3 := nm_ne3
  go_enter Tryz.func135, Tryz.ntmps135
  go_wp2
  clear n0 n1 n2 n3 n4 n5
  go_loopw [15] (fun i wr => ∃ k : Nat, k ≤ 3 ∧ i = .int .i64 k ∧ Below w.heap.size w wr ∧ (2 < k → False)) (fun i _ => 3 - (intOf i).toNat)
  case atStart => exact ⟨0, by omega, rfl, Below.refl _ _, fun h => by omega⟩
  case round =>
    obtain ⟨k, hk, rfl, hb, hkk⟩ := hrel
    have HB : Hid (∀ o, Below w.heap.size w (wr.alloc o)) := fun o => hb.alloc hb.size _
    have HKK : Hid (_ → False) := hkk
    rcases (show k = 0 ∨ k = 1 ∨ k = 2 by have hkk2 : ¬ (2 < k) := hkk; omega) with rfl | rfl | rfl
    · have hix : ∀ W, (Instr.index 217 (.agg #[.int .u32 4294967041, .string nmE, .int .u32 4294967042, .string nmA, .int .u32 4294967043, .string nmC]) (.int .i64 0)).run Tryz.prog W = .ok (.agg #[.int .u32 4294967041, .string nmE]) W := fun W => by kernel_rfl
      go_wp2
      go_roundw
      case rel => exact ⟨1, by omega, by go_num, HB.out _, fun h => by omega⟩
      case measure => simp [intOf]
    · have hix : ∀ W, (Instr.index 217 (.agg #[.int .u32 4294967041, .string nmE, .int .u32 4294967042, .string nmA, .int .u32 4294967043, .string nmC]) (.int .i64 1)).run Tryz.prog W = .ok (.agg #[.int .u32 4294967042, .string nmA]) W := fun W => by kernel_rfl
      go_wp2
      go_roundw
      case rel => exact ⟨2, by omega, by go_num, HB.out _, fun h => by omega⟩
      case measure => simp [intOf]
    · have hix : ∀ W, (Instr.index 217 (.agg #[.int .u32 4294967041, .string nmE, .int .u32 4294967042, .string nmA, .int .u32 4294967043, .string nmC]) (.int .i64 2)).run Tryz.prog W = .ok (.agg #[.int .u32 4294967043, .string nmC]) W := fun W => by kernel_rfl
      go_wp2
      go_ret2
      exact ⟨rfl, HB.out _⟩

set_option maxRecDepth 100000 in
set_option maxHeartbeats 800000 in
theorem parse_num (c : Nat) (w : World) (hc : c < 4294967296) (ht : ComAt w) (hp : PowAt w) (hm : MaxAt w) (he : textC c = ⟨(numT (c / 65536) (c % 65536)).toArray⟩) (d1 : ¬ (nmE = textC c)) (d2 : ¬ (nmA = textC c)) (d3 : ¬ (nmC = textC c)) :
    Calls Tryz.prog 135 #[.string (textC c)] w fun e w' => e = .returned (.tuple #[.int .u32 (c : Int), .int .i64 0]) ∧ Below w.heap.size w w' := by
  have hlen : (textC c).size ≤ 41 := by
    rw [he]
    have h1 := dig_ten (c / 65536) (by omega)
    have h2 := dig_ten (c % 65536) (by omega)
    show (numT _ _).length ≤ 41
    simp [numT]; omega
  have HCut : Hid (∀ W, MaxAt W → Calls Tryz.prog 93 #[.string (textC c), .string ⟨#[58]⟩] W fun e w' => e = .returned (.tuple #[.string (dgsB (c / 65536)), .string (dgsB (c % 65536)), .bool true]) ∧ Below W.heap.size W w') := fun W hM => by
    obtain ⟨m, hM⟩ := hM
    have h := Tryz.strings_Cut (textC c) ⟨#[58]⟩ m W (by omega) hM
    rw [show Lib.cut (textC c).data.toList (ByteArray.mk #[58]).data.toList = (Lib.decDigits (c / 65536), Lib.decDigits (c % 65536), true) by rw [he]; exact cut_numT _ _] at h
    exact h.mono fun _ _ ⟨h1, n, h2⟩ => ⟨h1, by rw [h2]; exact below_drewN' (Below.refl _ _) n⟩
  have HP1 : Hid (∀ W, Calls Tryz.prog 168 #[.string (dgsB (c / 65536)), .int .i64 10, .int .i64 16] W _) := fun W => Any.strconv_ParseUint_10_at16_ok Tryz.laysPu14 (dgsB (c / 65536)) (by have := dig_ten (c / 65536) (by omega); show (Lib.decDigits _).length ≤ _; omega) (c / 65536) (by show Lib.parseUintB 16 (Lib.decDigits (c / 65536)) = _; exact pu_back16 _ (by omega)) W
  have HP2 : Hid (∀ W, Calls Tryz.prog 168 #[.string (dgsB (c % 65536)), .int .i64 10, .int .i64 16] W _) := fun W => Any.strconv_ParseUint_10_at16_ok Tryz.laysPu14 (dgsB (c % 65536)) (by have := dig_ten (c % 65536) (by omega); show (Lib.decDigits _).length ≤ _; omega) (c % 65536) (by show Lib.parseUintB 16 (Lib.decDigits (c % 65536)) = _; exact pu_back16 _ (by omega)) W
  have HTx : Hid (∀ W, ComAt W → PowAt W → Calls Tryz.prog 125 #[.int .u32 (c : Int)] W fun e w' => e = .returned (.string (textC c)) ∧ Below W.heap.size W w') := fun W hT hP => comText_any c W hc hT hP
  have d1' := ne_list d1
  have d2' := ne_list d2
  have d3' := ne_list d3
  clear d1 d2 d3
  have hor := or16 (c / 65536) (c % 65536) (by omega) (by omega)
  rw [show c / 65536 * 65536 + c % 65536 = c by omega] at hor
  have n0 : w.cell? ⟨2, 0, none⟩ = some (.int .u32 4294967041) := ht.names 0 _ rfl
  have n1 : w.cell? ⟨2, 1, none⟩ = some (.string nmE) := ht.names 1 _ rfl
  have n2 : w.cell? ⟨2, 2, none⟩ = some (.int .u32 4294967042) := ht.names 2 _ rfl
  have n3 : w.cell? ⟨2, 3, none⟩ = some (.string nmA) := ht.names 3 _ rfl
  have n4 : w.cell? ⟨2, 4, none⟩ = some (.int .u32 4294967043) := ht.names 4 _ rfl
  have n5 : w.cell? ⟨2, 5, none⟩ = some (.string nmC) := ht.names 5 _ rfl
  have HT : Hid (ComAt w) := ht
  have HMx : Hid (MaxAt w) := hm
  have HP : Hid (PowAt w) := hp
  clear ht hm he hlen hp
  generalize textC c = tx at *
  generalize dgsB (c / 65536) = s1 at *
  generalize dgsB (c % 65536) = s2 at *
  generalize hq1 : c / 65536 = q1 at *
  generalize hq2 : c % 65536 = q2 at *
  have hb1 : q1 < 65536 := by omega
  have hb2 : q2 < 65536 := by omega
  clear hq1 hq2
  go_enter Tryz.func135, Tryz.ntmps135
  go_wp2
  clear n0 n1 n2 n3 n4 n5
  go_loopw [15] (fun i wr => ∃ k : Nat, k ≤ 3 ∧ i = .int .i64 k ∧ Below w.heap.size w wr) (fun i _ => 3 - (intOf i).toNat)
  case atStart => exact ⟨0, by omega, rfl, Below.refl _ _⟩
  case round =>
    obtain ⟨k, hk, rfl, hb⟩ := hrel
    by_cases hlt : k < 3
    · have HB : Hid (∀ o, Below w.heap.size w (wr.alloc o)) := fun o => hb.alloc hb.size _
      clear hor
      rcases (show k = 0 ∨ k = 1 ∨ k = 2 by omega) with rfl | rfl | rfl
      · have hix : ∀ W, (Instr.index 217 (.agg #[.int .u32 4294967041, .string nmE, .int .u32 4294967042, .string nmA, .int .u32 4294967043, .string nmC]) (.int .i64 0)).run Tryz.prog W = .ok (.agg #[.int .u32 4294967041, .string nmE]) W := fun W => by kernel_rfl
        go_wp2
        go_roundw
        case rel => exact ⟨1, by omega, by go_num, HB.out _⟩
        case measure => simp [intOf]
      · have hix : ∀ W, (Instr.index 217 (.agg #[.int .u32 4294967041, .string nmE, .int .u32 4294967042, .string nmA, .int .u32 4294967043, .string nmC]) (.int .i64 1)).run Tryz.prog W = .ok (.agg #[.int .u32 4294967042, .string nmA]) W := fun W => by kernel_rfl
        go_wp2
        go_roundw
        case rel => exact ⟨2, by omega, by go_num, HB.out _⟩
        case measure => simp [intOf]
      · have hix : ∀ W, (Instr.index 217 (.agg #[.int .u32 4294967041, .string nmE, .int .u32 4294967042, .string nmA, .int .u32 4294967043, .string nmC]) (.int .i64 2)).run Tryz.prog W = .ok (.agg #[.int .u32 4294967043, .string nmC]) W := fun W => by kernel_rfl
        go_wp2
        go_roundw
        case rel => exact ⟨3, by omega, by go_num, HB.out _⟩
        case measure => simp [intOf]
    · obtain rfl : k = 3 := by omega
      have HB : Hid (Below w.heap.size w wr) := hb
      clear hb d1' d2' d3'
      go_wp2_with fail
      refine (HCut.out wr (HMx.out.below HB.out)).mono ?_
      rintro e w1 ⟨rfl, hb1'⟩
      have HB1 : Hid (Below w.heap.size w w1) := HB.out.trans (hb1'.mono HB.out.size)
      clear hb1'
      go_wp2_with fail
      refine (HP1.out w1).mono ?_
      rintro e w2 ⟨rfl, hw2⟩
      have HB2 : Hid (Below w.heap.size w w2) := HB1.out.trans ((pu_below hw2).mono HB1.out.size)
      clear hw2
      go_wp2_with fail
      refine (HP2.out w2).mono ?_
      rintro e w3 ⟨rfl, hw3⟩
      have HB3 : Hid (Below w.heap.size w w3) := HB2.out.trans ((pu_below hw3).mono HB2.out.size)
      clear hw3
      go_wp2_with fail
      refine (HTx.out w3 (HT.out.below HB3.out) (HP.out.below HB3.out)).mono ?_
      rintro e w4 ⟨rfl, hb4⟩
      go_wp2
      go_ret2
      exact ⟨rfl, HB3.out.trans (hb4.mono HB3.out.size)⟩
theorem parse_yes (c : Nat) (w : World) (hc : c < 4294967296) (ht : ComAt w) (hp : PowAt w) (hm : MaxAt w) :
    Calls Tryz.prog 135 #[.string (textC c)] w fun e w' => e = .returned (.tuple #[.int .u32 (c : Int), .int .i64 0]) ∧ Below w.heap.size w w' := by
  rcases text_ways c with ⟨rfl, h⟩ | ⟨rfl, h⟩ | ⟨rfl, h⟩ | ⟨h, d1, d2, d3⟩
  · rw [h]; exact parse_nm0 w ht
  · rw [h]; exact parse_nm1 w ht
  · rw [h]; exact parse_nm2 w ht
  · exact parse_num c w hc ht hp hm h d1 d2 d3
theorem comParse (n : Nat) (x : List UInt8) (hx : x = comT n) (hn : n < 4294967296) (w : World) (he : EnvX w) : Calls Tryz.prog 135 #[.string ⟨x.toArray⟩] w fun e w' => e = .returned (.tuple #[.int .u32 (n : Int), .int .i64 0]) ∧ Below w.heap.size w w' := by
  subst hx
  exact parse_yes n w hn he.c he.e.p he.e.t.max
end Go.Proofs.YthaebbmekonacaaGreatDoor
set_option linter.unusedVariables false
set_option linter.unusedSimpArgs false
set_option maxRecDepth 100000
namespace Go.Proofs.YthaebbmekonacaaGreatDoor
open Go.RowKit
set_option maxHeartbeats 2000000 in
theorem readA2  (pl ps : Nat) (r : List (List UInt8)) (W0 w : World) (h0 : Std0 W0 w pl ps) (hr : Rd w pl ps ([114, 101, 106, 101, 99, 116] :: r)) : Calls Tryz.prog 91 #[clo pl ps] w fun e w' => e = .returned (acV ⟨2, ⟨#[]⟩, 0, ⟨#[]⟩⟩) ∧ Left w w' pl ps r := by
  have hl := hr.lt
  obtain ⟨W1, hW1⟩ : ∃ W1, w.alloc (.cells #[.int .i64 0, .string ⟨#[]⟩, .int .u32 0, .string ⟨#[]⟩] 40) = W1 := ⟨_, rfl⟩
  have bb1 : Below w.heap.size w W1 := by rw [← hW1]; exact (Below.refl _ _).alloc (Nat.le_refl _) _
  have hlt : w.heap.size < W1.heap.size := by rw [← hW1]; simp
  have b1 : Bs2 pl ps w W1 := Bs2.of_below bb1
  have r1 : Rd W1 pl ps ([114, 101, 106, 101, 99, 116] :: r) := hr.below bb1
  have d1 : C4 W1 w.heap.size (.int .i64 0) (.string ⟨#[]⟩) (.int .u32 0) (.string ⟨#[]⟩) := by rw [← hW1]; exact C4.new w 40 _ _ _ _
  have HNl : Hid (w.heap.size ≠ pl ∧ w.heap.size ≠ ps) := ⟨by omega, by omega⟩
  have HS : Hid (Std0 W0 w pl ps) := h0
  have HB1 : Hid (Bs2 pl ps w W1) := b1
  have HR1 : Hid (Rd W1 pl ps ([114, 101, 106, 101, 99, 116] :: r)) := r1
  have HD1 : Hid (C4 W1 w.heap.size _ _ _ _) := d1
  have HLt : Hid (w.heap.size < W1.heap.size) := hlt
  clear h0 hr hl bb1 b1 r1 d1 hlt
  unfold clo
  go_enter Tryz.func91, Tryz.ntmps91
  go_wp2_with fail
  have HRl : Hid (pl < W1.heap.size ∧ ps < W1.heap.size) := HR1.out.lt
  refine Calls.mono (aw_any W1) ?_
  rintro e W2 ⟨rfl, ht2⟩
  have hb2 := ht2.2
  have HT : Hid (∀ q, q < awL.length → W2.cell? ⟨W1.heap.size, q, none⟩ = some (.string ⟨(awL.getD q []).toArray⟩)) := ht2.1
  clear ht2
  have HR2 : Hid (_ : Prop) := HR1.out.below hb2
  have HB2 : Hid (Bs2 pl ps w W2) := HB1.out.trans (Bs2.of_below hb2)
  have HD2 : Hid (_ : Prop) := HD1.out.below hb2
  clear hb2 HR1 HB1 HD1
  have HTl : Hid (W1.heap.size ≠ pl ∧ W1.heap.size ≠ ps) := ⟨by have := HRl.out; omega, by have := HRl.out; omega⟩
  go_wp2_with fail
  refine Calls.mono (next_yes pl ps [114, 101, 106, 101, 99, 116] _ W2 HR2.out (HS.out.bs2 HB2.out).max) ?_
  rintro e W3 ⟨rfl, hr3, hb3⟩
  have HR3 : Hid (_ : Prop) := hr3
  have HB3 : Hid (Bs2 pl ps w W3) := HB2.out.trans hb3
  have HD3 : Hid (_ : Prop) := HD2.out.bs2 hb3 HNl.out.1 HNl.out.2
  have HT2 : Hid (∀ q, q < awL.length → W3.cell? ⟨W1.heap.size, q, none⟩ = some (.string ⟨(awL.getD q []).toArray⟩)) := fun q hq => hb3.cell (HT.out q hq) HTl.out.1 HTl.out.2
  clear hr3 hb3 HR2 HB2 HD2
  go_wp2_with fail
  refine Calls.mono (place_yes W1.heap.size 11 awL [114, 101, 106, 101, 99, 116] 2 W3 rfl (by decide) (by decide) (by decide) HT2.out) ?_
  rintro e Wq ⟨rfl, hq⟩
  subst Wq
  clear HT HT2 HRl HTl
  have HL3 : Hid (pl < W3.heap.size ∧ ps < W3.heap.size) := HR3.out.lt
  have HSz : Hid (w.heap.size < W3.heap.size) := lt_of_cell HD3.out.c0
  have HCb : Hid (w.heap.size ≤ W3.heap.size ∧ W3.heap.size ≠ w.heap.size) := by have := HSz.out; exact ⟨by omega, by omega⟩
  have HNc : Hid (W3.heap.size ≠ pl ∧ W3.heap.size ≠ ps) := by have := HL3.out; exact ⟨by omega, by omega⟩
  have hbA : Below W3.heap.size W3 (W3.alloc (.cells #[.int .i64 2, .string ⟨#[]⟩, .int .u32 0, .string ⟨#[]⟩] 40)) := (Below.refl _ _).alloc (Nat.le_refl _) _
  have HR4 : Hid (Rd (W3.alloc (.cells #[.int .i64 2, .string ⟨#[]⟩, .int .u32 0, .string ⟨#[]⟩] 40)) pl ps (r)) := HR3.out.below hbA
  have HB4 : Hid (Bs2 pl ps w (W3.alloc (.cells #[.int .i64 2, .string ⟨#[]⟩, .int .u32 0, .string ⟨#[]⟩] 40))) := HB3.out.trans (Bs2.of_below hbA)
  have HD4 : Hid (C4 (W3.alloc (.cells #[.int .i64 2, .string ⟨#[]⟩, .int .u32 0, .string ⟨#[]⟩] 40)) w.heap.size (.int .i64 0) (.string ⟨#[]⟩) (.int .u32 0) (.string ⟨#[]⟩)) := HD3.out.below hbA
  have HC4 : Hid (C4 (W3.alloc (.cells #[.int .i64 2, .string ⟨#[]⟩, .int .u32 0, .string ⟨#[]⟩] 40)) W3.heap.size (.int .i64 2) (.string ⟨#[]⟩) (.int .u32 0) (.string ⟨#[]⟩)) := C4.new _ 40 _ _ _ _
  clear hbA HL3 HSz
  have y0 := HC4.out.c0
  have y1 := HC4.out.c1
  have y2 := HC4.out.c2
  have y3 := HC4.out.c3
  have x0 := HD4.out.c0
  have x1 := HD4.out.c1
  have x2 := HD4.out.c2
  have x3 := HD4.out.c3
  have f0 := HD4.out.f 0
  have f1 := HD4.out.f 1
  have f2 := HD4.out.f 2
  have f3 := HD4.out.f 3
  have HF : Hid (C4 (((((W3.alloc (.cells #[.int .i64 2, .string ⟨#[]⟩, .int .u32 0, .string ⟨#[]⟩] 40)).setCell ⟨w.heap.size, 0, none⟩ (.int .i64 2)).setCell ⟨w.heap.size, 1, none⟩ (.string ⟨#[]⟩)).setCell ⟨w.heap.size, 2, none⟩ (.int .u32 0)).setCell ⟨w.heap.size, 3, none⟩ (.string ⟨#[]⟩)) w.heap.size (.int .i64 2) (.string ⟨#[]⟩) (.int .u32 0) (.string ⟨#[]⟩)) := HD4.out.set0.set1.set2.set3
  have HLf : Hid (Left w (((((W3.alloc (.cells #[.int .i64 2, .string ⟨#[]⟩, .int .u32 0, .string ⟨#[]⟩] 40)).setCell ⟨w.heap.size, 0, none⟩ (.int .i64 2)).setCell ⟨w.heap.size, 1, none⟩ (.string ⟨#[]⟩)).setCell ⟨w.heap.size, 2, none⟩ (.int .u32 0)).setCell ⟨w.heap.size, 3, none⟩ (.string ⟨#[]⟩)) pl ps r) := ⟨(((HR4.out.set HNl.out.1 HNl.out.2).set HNl.out.1 HNl.out.2).set HNl.out.1 HNl.out.2).set HNl.out.1 HNl.out.2, (((HB4.out.set (Nat.le_refl _)).set (Nat.le_refl _)).set (Nat.le_refl _)).set (Nat.le_refl _)⟩
  go_wp2_with fail
  generalize (((((W3.alloc (.cells #[.int .i64 2, .string ⟨#[]⟩, .int .u32 0, .string ⟨#[]⟩] 40)).setCell ⟨w.heap.size, 0, none⟩ (.int .i64 2)).setCell ⟨w.heap.size, 1, none⟩ (.string ⟨#[]⟩)).setCell ⟨w.heap.size, 2, none⟩ (.int .u32 0)).setCell ⟨w.heap.size, 3, none⟩ (.string ⟨#[]⟩)) = WF at *
  have e0 := HF.out.c0
  have e1 := HF.out.c1
  have e2 := HF.out.c2
  have e3 := HF.out.c3
  refine bodyPost_ret (v := .agg #[.int .i64 2, .string ⟨#[]⟩, .int .u32 0, .string ⟨#[]⟩]) (by simp [results, Tryz.results91, go_sem, e0, e1, e2, e3]) rfl ?_
  exact ⟨rfl, HLf.out⟩
set_option maxHeartbeats 2000000 in
theorem readA4 (x : List UInt8) (n : Nat) (hn : n < 4294967296) (hx : x = Lib.decDigits n) (pl ps : Nat) (r : List (List UInt8)) (W0 w : World) (h0 : Std0 W0 w pl ps) (hr : Rd w pl ps ([109, 101, 100] :: x :: r)) : Calls Tryz.prog 91 #[clo pl ps] w fun e w' => e = .returned (acV ⟨4, ⟨#[]⟩, n, ⟨#[]⟩⟩) ∧ Left w w' pl ps r := by
  have hl := hr.lt
  obtain ⟨W1, hW1⟩ : ∃ W1, w.alloc (.cells #[.int .i64 0, .string ⟨#[]⟩, .int .u32 0, .string ⟨#[]⟩] 40) = W1 := ⟨_, rfl⟩
  have bb1 : Below w.heap.size w W1 := by rw [← hW1]; exact (Below.refl _ _).alloc (Nat.le_refl _) _
  have hlt : w.heap.size < W1.heap.size := by rw [← hW1]; simp
  have b1 : Bs2 pl ps w W1 := Bs2.of_below bb1
  have r1 : Rd W1 pl ps ([109, 101, 100] :: x :: r) := hr.below bb1
  have d1 : C4 W1 w.heap.size (.int .i64 0) (.string ⟨#[]⟩) (.int .u32 0) (.string ⟨#[]⟩) := by rw [← hW1]; exact C4.new w 40 _ _ _ _
  have HNl : Hid (w.heap.size ≠ pl ∧ w.heap.size ≠ ps) := ⟨by omega, by omega⟩
  have HS : Hid (Std0 W0 w pl ps) := h0
  have HB1 : Hid (Bs2 pl ps w W1) := b1
  have HR1 : Hid (Rd W1 pl ps ([109, 101, 100] :: x :: r)) := r1
  have HD1 : Hid (C4 W1 w.heap.size _ _ _ _) := d1
  have HLt : Hid (w.heap.size < W1.heap.size) := hlt
  clear h0 hr hl bb1 b1 r1 d1 hlt
  unfold clo
  go_enter Tryz.func91, Tryz.ntmps91
  go_wp2_with fail
  have HRl : Hid (pl < W1.heap.size ∧ ps < W1.heap.size) := HR1.out.lt
  refine Calls.mono (aw_any W1) ?_
  rintro e W2 ⟨rfl, ht2⟩
  have hb2 := ht2.2
  have HT : Hid (∀ q, q < awL.length → W2.cell? ⟨W1.heap.size, q, none⟩ = some (.string ⟨(awL.getD q []).toArray⟩)) := ht2.1
  clear ht2
  have HR2 : Hid (_ : Prop) := HR1.out.below hb2
  have HB2 : Hid (Bs2 pl ps w W2) := HB1.out.trans (Bs2.of_below hb2)
  have HD2 : Hid (_ : Prop) := HD1.out.below hb2
  clear hb2 HR1 HB1 HD1
  have HTl : Hid (W1.heap.size ≠ pl ∧ W1.heap.size ≠ ps) := ⟨by have := HRl.out; omega, by have := HRl.out; omega⟩
  go_wp2_with fail
  refine Calls.mono (next_yes pl ps [109, 101, 100] _ W2 HR2.out (HS.out.bs2 HB2.out).max) ?_
  rintro e W3 ⟨rfl, hr3, hb3⟩
  have HR3 : Hid (_ : Prop) := hr3
  have HB3 : Hid (Bs2 pl ps w W3) := HB2.out.trans hb3
  have HD3 : Hid (_ : Prop) := HD2.out.bs2 hb3 HNl.out.1 HNl.out.2
  have HT2 : Hid (∀ q, q < awL.length → W3.cell? ⟨W1.heap.size, q, none⟩ = some (.string ⟨(awL.getD q []).toArray⟩)) := fun q hq => hb3.cell (HT.out q hq) HTl.out.1 HTl.out.2
  clear hr3 hb3 HR2 HB2 HD2
  go_wp2_with fail
  refine Calls.mono (place_yes W1.heap.size 11 awL [109, 101, 100] 4 W3 rfl (by decide) (by decide) (by decide) HT2.out) ?_
  rintro e Wq ⟨rfl, hq⟩
  subst Wq
  clear HT HT2 HRl HTl
  go_wp2_with fail
  have HL3 : Hid (pl < W3.heap.size ∧ ps < W3.heap.size) := HR3.out.lt
  have HSz : Hid (w.heap.size < W3.heap.size) := lt_of_cell HD3.out.c0
  have HCb : Hid (w.heap.size ≤ W3.heap.size ∧ W3.heap.size ≠ w.heap.size) := by have := HSz.out; exact ⟨by omega, by omega⟩
  have HNc : Hid (W3.heap.size ≠ pl ∧ W3.heap.size ≠ ps) := by have := HL3.out; exact ⟨by omega, by omega⟩
  have hbA : Below W3.heap.size W3 (W3.alloc (.cells #[.int .i64 4, .string ⟨#[]⟩, .int .u32 0, .string ⟨#[]⟩] 40)) := (Below.refl _ _).alloc (Nat.le_refl _) _
  have HR4 : Hid (Rd (W3.alloc (.cells #[.int .i64 4, .string ⟨#[]⟩, .int .u32 0, .string ⟨#[]⟩] 40)) pl ps (x :: r)) := HR3.out.below hbA
  have HB4 : Hid (Bs2 pl ps w (W3.alloc (.cells #[.int .i64 4, .string ⟨#[]⟩, .int .u32 0, .string ⟨#[]⟩] 40))) := HB3.out.trans (Bs2.of_below hbA)
  have HD4 : Hid (C4 (W3.alloc (.cells #[.int .i64 4, .string ⟨#[]⟩, .int .u32 0, .string ⟨#[]⟩] 40)) w.heap.size (.int .i64 0) (.string ⟨#[]⟩) (.int .u32 0) (.string ⟨#[]⟩)) := HD3.out.below hbA
  have HC4 : Hid (C4 (W3.alloc (.cells #[.int .i64 4, .string ⟨#[]⟩, .int .u32 0, .string ⟨#[]⟩] 40)) W3.heap.size (.int .i64 4) (.string ⟨#[]⟩) (.int .u32 0) (.string ⟨#[]⟩)) := C4.new _ 40 _ _ _ _
  clear hbA HL3 HSz HR3 HB3 HD3
  generalize W3.alloc (.cells #[.int .i64 4, .string ⟨#[]⟩, .int .u32 0, .string ⟨#[]⟩] 40) = W4 at *
  generalize W3.heap.size = cb at *
  have y0 : True := trivial
  clear y0
  refine Calls.mono (next_yes pl ps x _ W4 HR4.out (HS.out.bs2 HB4.out).max) ?_
  rintro e W5 ⟨rfl, hr5, hb5⟩
  have HR5 : Hid (_ : Prop) := hr5
  have HB5 : Hid (Bs2 pl ps w W5) := HB4.out.trans hb5
  have HD5 : Hid (_ : Prop) := HD4.out.bs2 hb5 HNl.out.1 HNl.out.2
  have HC5 : Hid (_ : Prop) := HC4.out.bs2 hb5 HNc.out.1 HNc.out.2
  clear hr5 hb5 HR4 HB4 HD4 HC4
  go_wp2_with fail
  refine Calls.mono (number_yes n hn W5 (HS.out.bs2 HB5.out).env) ?_
  rintro e W6 ⟨rfl, hb6⟩
  have HR6 : Hid (_ : Prop) := HR5.out.below hb6
  have HB6 : Hid (Bs2 pl ps w W6) := HB5.out.trans (Bs2.of_below hb6)
  have HD6 : Hid (_ : Prop) := HD5.out.below hb6
  have HC6 : Hid (_ : Prop) := HC5.out.below hb6
  clear hb6 HR5 HB5 HD5 HC5
  obtain ⟨W7, hW7⟩ : ∃ W, W6.setCell ⟨cb, 2, none⟩ (.int .u32 (n : Int)) = W := ⟨_, rfl⟩
  have HR7 : Hid (Rd W7 pl ps (r)) := by unfold Hid; rw [← hW7]; exact HR6.out.set HNc.out.1 HNc.out.2
  have HB7 : Hid (Bs2 pl ps w W7) := by unfold Hid; rw [← hW7]; exact HB6.out.set HCb.out.1
  have HD7 : Hid (C4 W7 w.heap.size (.int .i64 0) (.string ⟨#[]⟩) (.int .u32 0) (.string ⟨#[]⟩)) := by unfold Hid; rw [← hW7]; exact HD6.out.other HCb.out.2
  have HC7 : Hid (C4 W7 cb (.int .i64 4) (.string ⟨#[]⟩) (.int .u32 (n : Int)) (.string ⟨#[]⟩)) := by unfold Hid; rw [← hW7]; exact HC6.out.set2
  have z0 := HC6.out.c2
  have z1 := HC6.out.f 2
  clear HR6 HB6 HD6 HC6
  have y0 := HC7.out.c0
  have y1 := HC7.out.c1
  have y2 := HC7.out.c2
  have y3 := HC7.out.c3
  have x0 := HD7.out.c0
  have x1 := HD7.out.c1
  have x2 := HD7.out.c2
  have x3 := HD7.out.c3
  have f0 := HD7.out.f 0
  have f1 := HD7.out.f 1
  have f2 := HD7.out.f 2
  have f3 := HD7.out.f 3
  have HF : Hid (C4 ((((W7.setCell ⟨w.heap.size, 0, none⟩ (.int .i64 4)).setCell ⟨w.heap.size, 1, none⟩ (.string ⟨#[]⟩)).setCell ⟨w.heap.size, 2, none⟩ (.int .u32 (n : Int))).setCell ⟨w.heap.size, 3, none⟩ (.string ⟨#[]⟩)) w.heap.size (.int .i64 4) (.string ⟨#[]⟩) (.int .u32 (n : Int)) (.string ⟨#[]⟩)) := HD7.out.set0.set1.set2.set3
  have HLf : Hid (Left w ((((W7.setCell ⟨w.heap.size, 0, none⟩ (.int .i64 4)).setCell ⟨w.heap.size, 1, none⟩ (.string ⟨#[]⟩)).setCell ⟨w.heap.size, 2, none⟩ (.int .u32 (n : Int))).setCell ⟨w.heap.size, 3, none⟩ (.string ⟨#[]⟩)) pl ps r) := ⟨(((HR7.out.set HNl.out.1 HNl.out.2).set HNl.out.1 HNl.out.2).set HNl.out.1 HNl.out.2).set HNl.out.1 HNl.out.2, (((HB7.out.set (Nat.le_refl _)).set (Nat.le_refl _)).set (Nat.le_refl _)).set (Nat.le_refl _)⟩
  go_wp2_with fail
  generalize ((((W7.setCell ⟨w.heap.size, 0, none⟩ (.int .i64 4)).setCell ⟨w.heap.size, 1, none⟩ (.string ⟨#[]⟩)).setCell ⟨w.heap.size, 2, none⟩ (.int .u32 (n : Int))).setCell ⟨w.heap.size, 3, none⟩ (.string ⟨#[]⟩)) = WF at *
  have e0 := HF.out.c0
  have e1 := HF.out.c1
  have e2 := HF.out.c2
  have e3 := HF.out.c3
  refine bodyPost_ret (v := .agg #[.int .i64 4, .string ⟨#[]⟩, .int .u32 (n : Int), .string ⟨#[]⟩]) (by simp [results, Tryz.results91, go_sem, e0, e1, e2, e3]) rfl ?_
  exact ⟨rfl, HLf.out⟩
set_option maxHeartbeats 2000000 in
theorem readA5  (pl ps : Nat) (r : List (List UInt8)) (W0 w : World) (h0 : Std0 W0 w pl ps) (hr : Rd w pl ps ([110, 111, 45, 109, 101, 100] :: r)) : Calls Tryz.prog 91 #[clo pl ps] w fun e w' => e = .returned (acV ⟨5, ⟨#[]⟩, 0, ⟨#[]⟩⟩) ∧ Left w w' pl ps r := by
  have hl := hr.lt
  obtain ⟨W1, hW1⟩ : ∃ W1, w.alloc (.cells #[.int .i64 0, .string ⟨#[]⟩, .int .u32 0, .string ⟨#[]⟩] 40) = W1 := ⟨_, rfl⟩
  have bb1 : Below w.heap.size w W1 := by rw [← hW1]; exact (Below.refl _ _).alloc (Nat.le_refl _) _
  have hlt : w.heap.size < W1.heap.size := by rw [← hW1]; simp
  have b1 : Bs2 pl ps w W1 := Bs2.of_below bb1
  have r1 : Rd W1 pl ps ([110, 111, 45, 109, 101, 100] :: r) := hr.below bb1
  have d1 : C4 W1 w.heap.size (.int .i64 0) (.string ⟨#[]⟩) (.int .u32 0) (.string ⟨#[]⟩) := by rw [← hW1]; exact C4.new w 40 _ _ _ _
  have HNl : Hid (w.heap.size ≠ pl ∧ w.heap.size ≠ ps) := ⟨by omega, by omega⟩
  have HS : Hid (Std0 W0 w pl ps) := h0
  have HB1 : Hid (Bs2 pl ps w W1) := b1
  have HR1 : Hid (Rd W1 pl ps ([110, 111, 45, 109, 101, 100] :: r)) := r1
  have HD1 : Hid (C4 W1 w.heap.size _ _ _ _) := d1
  have HLt : Hid (w.heap.size < W1.heap.size) := hlt
  clear h0 hr hl bb1 b1 r1 d1 hlt
  unfold clo
  go_enter Tryz.func91, Tryz.ntmps91
  go_wp2_with fail
  have HRl : Hid (pl < W1.heap.size ∧ ps < W1.heap.size) := HR1.out.lt
  refine Calls.mono (aw_any W1) ?_
  rintro e W2 ⟨rfl, ht2⟩
  have hb2 := ht2.2
  have HT : Hid (∀ q, q < awL.length → W2.cell? ⟨W1.heap.size, q, none⟩ = some (.string ⟨(awL.getD q []).toArray⟩)) := ht2.1
  clear ht2
  have HR2 : Hid (_ : Prop) := HR1.out.below hb2
  have HB2 : Hid (Bs2 pl ps w W2) := HB1.out.trans (Bs2.of_below hb2)
  have HD2 : Hid (_ : Prop) := HD1.out.below hb2
  clear hb2 HR1 HB1 HD1
  have HTl : Hid (W1.heap.size ≠ pl ∧ W1.heap.size ≠ ps) := ⟨by have := HRl.out; omega, by have := HRl.out; omega⟩
  go_wp2_with fail
  refine Calls.mono (next_yes pl ps [110, 111, 45, 109, 101, 100] _ W2 HR2.out (HS.out.bs2 HB2.out).max) ?_
  rintro e W3 ⟨rfl, hr3, hb3⟩
  have HR3 : Hid (_ : Prop) := hr3
  have HB3 : Hid (Bs2 pl ps w W3) := HB2.out.trans hb3
  have HD3 : Hid (_ : Prop) := HD2.out.bs2 hb3 HNl.out.1 HNl.out.2
  have HT2 : Hid (∀ q, q < awL.length → W3.cell? ⟨W1.heap.size, q, none⟩ = some (.string ⟨(awL.getD q []).toArray⟩)) := fun q hq => hb3.cell (HT.out q hq) HTl.out.1 HTl.out.2
  clear hr3 hb3 HR2 HB2 HD2
  go_wp2_with fail
  refine Calls.mono (place_yes W1.heap.size 11 awL [110, 111, 45, 109, 101, 100] 5 W3 rfl (by decide) (by decide) (by decide) HT2.out) ?_
  rintro e Wq ⟨rfl, hq⟩
  subst Wq
  clear HT HT2 HRl HTl
  have HL3 : Hid (pl < W3.heap.size ∧ ps < W3.heap.size) := HR3.out.lt
  have HSz : Hid (w.heap.size < W3.heap.size) := lt_of_cell HD3.out.c0
  have HCb : Hid (w.heap.size ≤ W3.heap.size ∧ W3.heap.size ≠ w.heap.size) := by have := HSz.out; exact ⟨by omega, by omega⟩
  have HNc : Hid (W3.heap.size ≠ pl ∧ W3.heap.size ≠ ps) := by have := HL3.out; exact ⟨by omega, by omega⟩
  have hbA : Below W3.heap.size W3 (W3.alloc (.cells #[.int .i64 5, .string ⟨#[]⟩, .int .u32 0, .string ⟨#[]⟩] 40)) := (Below.refl _ _).alloc (Nat.le_refl _) _
  have HR4 : Hid (Rd (W3.alloc (.cells #[.int .i64 5, .string ⟨#[]⟩, .int .u32 0, .string ⟨#[]⟩] 40)) pl ps (r)) := HR3.out.below hbA
  have HB4 : Hid (Bs2 pl ps w (W3.alloc (.cells #[.int .i64 5, .string ⟨#[]⟩, .int .u32 0, .string ⟨#[]⟩] 40))) := HB3.out.trans (Bs2.of_below hbA)
  have HD4 : Hid (C4 (W3.alloc (.cells #[.int .i64 5, .string ⟨#[]⟩, .int .u32 0, .string ⟨#[]⟩] 40)) w.heap.size (.int .i64 0) (.string ⟨#[]⟩) (.int .u32 0) (.string ⟨#[]⟩)) := HD3.out.below hbA
  have HC4 : Hid (C4 (W3.alloc (.cells #[.int .i64 5, .string ⟨#[]⟩, .int .u32 0, .string ⟨#[]⟩] 40)) W3.heap.size (.int .i64 5) (.string ⟨#[]⟩) (.int .u32 0) (.string ⟨#[]⟩)) := C4.new _ 40 _ _ _ _
  clear hbA HL3 HSz
  have y0 := HC4.out.c0
  have y1 := HC4.out.c1
  have y2 := HC4.out.c2
  have y3 := HC4.out.c3
  have x0 := HD4.out.c0
  have x1 := HD4.out.c1
  have x2 := HD4.out.c2
  have x3 := HD4.out.c3
  have f0 := HD4.out.f 0
  have f1 := HD4.out.f 1
  have f2 := HD4.out.f 2
  have f3 := HD4.out.f 3
  have HF : Hid (C4 (((((W3.alloc (.cells #[.int .i64 5, .string ⟨#[]⟩, .int .u32 0, .string ⟨#[]⟩] 40)).setCell ⟨w.heap.size, 0, none⟩ (.int .i64 5)).setCell ⟨w.heap.size, 1, none⟩ (.string ⟨#[]⟩)).setCell ⟨w.heap.size, 2, none⟩ (.int .u32 0)).setCell ⟨w.heap.size, 3, none⟩ (.string ⟨#[]⟩)) w.heap.size (.int .i64 5) (.string ⟨#[]⟩) (.int .u32 0) (.string ⟨#[]⟩)) := HD4.out.set0.set1.set2.set3
  have HLf : Hid (Left w (((((W3.alloc (.cells #[.int .i64 5, .string ⟨#[]⟩, .int .u32 0, .string ⟨#[]⟩] 40)).setCell ⟨w.heap.size, 0, none⟩ (.int .i64 5)).setCell ⟨w.heap.size, 1, none⟩ (.string ⟨#[]⟩)).setCell ⟨w.heap.size, 2, none⟩ (.int .u32 0)).setCell ⟨w.heap.size, 3, none⟩ (.string ⟨#[]⟩)) pl ps r) := ⟨(((HR4.out.set HNl.out.1 HNl.out.2).set HNl.out.1 HNl.out.2).set HNl.out.1 HNl.out.2).set HNl.out.1 HNl.out.2, (((HB4.out.set (Nat.le_refl _)).set (Nat.le_refl _)).set (Nat.le_refl _)).set (Nat.le_refl _)⟩
  go_wp2_with fail
  generalize (((((W3.alloc (.cells #[.int .i64 5, .string ⟨#[]⟩, .int .u32 0, .string ⟨#[]⟩] 40)).setCell ⟨w.heap.size, 0, none⟩ (.int .i64 5)).setCell ⟨w.heap.size, 1, none⟩ (.string ⟨#[]⟩)).setCell ⟨w.heap.size, 2, none⟩ (.int .u32 0)).setCell ⟨w.heap.size, 3, none⟩ (.string ⟨#[]⟩)) = WF at *
  have e0 := HF.out.c0
  have e1 := HF.out.c1
  have e2 := HF.out.c2
  have e3 := HF.out.c3
  refine bodyPost_ret (v := .agg #[.int .i64 5, .string ⟨#[]⟩, .int .u32 0, .string ⟨#[]⟩]) (by simp [results, Tryz.results91, go_sem, e0, e1, e2, e3]) rfl ?_
  exact ⟨rfl, HLf.out⟩
set_option maxHeartbeats 2000000 in
theorem readA7 (x : List UInt8)  (pl ps : Nat) (r : List (List UInt8)) (W0 w : World) (h0 : Std0 W0 w pl ps) (hr : Rd w pl ps ([100, 101, 108] :: x :: r)) : Calls Tryz.prog 91 #[clo pl ps] w fun e w' => e = .returned (acV ⟨7, ⟨x.toArray⟩, 0, ⟨#[]⟩⟩) ∧ Left w w' pl ps r := by
  have hl := hr.lt
  obtain ⟨W1, hW1⟩ : ∃ W1, w.alloc (.cells #[.int .i64 0, .string ⟨#[]⟩, .int .u32 0, .string ⟨#[]⟩] 40) = W1 := ⟨_, rfl⟩
  have bb1 : Below w.heap.size w W1 := by rw [← hW1]; exact (Below.refl _ _).alloc (Nat.le_refl _) _
  have hlt : w.heap.size < W1.heap.size := by rw [← hW1]; simp
  have b1 : Bs2 pl ps w W1 := Bs2.of_below bb1
  have r1 : Rd W1 pl ps ([100, 101, 108] :: x :: r) := hr.below bb1
  have d1 : C4 W1 w.heap.size (.int .i64 0) (.string ⟨#[]⟩) (.int .u32 0) (.string ⟨#[]⟩) := by rw [← hW1]; exact C4.new w 40 _ _ _ _
  have HNl : Hid (w.heap.size ≠ pl ∧ w.heap.size ≠ ps) := ⟨by omega, by omega⟩
  have HS : Hid (Std0 W0 w pl ps) := h0
  have HB1 : Hid (Bs2 pl ps w W1) := b1
  have HR1 : Hid (Rd W1 pl ps ([100, 101, 108] :: x :: r)) := r1
  have HD1 : Hid (C4 W1 w.heap.size _ _ _ _) := d1
  have HLt : Hid (w.heap.size < W1.heap.size) := hlt
  clear h0 hr hl bb1 b1 r1 d1 hlt
  unfold clo
  go_enter Tryz.func91, Tryz.ntmps91
  go_wp2_with fail
  have HRl : Hid (pl < W1.heap.size ∧ ps < W1.heap.size) := HR1.out.lt
  refine Calls.mono (aw_any W1) ?_
  rintro e W2 ⟨rfl, ht2⟩
  have hb2 := ht2.2
  have HT : Hid (∀ q, q < awL.length → W2.cell? ⟨W1.heap.size, q, none⟩ = some (.string ⟨(awL.getD q []).toArray⟩)) := ht2.1
  clear ht2
  have HR2 : Hid (_ : Prop) := HR1.out.below hb2
  have HB2 : Hid (Bs2 pl ps w W2) := HB1.out.trans (Bs2.of_below hb2)
  have HD2 : Hid (_ : Prop) := HD1.out.below hb2
  clear hb2 HR1 HB1 HD1
  have HTl : Hid (W1.heap.size ≠ pl ∧ W1.heap.size ≠ ps) := ⟨by have := HRl.out; omega, by have := HRl.out; omega⟩
  go_wp2_with fail
  refine Calls.mono (next_yes pl ps [100, 101, 108] _ W2 HR2.out (HS.out.bs2 HB2.out).max) ?_
  rintro e W3 ⟨rfl, hr3, hb3⟩
  have HR3 : Hid (_ : Prop) := hr3
  have HB3 : Hid (Bs2 pl ps w W3) := HB2.out.trans hb3
  have HD3 : Hid (_ : Prop) := HD2.out.bs2 hb3 HNl.out.1 HNl.out.2
  have HT2 : Hid (∀ q, q < awL.length → W3.cell? ⟨W1.heap.size, q, none⟩ = some (.string ⟨(awL.getD q []).toArray⟩)) := fun q hq => hb3.cell (HT.out q hq) HTl.out.1 HTl.out.2
  clear hr3 hb3 HR2 HB2 HD2
  go_wp2_with fail
  refine Calls.mono (place_yes W1.heap.size 11 awL [100, 101, 108] 7 W3 rfl (by decide) (by decide) (by decide) HT2.out) ?_
  rintro e Wq ⟨rfl, hq⟩
  subst Wq
  clear HT HT2 HRl HTl
  go_wp2_with fail
  have HL3 : Hid (pl < W3.heap.size ∧ ps < W3.heap.size) := HR3.out.lt
  have HSz : Hid (w.heap.size < W3.heap.size) := lt_of_cell HD3.out.c0
  have HCb : Hid (w.heap.size ≤ W3.heap.size ∧ W3.heap.size ≠ w.heap.size) := by have := HSz.out; exact ⟨by omega, by omega⟩
  have HNc : Hid (W3.heap.size ≠ pl ∧ W3.heap.size ≠ ps) := by have := HL3.out; exact ⟨by omega, by omega⟩
  have hbA : Below W3.heap.size W3 (W3.alloc (.cells #[.int .i64 7, .string ⟨#[]⟩, .int .u32 0, .string ⟨#[]⟩] 40)) := (Below.refl _ _).alloc (Nat.le_refl _) _
  have HR4 : Hid (Rd (W3.alloc (.cells #[.int .i64 7, .string ⟨#[]⟩, .int .u32 0, .string ⟨#[]⟩] 40)) pl ps (x :: r)) := HR3.out.below hbA
  have HB4 : Hid (Bs2 pl ps w (W3.alloc (.cells #[.int .i64 7, .string ⟨#[]⟩, .int .u32 0, .string ⟨#[]⟩] 40))) := HB3.out.trans (Bs2.of_below hbA)
  have HD4 : Hid (C4 (W3.alloc (.cells #[.int .i64 7, .string ⟨#[]⟩, .int .u32 0, .string ⟨#[]⟩] 40)) w.heap.size (.int .i64 0) (.string ⟨#[]⟩) (.int .u32 0) (.string ⟨#[]⟩)) := HD3.out.below hbA
  have HC4 : Hid (C4 (W3.alloc (.cells #[.int .i64 7, .string ⟨#[]⟩, .int .u32 0, .string ⟨#[]⟩] 40)) W3.heap.size (.int .i64 7) (.string ⟨#[]⟩) (.int .u32 0) (.string ⟨#[]⟩)) := C4.new _ 40 _ _ _ _
  clear hbA HL3 HSz HR3 HB3 HD3
  generalize W3.alloc (.cells #[.int .i64 7, .string ⟨#[]⟩, .int .u32 0, .string ⟨#[]⟩] 40) = W4 at *
  generalize W3.heap.size = cb at *
  have y0 : True := trivial
  clear y0
  refine Calls.mono (next_yes pl ps x _ W4 HR4.out (HS.out.bs2 HB4.out).max) ?_
  rintro e W5 ⟨rfl, hr5, hb5⟩
  have HR5 : Hid (_ : Prop) := hr5
  have HB5 : Hid (Bs2 pl ps w W5) := HB4.out.trans hb5
  have HD5 : Hid (_ : Prop) := HD4.out.bs2 hb5 HNl.out.1 HNl.out.2
  have HC5 : Hid (_ : Prop) := HC4.out.bs2 hb5 HNc.out.1 HNc.out.2
  clear hr5 hb5 HR4 HB4 HD4 HC4
  obtain ⟨W6, hW6⟩ : ∃ W, W5.setCell ⟨cb, 1, none⟩ (.string ⟨x.toArray⟩) = W := ⟨_, rfl⟩
  have HR6 : Hid (Rd W6 pl ps (r)) := by unfold Hid; rw [← hW6]; exact HR5.out.set HNc.out.1 HNc.out.2
  have HB6 : Hid (Bs2 pl ps w W6) := by unfold Hid; rw [← hW6]; exact HB5.out.set HCb.out.1
  have HD6 : Hid (C4 W6 w.heap.size (.int .i64 0) (.string ⟨#[]⟩) (.int .u32 0) (.string ⟨#[]⟩)) := by unfold Hid; rw [← hW6]; exact HD5.out.other HCb.out.2
  have HC6 : Hid (C4 W6 cb (.int .i64 7) (.string ⟨x.toArray⟩) (.int .u32 0) (.string ⟨#[]⟩)) := by unfold Hid; rw [← hW6]; exact HC5.out.set1
  have z0 := HC5.out.c1
  have z1 := HC5.out.f 1
  clear HR5 HB5 HD5 HC5
  have y0 := HC6.out.c0
  have y1 := HC6.out.c1
  have y2 := HC6.out.c2
  have y3 := HC6.out.c3
  have x0 := HD6.out.c0
  have x1 := HD6.out.c1
  have x2 := HD6.out.c2
  have x3 := HD6.out.c3
  have f0 := HD6.out.f 0
  have f1 := HD6.out.f 1
  have f2 := HD6.out.f 2
  have f3 := HD6.out.f 3
  have HF : Hid (C4 ((((W6.setCell ⟨w.heap.size, 0, none⟩ (.int .i64 7)).setCell ⟨w.heap.size, 1, none⟩ (.string ⟨x.toArray⟩)).setCell ⟨w.heap.size, 2, none⟩ (.int .u32 0)).setCell ⟨w.heap.size, 3, none⟩ (.string ⟨#[]⟩)) w.heap.size (.int .i64 7) (.string ⟨x.toArray⟩) (.int .u32 0) (.string ⟨#[]⟩)) := HD6.out.set0.set1.set2.set3
  have HLf : Hid (Left w ((((W6.setCell ⟨w.heap.size, 0, none⟩ (.int .i64 7)).setCell ⟨w.heap.size, 1, none⟩ (.string ⟨x.toArray⟩)).setCell ⟨w.heap.size, 2, none⟩ (.int .u32 0)).setCell ⟨w.heap.size, 3, none⟩ (.string ⟨#[]⟩)) pl ps r) := ⟨(((HR6.out.set HNl.out.1 HNl.out.2).set HNl.out.1 HNl.out.2).set HNl.out.1 HNl.out.2).set HNl.out.1 HNl.out.2, (((HB6.out.set (Nat.le_refl _)).set (Nat.le_refl _)).set (Nat.le_refl _)).set (Nat.le_refl _)⟩
  go_wp2_with fail
  generalize ((((W6.setCell ⟨w.heap.size, 0, none⟩ (.int .i64 7)).setCell ⟨w.heap.size, 1, none⟩ (.string ⟨x.toArray⟩)).setCell ⟨w.heap.size, 2, none⟩ (.int .u32 0)).setCell ⟨w.heap.size, 3, none⟩ (.string ⟨#[]⟩)) = WF at *
  have e0 := HF.out.c0
  have e1 := HF.out.c1
  have e2 := HF.out.c2
  have e3 := HF.out.c3
  refine bodyPost_ret (v := .agg #[.int .i64 7, .string ⟨x.toArray⟩, .int .u32 0, .string ⟨#[]⟩]) (by simp [results, Tryz.results91, go_sem, e0, e1, e2, e3]) rfl ?_
  exact ⟨rfl, HLf.out⟩
set_option maxHeartbeats 2000000 in
theorem readA8 (x : List UInt8) (n : Nat) (hn : n < 4294967296) (hx : x = Lib.decDigits n) (pl ps : Nat) (r : List (List UInt8)) (W0 w : World) (h0 : Std0 W0 w pl ps) (hr : Rd w pl ps ([112, 114, 101, 112, 101, 110, 100] :: x :: r)) : Calls Tryz.prog 91 #[clo pl ps] w fun e w' => e = .returned (acV ⟨8, ⟨#[]⟩, n, ⟨#[]⟩⟩) ∧ Left w w' pl ps r := by
  have hl := hr.lt
  obtain ⟨W1, hW1⟩ : ∃ W1, w.alloc (.cells #[.int .i64 0, .string ⟨#[]⟩, .int .u32 0, .string ⟨#[]⟩] 40) = W1 := ⟨_, rfl⟩
  have bb1 : Below w.heap.size w W1 := by rw [← hW1]; exact (Below.refl _ _).alloc (Nat.le_refl _) _
  have hlt : w.heap.size < W1.heap.size := by rw [← hW1]; simp
  have b1 : Bs2 pl ps w W1 := Bs2.of_below bb1
  have r1 : Rd W1 pl ps ([112, 114, 101, 112, 101, 110, 100] :: x :: r) := hr.below bb1
  have d1 : C4 W1 w.heap.size (.int .i64 0) (.string ⟨#[]⟩) (.int .u32 0) (.string ⟨#[]⟩) := by rw [← hW1]; exact C4.new w 40 _ _ _ _
  have HNl : Hid (w.heap.size ≠ pl ∧ w.heap.size ≠ ps) := ⟨by omega, by omega⟩
  have HS : Hid (Std0 W0 w pl ps) := h0
  have HB1 : Hid (Bs2 pl ps w W1) := b1
  have HR1 : Hid (Rd W1 pl ps ([112, 114, 101, 112, 101, 110, 100] :: x :: r)) := r1
  have HD1 : Hid (C4 W1 w.heap.size _ _ _ _) := d1
  have HLt : Hid (w.heap.size < W1.heap.size) := hlt
  clear h0 hr hl bb1 b1 r1 d1 hlt
  unfold clo
  go_enter Tryz.func91, Tryz.ntmps91
  go_wp2_with fail
  have HRl : Hid (pl < W1.heap.size ∧ ps < W1.heap.size) := HR1.out.lt
  refine Calls.mono (aw_any W1) ?_
  rintro e W2 ⟨rfl, ht2⟩
  have hb2 := ht2.2
  have HT : Hid (∀ q, q < awL.length → W2.cell? ⟨W1.heap.size, q, none⟩ = some (.string ⟨(awL.getD q []).toArray⟩)) := ht2.1
  clear ht2
  have HR2 : Hid (_ : Prop) := HR1.out.below hb2
  have HB2 : Hid (Bs2 pl ps w W2) := HB1.out.trans (Bs2.of_below hb2)
  have HD2 : Hid (_ : Prop) := HD1.out.below hb2
  clear hb2 HR1 HB1 HD1
  have HTl : Hid (W1.heap.size ≠ pl ∧ W1.heap.size ≠ ps) := ⟨by have := HRl.out; omega, by have := HRl.out; omega⟩
  go_wp2_with fail
  refine Calls.mono (next_yes pl ps [112, 114, 101, 112, 101, 110, 100] _ W2 HR2.out (HS.out.bs2 HB2.out).max) ?_
  rintro e W3 ⟨rfl, hr3, hb3⟩
  have HR3 : Hid (_ : Prop) := hr3
  have HB3 : Hid (Bs2 pl ps w W3) := HB2.out.trans hb3
  have HD3 : Hid (_ : Prop) := HD2.out.bs2 hb3 HNl.out.1 HNl.out.2
  have HT2 : Hid (∀ q, q < awL.length → W3.cell? ⟨W1.heap.size, q, none⟩ = some (.string ⟨(awL.getD q []).toArray⟩)) := fun q hq => hb3.cell (HT.out q hq) HTl.out.1 HTl.out.2
  clear hr3 hb3 HR2 HB2 HD2
  go_wp2_with fail
  refine Calls.mono (place_yes W1.heap.size 11 awL [112, 114, 101, 112, 101, 110, 100] 8 W3 rfl (by decide) (by decide) (by decide) HT2.out) ?_
  rintro e Wq ⟨rfl, hq⟩
  subst Wq
  clear HT HT2 HRl HTl
  go_wp2_with fail
  have HL3 : Hid (pl < W3.heap.size ∧ ps < W3.heap.size) := HR3.out.lt
  have HSz : Hid (w.heap.size < W3.heap.size) := lt_of_cell HD3.out.c0
  have HCb : Hid (w.heap.size ≤ W3.heap.size ∧ W3.heap.size ≠ w.heap.size) := by have := HSz.out; exact ⟨by omega, by omega⟩
  have HNc : Hid (W3.heap.size ≠ pl ∧ W3.heap.size ≠ ps) := by have := HL3.out; exact ⟨by omega, by omega⟩
  have hbA : Below W3.heap.size W3 (W3.alloc (.cells #[.int .i64 8, .string ⟨#[]⟩, .int .u32 0, .string ⟨#[]⟩] 40)) := (Below.refl _ _).alloc (Nat.le_refl _) _
  have HR4 : Hid (Rd (W3.alloc (.cells #[.int .i64 8, .string ⟨#[]⟩, .int .u32 0, .string ⟨#[]⟩] 40)) pl ps (x :: r)) := HR3.out.below hbA
  have HB4 : Hid (Bs2 pl ps w (W3.alloc (.cells #[.int .i64 8, .string ⟨#[]⟩, .int .u32 0, .string ⟨#[]⟩] 40))) := HB3.out.trans (Bs2.of_below hbA)
  have HD4 : Hid (C4 (W3.alloc (.cells #[.int .i64 8, .string ⟨#[]⟩, .int .u32 0, .string ⟨#[]⟩] 40)) w.heap.size (.int .i64 0) (.string ⟨#[]⟩) (.int .u32 0) (.string ⟨#[]⟩)) := HD3.out.below hbA
  have HC4 : Hid (C4 (W3.alloc (.cells #[.int .i64 8, .string ⟨#[]⟩, .int .u32 0, .string ⟨#[]⟩] 40)) W3.heap.size (.int .i64 8) (.string ⟨#[]⟩) (.int .u32 0) (.string ⟨#[]⟩)) := C4.new _ 40 _ _ _ _
  clear hbA HL3 HSz HR3 HB3 HD3
  generalize W3.alloc (.cells #[.int .i64 8, .string ⟨#[]⟩, .int .u32 0, .string ⟨#[]⟩] 40) = W4 at *
  generalize W3.heap.size = cb at *
  have y0 : True := trivial
  clear y0
  refine Calls.mono (next_yes pl ps x _ W4 HR4.out (HS.out.bs2 HB4.out).max) ?_
  rintro e W5 ⟨rfl, hr5, hb5⟩
  have HR5 : Hid (_ : Prop) := hr5
  have HB5 : Hid (Bs2 pl ps w W5) := HB4.out.trans hb5
  have HD5 : Hid (_ : Prop) := HD4.out.bs2 hb5 HNl.out.1 HNl.out.2
  have HC5 : Hid (_ : Prop) := HC4.out.bs2 hb5 HNc.out.1 HNc.out.2
  clear hr5 hb5 HR4 HB4 HD4 HC4
  go_wp2_with fail
  refine Calls.mono (number_yes n hn W5 (HS.out.bs2 HB5.out).env) ?_
  rintro e W6 ⟨rfl, hb6⟩
  have HR6 : Hid (_ : Prop) := HR5.out.below hb6
  have HB6 : Hid (Bs2 pl ps w W6) := HB5.out.trans (Bs2.of_below hb6)
  have HD6 : Hid (_ : Prop) := HD5.out.below hb6
  have HC6 : Hid (_ : Prop) := HC5.out.below hb6
  clear hb6 HR5 HB5 HD5 HC5
  obtain ⟨W7, hW7⟩ : ∃ W, W6.setCell ⟨cb, 2, none⟩ (.int .u32 (n : Int)) = W := ⟨_, rfl⟩
  have HR7 : Hid (Rd W7 pl ps (r)) := by unfold Hid; rw [← hW7]; exact HR6.out.set HNc.out.1 HNc.out.2
  have HB7 : Hid (Bs2 pl ps w W7) := by unfold Hid; rw [← hW7]; exact HB6.out.set HCb.out.1
  have HD7 : Hid (C4 W7 w.heap.size (.int .i64 0) (.string ⟨#[]⟩) (.int .u32 0) (.string ⟨#[]⟩)) := by unfold Hid; rw [← hW7]; exact HD6.out.other HCb.out.2
  have HC7 : Hid (C4 W7 cb (.int .i64 8) (.string ⟨#[]⟩) (.int .u32 (n : Int)) (.string ⟨#[]⟩)) := by unfold Hid; rw [← hW7]; exact HC6.out.set2
  have z0 := HC6.out.c2
  have z1 := HC6.out.f 2
  clear HR6 HB6 HD6 HC6
  have y0 := HC7.out.c0
  have y1 := HC7.out.c1
  have y2 := HC7.out.c2
  have y3 := HC7.out.c3
  have x0 := HD7.out.c0
  have x1 := HD7.out.c1
  have x2 := HD7.out.c2
  have x3 := HD7.out.c3
  have f0 := HD7.out.f 0
  have f1 := HD7.out.f 1
  have f2 := HD7.out.f 2
  have f3 := HD7.out.f 3
  have HF : Hid (C4 ((((W7.setCell ⟨w.heap.size, 0, none⟩ (.int .i64 8)).setCell ⟨w.heap.size, 1, none⟩ (.string ⟨#[]⟩)).setCell ⟨w.heap.size, 2, none⟩ (.int .u32 (n : Int))).setCell ⟨w.heap.size, 3, none⟩ (.string ⟨#[]⟩)) w.heap.size (.int .i64 8) (.string ⟨#[]⟩) (.int .u32 (n : Int)) (.string ⟨#[]⟩)) := HD7.out.set0.set1.set2.set3
  have HLf : Hid (Left w ((((W7.setCell ⟨w.heap.size, 0, none⟩ (.int .i64 8)).setCell ⟨w.heap.size, 1, none⟩ (.string ⟨#[]⟩)).setCell ⟨w.heap.size, 2, none⟩ (.int .u32 (n : Int))).setCell ⟨w.heap.size, 3, none⟩ (.string ⟨#[]⟩)) pl ps r) := ⟨(((HR7.out.set HNl.out.1 HNl.out.2).set HNl.out.1 HNl.out.2).set HNl.out.1 HNl.out.2).set HNl.out.1 HNl.out.2, (((HB7.out.set (Nat.le_refl _)).set (Nat.le_refl _)).set (Nat.le_refl _)).set (Nat.le_refl _)⟩
  go_wp2_with fail
  generalize ((((W7.setCell ⟨w.heap.size, 0, none⟩ (.int .i64 8)).setCell ⟨w.heap.size, 1, none⟩ (.string ⟨#[]⟩)).setCell ⟨w.heap.size, 2, none⟩ (.int .u32 (n : Int))).setCell ⟨w.heap.size, 3, none⟩ (.string ⟨#[]⟩)) = WF at *
  have e0 := HF.out.c0
  have e1 := HF.out.c1
  have e2 := HF.out.c2
  have e3 := HF.out.c3
  refine bodyPost_ret (v := .agg #[.int .i64 8, .string ⟨#[]⟩, .int .u32 (n : Int), .string ⟨#[]⟩]) (by simp [results, Tryz.results91, go_sem, e0, e1, e2, e3]) rfl ?_
  exact ⟨rfl, HLf.out⟩
set_option maxHeartbeats 2000000 in
theorem readA10 (x : List UInt8) (n : Nat) (hn : n ≤ 2) (hx : x ≠ []) (hi : Lib.idxOfS ((owL.map fun l => (⟨l.toArray⟩ : ByteArray)).take 3) ⟨x.toArray⟩ = (n : Int)) (pl ps : Nat) (r : List (List UInt8)) (W0 w : World) (h0 : Std0 W0 w pl ps) (hr : Rd w pl ps ([111, 114, 105, 103, 105, 110] :: x :: r)) : Calls Tryz.prog 91 #[clo pl ps] w fun e w' => e = .returned (acV ⟨10, ⟨#[]⟩, n, ⟨#[]⟩⟩) ∧ Left w w' pl ps r := by
  have hl := hr.lt
  obtain ⟨W1, hW1⟩ : ∃ W1, w.alloc (.cells #[.int .i64 0, .string ⟨#[]⟩, .int .u32 0, .string ⟨#[]⟩] 40) = W1 := ⟨_, rfl⟩
  have bb1 : Below w.heap.size w W1 := by rw [← hW1]; exact (Below.refl _ _).alloc (Nat.le_refl _) _
  have hlt : w.heap.size < W1.heap.size := by rw [← hW1]; simp
  have b1 : Bs2 pl ps w W1 := Bs2.of_below bb1
  have r1 : Rd W1 pl ps ([111, 114, 105, 103, 105, 110] :: x :: r) := hr.below bb1
  have d1 : C4 W1 w.heap.size (.int .i64 0) (.string ⟨#[]⟩) (.int .u32 0) (.string ⟨#[]⟩) := by rw [← hW1]; exact C4.new w 40 _ _ _ _
  have HNl : Hid (w.heap.size ≠ pl ∧ w.heap.size ≠ ps) := ⟨by omega, by omega⟩
  have HS : Hid (Std0 W0 w pl ps) := h0
  have HB1 : Hid (Bs2 pl ps w W1) := b1
  have HR1 : Hid (Rd W1 pl ps ([111, 114, 105, 103, 105, 110] :: x :: r)) := r1
  have HD1 : Hid (C4 W1 w.heap.size _ _ _ _) := d1
  have HLt : Hid (w.heap.size < W1.heap.size) := hlt
  clear h0 hr hl bb1 b1 r1 d1 hlt
  unfold clo
  go_enter Tryz.func91, Tryz.ntmps91
  go_wp2_with fail
  have HRl : Hid (pl < W1.heap.size ∧ ps < W1.heap.size) := HR1.out.lt
  refine Calls.mono (aw_any W1) ?_
  rintro e W2 ⟨rfl, ht2⟩
  have hb2 := ht2.2
  have HT : Hid (∀ q, q < awL.length → W2.cell? ⟨W1.heap.size, q, none⟩ = some (.string ⟨(awL.getD q []).toArray⟩)) := ht2.1
  clear ht2
  have HR2 : Hid (_ : Prop) := HR1.out.below hb2
  have HB2 : Hid (Bs2 pl ps w W2) := HB1.out.trans (Bs2.of_below hb2)
  have HD2 : Hid (_ : Prop) := HD1.out.below hb2
  clear hb2 HR1 HB1 HD1
  have HTl : Hid (W1.heap.size ≠ pl ∧ W1.heap.size ≠ ps) := ⟨by have := HRl.out; omega, by have := HRl.out; omega⟩
  go_wp2_with fail
  refine Calls.mono (next_yes pl ps [111, 114, 105, 103, 105, 110] _ W2 HR2.out (HS.out.bs2 HB2.out).max) ?_
  rintro e W3 ⟨rfl, hr3, hb3⟩
  have HR3 : Hid (_ : Prop) := hr3
  have HB3 : Hid (Bs2 pl ps w W3) := HB2.out.trans hb3
  have HD3 : Hid (_ : Prop) := HD2.out.bs2 hb3 HNl.out.1 HNl.out.2
  have HT2 : Hid (∀ q, q < awL.length → W3.cell? ⟨W1.heap.size, q, none⟩ = some (.string ⟨(awL.getD q []).toArray⟩)) := fun q hq => hb3.cell (HT.out q hq) HTl.out.1 HTl.out.2
  clear hr3 hb3 HR2 HB2 HD2
  go_wp2_with fail
  refine Calls.mono (place_yes W1.heap.size 11 awL [111, 114, 105, 103, 105, 110] 10 W3 rfl (by decide) (by decide) (by decide) HT2.out) ?_
  rintro e Wq ⟨rfl, hq⟩
  subst Wq
  clear HT HT2 HRl HTl
  go_wp2_with fail
  have HL3 : Hid (pl < W3.heap.size ∧ ps < W3.heap.size) := HR3.out.lt
  have HSz : Hid (w.heap.size < W3.heap.size) := lt_of_cell HD3.out.c0
  have HCb : Hid (w.heap.size ≤ W3.heap.size ∧ W3.heap.size ≠ w.heap.size) := by have := HSz.out; exact ⟨by omega, by omega⟩
  have HNc : Hid (W3.heap.size ≠ pl ∧ W3.heap.size ≠ ps) := by have := HL3.out; exact ⟨by omega, by omega⟩
  have hbA : Below W3.heap.size W3 (W3.alloc (.cells #[.int .i64 10, .string ⟨#[]⟩, .int .u32 0, .string ⟨#[]⟩] 40)) := (Below.refl _ _).alloc (Nat.le_refl _) _
  have HR4 : Hid (Rd (W3.alloc (.cells #[.int .i64 10, .string ⟨#[]⟩, .int .u32 0, .string ⟨#[]⟩] 40)) pl ps (x :: r)) := HR3.out.below hbA
  have HB4 : Hid (Bs2 pl ps w (W3.alloc (.cells #[.int .i64 10, .string ⟨#[]⟩, .int .u32 0, .string ⟨#[]⟩] 40))) := HB3.out.trans (Bs2.of_below hbA)
  have HD4 : Hid (C4 (W3.alloc (.cells #[.int .i64 10, .string ⟨#[]⟩, .int .u32 0, .string ⟨#[]⟩] 40)) w.heap.size (.int .i64 0) (.string ⟨#[]⟩) (.int .u32 0) (.string ⟨#[]⟩)) := HD3.out.below hbA
  have HC4 : Hid (C4 (W3.alloc (.cells #[.int .i64 10, .string ⟨#[]⟩, .int .u32 0, .string ⟨#[]⟩] 40)) W3.heap.size (.int .i64 10) (.string ⟨#[]⟩) (.int .u32 0) (.string ⟨#[]⟩)) := C4.new _ 40 _ _ _ _
  clear hbA HL3 HSz HR3 HB3 HD3
  generalize W3.alloc (.cells #[.int .i64 10, .string ⟨#[]⟩, .int .u32 0, .string ⟨#[]⟩] 40) = W4 at *
  generalize W3.heap.size = cb at *
  have y0 : True := trivial
  clear y0
  have HRl : Hid (pl < W4.heap.size ∧ ps < W4.heap.size) := HR4.out.lt
  refine Calls.mono (ow_any W4) ?_
  rintro e W5 ⟨rfl, ht5⟩
  have hb5 := ht5.2
  have HT : Hid (∀ q, q < owL.length → W5.cell? ⟨W4.heap.size, q, none⟩ = some (.string ⟨(owL.getD q []).toArray⟩)) := ht5.1
  clear ht5
  have HR5 : Hid (_ : Prop) := HR4.out.below hb5
  have HB5 : Hid (Bs2 pl ps w W5) := HB4.out.trans (Bs2.of_below hb5)
  have HD5 : Hid (_ : Prop) := HD4.out.below hb5
  have HC5 : Hid (_ : Prop) := HC4.out.below hb5
  clear hb5 HR4 HB4 HD4 HC4
  have HTl : Hid (W4.heap.size ≠ pl ∧ W4.heap.size ≠ ps) := ⟨by have := HRl.out; omega, by have := HRl.out; omega⟩
  go_wp2_with fail
  refine Calls.mono (next_yes pl ps x _ W5 HR5.out (HS.out.bs2 HB5.out).max) ?_
  rintro e W6 ⟨rfl, hr6, hb6⟩
  have HR6 : Hid (_ : Prop) := hr6
  have HB6 : Hid (Bs2 pl ps w W6) := HB5.out.trans hb6
  have HD6 : Hid (_ : Prop) := HD5.out.bs2 hb6 HNl.out.1 HNl.out.2
  have HC6 : Hid (_ : Prop) := HC5.out.bs2 hb6 HNc.out.1 HNc.out.2
  have HT2 : Hid (∀ q, q < owL.length → W6.cell? ⟨W4.heap.size, q, none⟩ = some (.string ⟨(owL.getD q []).toArray⟩)) := fun q hq => hb6.cell (HT.out q hq) HTl.out.1 HTl.out.2
  clear hr6 hb6 HR5 HB5 HD5 HC5
  go_wp2_with fail
  refine Calls.mono (place_yes W4.heap.size 3 owL x n W6 rfl (by decide) hx hi HT2.out) ?_
  rintro e Wq ⟨rfl, hq⟩
  subst Wq
  clear HT HT2 HRl HTl
  have hwn : IntKind.u32.wrap (n : Int) = n := by rw [IntKind.wrap_u32]; omega
  obtain ⟨W7, hW7⟩ : ∃ W, W6.setCell ⟨cb, 2, none⟩ (.int .u32 (n : Int)) = W := ⟨_, rfl⟩
  have HR7 : Hid (Rd W7 pl ps (r)) := by unfold Hid; rw [← hW7]; exact HR6.out.set HNc.out.1 HNc.out.2
  have HB7 : Hid (Bs2 pl ps w W7) := by unfold Hid; rw [← hW7]; exact HB6.out.set HCb.out.1
  have HD7 : Hid (C4 W7 w.heap.size (.int .i64 0) (.string ⟨#[]⟩) (.int .u32 0) (.string ⟨#[]⟩)) := by unfold Hid; rw [← hW7]; exact HD6.out.other HCb.out.2
  have HC7 : Hid (C4 W7 cb (.int .i64 10) (.string ⟨#[]⟩) (.int .u32 (n : Int)) (.string ⟨#[]⟩)) := by unfold Hid; rw [← hW7]; exact HC6.out.set2
  have z0 := HC6.out.c2
  have z1 := HC6.out.f 2
  clear HR6 HB6 HD6 HC6
  have y0 := HC7.out.c0
  have y1 := HC7.out.c1
  have y2 := HC7.out.c2
  have y3 := HC7.out.c3
  have x0 := HD7.out.c0
  have x1 := HD7.out.c1
  have x2 := HD7.out.c2
  have x3 := HD7.out.c3
  have f0 := HD7.out.f 0
  have f1 := HD7.out.f 1
  have f2 := HD7.out.f 2
  have f3 := HD7.out.f 3
  have HF : Hid (C4 ((((W7.setCell ⟨w.heap.size, 0, none⟩ (.int .i64 10)).setCell ⟨w.heap.size, 1, none⟩ (.string ⟨#[]⟩)).setCell ⟨w.heap.size, 2, none⟩ (.int .u32 (n : Int))).setCell ⟨w.heap.size, 3, none⟩ (.string ⟨#[]⟩)) w.heap.size (.int .i64 10) (.string ⟨#[]⟩) (.int .u32 (n : Int)) (.string ⟨#[]⟩)) := HD7.out.set0.set1.set2.set3
  have HLf : Hid (Left w ((((W7.setCell ⟨w.heap.size, 0, none⟩ (.int .i64 10)).setCell ⟨w.heap.size, 1, none⟩ (.string ⟨#[]⟩)).setCell ⟨w.heap.size, 2, none⟩ (.int .u32 (n : Int))).setCell ⟨w.heap.size, 3, none⟩ (.string ⟨#[]⟩)) pl ps r) := ⟨(((HR7.out.set HNl.out.1 HNl.out.2).set HNl.out.1 HNl.out.2).set HNl.out.1 HNl.out.2).set HNl.out.1 HNl.out.2, (((HB7.out.set (Nat.le_refl _)).set (Nat.le_refl _)).set (Nat.le_refl _)).set (Nat.le_refl _)⟩
  go_wp2_with fail
  generalize ((((W7.setCell ⟨w.heap.size, 0, none⟩ (.int .i64 10)).setCell ⟨w.heap.size, 1, none⟩ (.string ⟨#[]⟩)).setCell ⟨w.heap.size, 2, none⟩ (.int .u32 (n : Int))).setCell ⟨w.heap.size, 3, none⟩ (.string ⟨#[]⟩)) = WF at *
  have e0 := HF.out.c0
  have e1 := HF.out.c1
  have e2 := HF.out.c2
  have e3 := HF.out.c3
  refine bodyPost_ret (v := .agg #[.int .i64 10, .string ⟨#[]⟩, .int .u32 (n : Int), .string ⟨#[]⟩]) (by simp [results, Tryz.results91, go_sem, e0, e1, e2, e3]) rfl ?_
  exact ⟨rfl, HLf.out⟩
end Go.Proofs.YthaebbmekonacaaGreatDoor
set_option linter.unusedVariables false
set_option linter.unusedSimpArgs false
set_option maxRecDepth 100000
namespace Go.Proofs.YthaebbmekonacaaGreatDoor
open Go.RowKit
set_option maxHeartbeats 2000000 in
theorem readA6 (x : List UInt8) (n : Nat) (hn : n < 4294967296) (hx : x = comT n) (pl ps : Nat) (r : List (List UInt8)) (W0 w : World) (h0 : Std0 W0 w pl ps) (hr : Rd w pl ps ([97, 100, 100] :: x :: r)) : Calls Tryz.prog 91 #[clo pl ps] w fun e w' => e = .returned (acV ⟨6, ⟨#[]⟩, n, ⟨#[]⟩⟩) ∧ Left w w' pl ps r := by
  have hl := hr.lt
  obtain ⟨W1, hW1⟩ : ∃ W1, w.alloc (.cells #[.int .i64 0, .string ⟨#[]⟩, .int .u32 0, .string ⟨#[]⟩] 40) = W1 := ⟨_, rfl⟩
  have bb1 : Below w.heap.size w W1 := by rw [← hW1]; exact (Below.refl _ _).alloc (Nat.le_refl _) _
  have hlt : w.heap.size < W1.heap.size := by rw [← hW1]; simp
  have b1 : Bs2 pl ps w W1 := Bs2.of_below bb1
  have r1 : Rd W1 pl ps ([97, 100, 100] :: x :: r) := hr.below bb1
  have d1 : C4 W1 w.heap.size (.int .i64 0) (.string ⟨#[]⟩) (.int .u32 0) (.string ⟨#[]⟩) := by rw [← hW1]; exact C4.new w 40 _ _ _ _
  have HNl : Hid (w.heap.size ≠ pl ∧ w.heap.size ≠ ps) := ⟨by omega, by omega⟩
  have HS : Hid (Std0 W0 w pl ps) := h0
  have HX : Hid (x = comT n) := hx
  have HNn : Hid (n < 4294967296) := hn
  clear hx hn
  have HB1 : Hid (Bs2 pl ps w W1) := b1
  have HR1 : Hid (Rd W1 pl ps ([97, 100, 100] :: x :: r)) := r1
  have HD1 : Hid (C4 W1 w.heap.size _ _ _ _) := d1
  have HLt : Hid (w.heap.size < W1.heap.size) := hlt
  clear h0 hr hl bb1 b1 r1 d1 hlt
  unfold clo
  go_enter Tryz.func91, Tryz.ntmps91
  go_wp2_with fail
  have HRl : Hid (pl < W1.heap.size ∧ ps < W1.heap.size) := HR1.out.lt
  refine Calls.mono (aw_any W1) ?_
  rintro e W2 ⟨rfl, ht2⟩
  have hb2 := ht2.2
  have HT : Hid (∀ q, q < awL.length → W2.cell? ⟨W1.heap.size, q, none⟩ = some (.string ⟨(awL.getD q []).toArray⟩)) := ht2.1
  clear ht2
  have HR2 : Hid (_ : Prop) := HR1.out.below hb2
  have HB2 : Hid (Bs2 pl ps w W2) := HB1.out.trans (Bs2.of_below hb2)
  have HD2 : Hid (_ : Prop) := HD1.out.below hb2
  clear hb2 HR1 HB1 HD1
  have HTl : Hid (W1.heap.size ≠ pl ∧ W1.heap.size ≠ ps) := ⟨by have := HRl.out; omega, by have := HRl.out; omega⟩
  go_wp2_with fail
  refine Calls.mono (next_yes pl ps [97, 100, 100] _ W2 HR2.out (HS.out.bs2 HB2.out).max) ?_
  rintro e W3 ⟨rfl, hr3, hb3⟩
  have HR3 : Hid (_ : Prop) := hr3
  have HB3 : Hid (Bs2 pl ps w W3) := HB2.out.trans hb3
  have HD3 : Hid (_ : Prop) := HD2.out.bs2 hb3 HNl.out.1 HNl.out.2
  have HT2 : Hid (∀ q, q < awL.length → W3.cell? ⟨W1.heap.size, q, none⟩ = some (.string ⟨(awL.getD q []).toArray⟩)) := fun q hq => hb3.cell (HT.out q hq) HTl.out.1 HTl.out.2
  clear hr3 hb3 HR2 HB2 HD2
  go_wp2_with fail
  refine Calls.mono (place_yes W1.heap.size 11 awL [97, 100, 100] 6 W3 rfl (by decide) (by decide) (by decide) HT2.out) ?_
  rintro e Wq ⟨rfl, hq⟩
  subst Wq
  clear HT HT2 HRl HTl
  go_wp2_with fail
  have HL3 : Hid (pl < W3.heap.size ∧ ps < W3.heap.size) := HR3.out.lt
  have HSz : Hid (w.heap.size < W3.heap.size) := lt_of_cell HD3.out.c0
  have HCb : Hid (w.heap.size ≤ W3.heap.size ∧ W3.heap.size ≠ w.heap.size) := by have := HSz.out; exact ⟨by omega, by omega⟩
  have HNc : Hid (W3.heap.size ≠ pl ∧ W3.heap.size ≠ ps) := by have := HL3.out; exact ⟨by omega, by omega⟩
  have hbA : Below W3.heap.size W3 (W3.alloc (.cells #[.int .i64 6, .string ⟨#[]⟩, .int .u32 0, .string ⟨#[]⟩] 40)) := (Below.refl _ _).alloc (Nat.le_refl _) _
  have HR4 : Hid (Rd (W3.alloc (.cells #[.int .i64 6, .string ⟨#[]⟩, .int .u32 0, .string ⟨#[]⟩] 40)) pl ps (x :: r)) := HR3.out.below hbA
  have HB4 : Hid (Bs2 pl ps w (W3.alloc (.cells #[.int .i64 6, .string ⟨#[]⟩, .int .u32 0, .string ⟨#[]⟩] 40))) := HB3.out.trans (Bs2.of_below hbA)
  have HD4 : Hid (C4 (W3.alloc (.cells #[.int .i64 6, .string ⟨#[]⟩, .int .u32 0, .string ⟨#[]⟩] 40)) w.heap.size (.int .i64 0) (.string ⟨#[]⟩) (.int .u32 0) (.string ⟨#[]⟩)) := HD3.out.below hbA
  have HC4 : Hid (C4 (W3.alloc (.cells #[.int .i64 6, .string ⟨#[]⟩, .int .u32 0, .string ⟨#[]⟩] 40)) W3.heap.size (.int .i64 6) (.string ⟨#[]⟩) (.int .u32 0) (.string ⟨#[]⟩)) := C4.new _ 40 _ _ _ _
  clear hbA HL3 HSz HR3 HB3 HD3
  generalize W3.alloc (.cells #[.int .i64 6, .string ⟨#[]⟩, .int .u32 0, .string ⟨#[]⟩] 40) = W4 at *
  generalize W3.heap.size = cb at *
  have y0 : True := trivial
  clear y0
  refine Calls.mono (next_yes pl ps x _ W4 HR4.out (HS.out.bs2 HB4.out).max) ?_
  rintro e W5 ⟨rfl, hr5, hb5⟩
  have HR5 : Hid (_ : Prop) := hr5
  have HB5 : Hid (Bs2 pl ps w W5) := HB4.out.trans hb5
  have HD5 : Hid (_ : Prop) := HD4.out.bs2 hb5 HNl.out.1 HNl.out.2
  have HC5 : Hid (_ : Prop) := HC4.out.bs2 hb5 HNc.out.1 HNc.out.2
  clear hr5 hb5 HR4 HB4 HD4 HC4
  go_wp2_with fail
  refine Calls.mono (comParse n x HX.out HNn.out W5 (HS.out.bs2 HB5.out).env) ?_
  rintro e W6 ⟨rfl, hb6⟩
  have HR6 : Hid (_ : Prop) := HR5.out.below hb6
  have HB6 : Hid (Bs2 pl ps w W6) := HB5.out.trans (Bs2.of_below hb6)
  have HD6 : Hid (_ : Prop) := HD5.out.below hb6
  have HC6 : Hid (_ : Prop) := HC5.out.below hb6
  clear hb6 HR5 HB5 HD5 HC5
  go_wp2_with fail
  refine Calls.mono (takenU (n : Int) W6) ?_
  rintro e Wq ⟨rfl, hq⟩
  subst Wq
  obtain ⟨W7, hW7⟩ : ∃ W, W6.setCell ⟨cb, 2, none⟩ (.int .u32 (n : Int)) = W := ⟨_, rfl⟩
  have HR7 : Hid (Rd W7 pl ps (r)) := by unfold Hid; rw [← hW7]; exact HR6.out.set HNc.out.1 HNc.out.2
  have HB7 : Hid (Bs2 pl ps w W7) := by unfold Hid; rw [← hW7]; exact HB6.out.set HCb.out.1
  have HD7 : Hid (C4 W7 w.heap.size (.int .i64 0) (.string ⟨#[]⟩) (.int .u32 0) (.string ⟨#[]⟩)) := by unfold Hid; rw [← hW7]; exact HD6.out.other HCb.out.2
  have HC7 : Hid (C4 W7 cb (.int .i64 6) (.string ⟨#[]⟩) (.int .u32 (n : Int)) (.string ⟨#[]⟩)) := by unfold Hid; rw [← hW7]; exact HC6.out.set2
  have z0 := HC6.out.c2
  have z1 := HC6.out.f 2
  clear HR6 HB6 HD6 HC6
  have y0 := HC7.out.c0
  have y1 := HC7.out.c1
  have y2 := HC7.out.c2
  have y3 := HC7.out.c3
  have x0 := HD7.out.c0
  have x1 := HD7.out.c1
  have x2 := HD7.out.c2
  have x3 := HD7.out.c3
  have f0 := HD7.out.f 0
  have f1 := HD7.out.f 1
  have f2 := HD7.out.f 2
  have f3 := HD7.out.f 3
  have HF : Hid (C4 ((((W7.setCell ⟨w.heap.size, 0, none⟩ (.int .i64 6)).setCell ⟨w.heap.size, 1, none⟩ (.string ⟨#[]⟩)).setCell ⟨w.heap.size, 2, none⟩ (.int .u32 (n : Int))).setCell ⟨w.heap.size, 3, none⟩ (.string ⟨#[]⟩)) w.heap.size (.int .i64 6) (.string ⟨#[]⟩) (.int .u32 (n : Int)) (.string ⟨#[]⟩)) := HD7.out.set0.set1.set2.set3
  have HLf : Hid (Left w ((((W7.setCell ⟨w.heap.size, 0, none⟩ (.int .i64 6)).setCell ⟨w.heap.size, 1, none⟩ (.string ⟨#[]⟩)).setCell ⟨w.heap.size, 2, none⟩ (.int .u32 (n : Int))).setCell ⟨w.heap.size, 3, none⟩ (.string ⟨#[]⟩)) pl ps r) := ⟨(((HR7.out.set HNl.out.1 HNl.out.2).set HNl.out.1 HNl.out.2).set HNl.out.1 HNl.out.2).set HNl.out.1 HNl.out.2, (((HB7.out.set (Nat.le_refl _)).set (Nat.le_refl _)).set (Nat.le_refl _)).set (Nat.le_refl _)⟩
  go_wp2_with fail
  generalize ((((W7.setCell ⟨w.heap.size, 0, none⟩ (.int .i64 6)).setCell ⟨w.heap.size, 1, none⟩ (.string ⟨#[]⟩)).setCell ⟨w.heap.size, 2, none⟩ (.int .u32 (n : Int))).setCell ⟨w.heap.size, 3, none⟩ (.string ⟨#[]⟩)) = WF at *
  have e0 := HF.out.c0
  have e1 := HF.out.c1
  have e2 := HF.out.c2
  have e3 := HF.out.c3
  refine bodyPost_ret (v := .agg #[.int .i64 6, .string ⟨#[]⟩, .int .u32 (n : Int), .string ⟨#[]⟩]) (by simp [results, Tryz.results91, go_sem, e0, e1, e2, e3]) rfl ?_
  exact ⟨rfl, HLf.out⟩
end Go.Proofs.YthaebbmekonacaaGreatDoor
set_option linter.unusedVariables false
set_option linter.unusedSimpArgs false
set_option maxRecDepth 100000
namespace Go.Proofs.YthaebbmekonacaaGreatDoor
open Go.RowKit
set_option maxHeartbeats 2000000 in
theorem readA9 (x : List UInt8) (b : ByteArray) (hb : b.size = 4 ∨ b.size = 16) (hx : x = adT b) (pl ps : Nat) (r : List (List UInt8)) (W0 w : World) (h0 : Std0 W0 w pl ps) (hEr : ErrsAt W0) (hr : Rd w pl ps ([110, 101, 120, 116] :: x :: r)) : Calls Tryz.prog 91 #[clo pl ps] w fun e w' => e = .returned (acV ⟨9, ⟨#[]⟩, 0, b⟩) ∧ Left w w' pl ps r := by
  have hl := hr.lt
  obtain ⟨W1, hW1⟩ : ∃ W1, w.alloc (.cells #[.int .i64 0, .string ⟨#[]⟩, .int .u32 0, .string ⟨#[]⟩] 40) = W1 := ⟨_, rfl⟩
  have bb1 : Below w.heap.size w W1 := by rw [← hW1]; exact (Below.refl _ _).alloc (Nat.le_refl _) _
  have hlt : w.heap.size < W1.heap.size := by rw [← hW1]; simp
  have b1 : Bs2 pl ps w W1 := Bs2.of_below bb1
  have r1 : Rd W1 pl ps ([110, 101, 120, 116] :: x :: r) := hr.below bb1
  have d1 : C4 W1 w.heap.size (.int .i64 0) (.string ⟨#[]⟩) (.int .u32 0) (.string ⟨#[]⟩) := by rw [← hW1]; exact C4.new w 40 _ _ _ _
  have HNl : Hid (w.heap.size ≠ pl ∧ w.heap.size ≠ ps) := ⟨by omega, by omega⟩
  have HS : Hid (Std0 W0 w pl ps) := h0
  have HEr : Hid (ErrsAt W0) := hEr
  have HX : Hid (x = adT b) := hx
  have HBb : Hid (b.size = 4 ∨ b.size = 16) := hb
  clear hEr hx hb
  have HB1 : Hid (Bs2 pl ps w W1) := b1
  have HR1 : Hid (Rd W1 pl ps ([110, 101, 120, 116] :: x :: r)) := r1
  have HD1 : Hid (C4 W1 w.heap.size _ _ _ _) := d1
  have HLt : Hid (w.heap.size < W1.heap.size) := hlt
  clear h0 hr hl bb1 b1 r1 d1 hlt
  unfold clo
  go_enter Tryz.func91, Tryz.ntmps91
  go_wp2_with fail
  have HRl : Hid (pl < W1.heap.size ∧ ps < W1.heap.size) := HR1.out.lt
  refine Calls.mono (aw_any W1) ?_
  rintro e W2 ⟨rfl, ht2⟩
  have hb2 := ht2.2
  have HT : Hid (∀ q, q < awL.length → W2.cell? ⟨W1.heap.size, q, none⟩ = some (.string ⟨(awL.getD q []).toArray⟩)) := ht2.1
  clear ht2
  have HR2 : Hid (_ : Prop) := HR1.out.below hb2
  have HB2 : Hid (Bs2 pl ps w W2) := HB1.out.trans (Bs2.of_below hb2)
  have HD2 : Hid (_ : Prop) := HD1.out.below hb2
  clear hb2 HR1 HB1 HD1
  have HTl : Hid (W1.heap.size ≠ pl ∧ W1.heap.size ≠ ps) := ⟨by have := HRl.out; omega, by have := HRl.out; omega⟩
  go_wp2_with fail
  refine Calls.mono (next_yes pl ps [110, 101, 120, 116] _ W2 HR2.out (HS.out.bs2 HB2.out).max) ?_
  rintro e W3 ⟨rfl, hr3, hb3⟩
  have HR3 : Hid (_ : Prop) := hr3
  have HB3 : Hid (Bs2 pl ps w W3) := HB2.out.trans hb3
  have HD3 : Hid (_ : Prop) := HD2.out.bs2 hb3 HNl.out.1 HNl.out.2
  have HT2 : Hid (∀ q, q < awL.length → W3.cell? ⟨W1.heap.size, q, none⟩ = some (.string ⟨(awL.getD q []).toArray⟩)) := fun q hq => hb3.cell (HT.out q hq) HTl.out.1 HTl.out.2
  clear hr3 hb3 HR2 HB2 HD2
  go_wp2_with fail
  refine Calls.mono (place_yes W1.heap.size 11 awL [110, 101, 120, 116] 9 W3 rfl (by decide) (by decide) (by decide) HT2.out) ?_
  rintro e Wq ⟨rfl, hq⟩
  subst Wq
  clear HT HT2 HRl HTl
  go_wp2_with fail
  have HL3 : Hid (pl < W3.heap.size ∧ ps < W3.heap.size) := HR3.out.lt
  have HSz : Hid (w.heap.size < W3.heap.size) := lt_of_cell HD3.out.c0
  have HCb : Hid (w.heap.size ≤ W3.heap.size ∧ W3.heap.size ≠ w.heap.size) := by have := HSz.out; exact ⟨by omega, by omega⟩
  have HNc : Hid (W3.heap.size ≠ pl ∧ W3.heap.size ≠ ps) := by have := HL3.out; exact ⟨by omega, by omega⟩
  have hbA : Below W3.heap.size W3 (W3.alloc (.cells #[.int .i64 9, .string ⟨#[]⟩, .int .u32 0, .string ⟨#[]⟩] 40)) := (Below.refl _ _).alloc (Nat.le_refl _) _
  have HR4 : Hid (Rd (W3.alloc (.cells #[.int .i64 9, .string ⟨#[]⟩, .int .u32 0, .string ⟨#[]⟩] 40)) pl ps (x :: r)) := HR3.out.below hbA
  have HB4 : Hid (Bs2 pl ps w (W3.alloc (.cells #[.int .i64 9, .string ⟨#[]⟩, .int .u32 0, .string ⟨#[]⟩] 40))) := HB3.out.trans (Bs2.of_below hbA)
  have HD4 : Hid (C4 (W3.alloc (.cells #[.int .i64 9, .string ⟨#[]⟩, .int .u32 0, .string ⟨#[]⟩] 40)) w.heap.size (.int .i64 0) (.string ⟨#[]⟩) (.int .u32 0) (.string ⟨#[]⟩)) := HD3.out.below hbA
  have HC4 : Hid (C4 (W3.alloc (.cells #[.int .i64 9, .string ⟨#[]⟩, .int .u32 0, .string ⟨#[]⟩] 40)) W3.heap.size (.int .i64 9) (.string ⟨#[]⟩) (.int .u32 0) (.string ⟨#[]⟩)) := C4.new _ 40 _ _ _ _
  clear hbA HL3 HSz HR3 HB3 HD3
  generalize W3.alloc (.cells #[.int .i64 9, .string ⟨#[]⟩, .int .u32 0, .string ⟨#[]⟩] 40) = W4 at *
  generalize W3.heap.size = cb at *
  have y0 : True := trivial
  clear y0
  refine Calls.mono (next_yes pl ps x _ W4 HR4.out (HS.out.bs2 HB4.out).max) ?_
  rintro e W5 ⟨rfl, hr5, hb5⟩
  have HR5 : Hid (_ : Prop) := hr5
  have HB5 : Hid (Bs2 pl ps w W5) := HB4.out.trans hb5
  have HD5 : Hid (_ : Prop) := HD4.out.bs2 hb5 HNl.out.1 HNl.out.2
  have HC5 : Hid (_ : Prop) := HC4.out.bs2 hb5 HNc.out.1 HNc.out.2
  clear hr5 hb5 HR4 HB4 HD4 HC4
  go_wp2_with fail
  refine Calls.mono (adrParse b x HX.out HBb.out W5 (HS.out.bs2 HB5.out).env (HEr.out.below ((HS.out.bs2 HB5.out).b))) ?_
  rintro e W6 ⟨rfl, hb6⟩
  have HR6 : Hid (_ : Prop) := HR5.out.below hb6
  have HB6 : Hid (Bs2 pl ps w W6) := HB5.out.trans (Bs2.of_below hb6)
  have HD6 : Hid (_ : Prop) := HD5.out.below hb6
  have HC6 : Hid (_ : Prop) := HC5.out.below hb6
  clear hb6 HR5 HB5 HD5 HC5
  go_wp2_with fail
  refine Calls.mono (takenS b W6) ?_
  rintro e Wq ⟨rfl, hq⟩
  subst Wq
  obtain ⟨W7, hW7⟩ : ∃ W, W6.setCell ⟨cb, 3, none⟩ (.string b) = W := ⟨_, rfl⟩
  have HR7 : Hid (Rd W7 pl ps (r)) := by unfold Hid; rw [← hW7]; exact HR6.out.set HNc.out.1 HNc.out.2
  have HB7 : Hid (Bs2 pl ps w W7) := by unfold Hid; rw [← hW7]; exact HB6.out.set HCb.out.1
  have HD7 : Hid (C4 W7 w.heap.size (.int .i64 0) (.string ⟨#[]⟩) (.int .u32 0) (.string ⟨#[]⟩)) := by unfold Hid; rw [← hW7]; exact HD6.out.other HCb.out.2
  have HC7 : Hid (C4 W7 cb (.int .i64 9) (.string ⟨#[]⟩) (.int .u32 0) (.string b)) := by unfold Hid; rw [← hW7]; exact HC6.out.set3
  have z0 := HC6.out.c3
  have z1 := HC6.out.f 3
  clear HR6 HB6 HD6 HC6
  have y0 := HC7.out.c0
  have y1 := HC7.out.c1
  have y2 := HC7.out.c2
  have y3 := HC7.out.c3
  have x0 := HD7.out.c0
  have x1 := HD7.out.c1
  have x2 := HD7.out.c2
  have x3 := HD7.out.c3
  have f0 := HD7.out.f 0
  have f1 := HD7.out.f 1
  have f2 := HD7.out.f 2
  have f3 := HD7.out.f 3
  have HF : Hid (C4 ((((W7.setCell ⟨w.heap.size, 0, none⟩ (.int .i64 9)).setCell ⟨w.heap.size, 1, none⟩ (.string ⟨#[]⟩)).setCell ⟨w.heap.size, 2, none⟩ (.int .u32 0)).setCell ⟨w.heap.size, 3, none⟩ (.string b)) w.heap.size (.int .i64 9) (.string ⟨#[]⟩) (.int .u32 0) (.string b)) := HD7.out.set0.set1.set2.set3
  have HLf : Hid (Left w ((((W7.setCell ⟨w.heap.size, 0, none⟩ (.int .i64 9)).setCell ⟨w.heap.size, 1, none⟩ (.string ⟨#[]⟩)).setCell ⟨w.heap.size, 2, none⟩ (.int .u32 0)).setCell ⟨w.heap.size, 3, none⟩ (.string b)) pl ps r) := ⟨(((HR7.out.set HNl.out.1 HNl.out.2).set HNl.out.1 HNl.out.2).set HNl.out.1 HNl.out.2).set HNl.out.1 HNl.out.2, (((HB7.out.set (Nat.le_refl _)).set (Nat.le_refl _)).set (Nat.le_refl _)).set (Nat.le_refl _)⟩
  go_wp2_with fail
  generalize ((((W7.setCell ⟨w.heap.size, 0, none⟩ (.int .i64 9)).setCell ⟨w.heap.size, 1, none⟩ (.string ⟨#[]⟩)).setCell ⟨w.heap.size, 2, none⟩ (.int .u32 0)).setCell ⟨w.heap.size, 3, none⟩ (.string b)) = WF at *
  have e0 := HF.out.c0
  have e1 := HF.out.c1
  have e2 := HF.out.c2
  have e3 := HF.out.c3
  refine bodyPost_ret (v := .agg #[.int .i64 9, .string ⟨#[]⟩, .int .u32 0, .string b]) (by simp [results, Tryz.results91, go_sem, e0, e1, e2, e3]) rfl ?_
  exact ⟨rfl, HLf.out⟩
end Go.Proofs.YthaebbmekonacaaGreatDoor
