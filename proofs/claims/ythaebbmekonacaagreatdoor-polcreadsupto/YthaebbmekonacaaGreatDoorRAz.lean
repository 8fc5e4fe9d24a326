/-
  Actions read from their words: an address.
-/
import Derived.Test.YthaebbmekonacaaGreatDoorRD
import Derived.Laws.StructEq
import Derived.Laws.Bits64b
import Derived.Lib.AtoiErrMem
import Derived.Test.YthaebbmekonacaaGreatDoorRCz
import Derived.Test.YthaebbmekonacaaGreatDoorAD
set_option linter.unusedVariables false
set_option linter.unusedSimpArgs false
set_option maxRecDepth 100000
namespace Go.Proofs.YthaebbmekonacaaGreatDoor
open Go.RowKit
theorem takenU (n : Int) (w : World) : Calls Tryz.prog 134 #[.int .u32 n, .int .i64 0] w fun e w' => e = .returned (.int .u32 n) ∧ w' = w := by
  go_enter Tryz.func134, Tryz.ntmps134
  go_wp2_with (go_at_call 89; refine Calls.mono (need_yes _) ?_; rintro e w3 ⟨rfl, rfl⟩)
  go_ret
  exact ⟨rfl, rfl⟩
theorem takenS (b : ByteArray) (w : World) : Calls Tryz.prog 136 #[.string b, .int .i64 0] w fun e w' => e = .returned (.string b) ∧ w' = w := by
  go_enter Tryz.func136, Tryz.ntmps136
  go_wp2_with (go_at_call 89; refine Calls.mono (need_yes _) ?_; rintro e w3 ⟨rfl, rfl⟩)
  go_ret
  exact ⟨rfl, rfl⟩
def nmE : ByteArray := ⟨#[110, 111, 45, 101, 120, 112, 111, 114, 116]⟩
def nmA : ByteArray := ⟨#[110, 111, 45, 97, 100, 118, 101, 114, 116, 105, 115, 101]⟩
def nmC : ByteArray := ⟨#[110, 111, 45, 101, 120, 112, 111, 114, 116, 45, 115, 117, 98, 99, 111, 110, 102, 101, 100]⟩
theorem ne_list {a b : ByteArray} (h : ¬ (a = b)) : (a.toList == b.toList) = false := by
  cases hb : (a.toList == b.toList) with
  | false => rfl
  | true =>
    have e : a.toList = b.toList := eq_of_beq hb
    rw [ByteArray.toList_eq, ByteArray.toList_eq] at e
    exact absurd (ByteArray.ext (Array.toList_inj.mp e)) h
theorem nm_ne1 : (nmE.toList == nmA.toList) = false := ne_list (by decide +kernel)
theorem nm_ne2 : (nmE.toList == nmC.toList) = false := ne_list (by decide +kernel)
theorem nm_ne3 : (nmA.toList == nmC.toList) = false := ne_list (by decide +kernel)
theorem nm_f1 : ∃ r, nmE.data.toList = 110 :: r := ⟨_, rfl⟩
theorem nm_f2 : ∃ r, nmA.data.toList = 110 :: r := ⟨_, rfl⟩
theorem nm_f3 : ∃ r, nmC.data.toList = 110 :: r := ⟨_, rfl⟩
def textC (c : Nat) : ByteArray := ⟨(comT c).toArray⟩
def dgsB (n : Nat) : ByteArray := ⟨(Lib.decDigits n).toArray⟩
def numT (h l : Nat) : List UInt8 := Lib.decDigits h ++ 58 :: Lib.decDigits l
theorem pu_back16 (u : Nat) (h : u < 65536) : Lib.parseUintB 16 (Lib.decDigits u) = .ok u := by
  unfold Lib.parseUintB
  rw [if_neg (digits_ne u)]
  exact pm_back _ u (by simp; omega) (by simp)
theorem cut_numT (h l : Nat) : Lib.cut (numT h l) [58] = (Lib.decDigits h, Lib.decDigits l, true) :=
  cut_in 58 _ _ fun e => by
    have := (digits_are h _ e).2
    revert this; decide
theorem numT_first (h l : Nat) : ∃ c r, numT h l = c :: r ∧ c.toNat ≤ 57 := by
  cases hd : Lib.decDigits h with
  | nil => exact absurd hd (digits_ne h)
  | cons c r => exact ⟨c, r ++ 58 :: Lib.decDigits l, by simp [numT, hd], (digits_are h c (by simp [hd])).2⟩
theorem numT_not (h l : Nat) (nm : ByteArray) (x : UInt8) (r : List UInt8) (hn : nm.data.toList = x :: r) (hx : 57 < x.toNat) : ¬ (nm = (⟨(numT h l).toArray⟩ : ByteArray)) := by
  intro e
  obtain ⟨c, r', hc, hle⟩ := numT_first h l
  rw [e] at hn
  simp [hc] at hn
  rw [hn.1] at hle
  omega
theorem or16 (h l : Nat) (hh : h < 65536) (hl : l < 65536) : bits .or .u64 ((h : Int) * 65536) (l : Int) = ((h * 65536 + l : Nat) : Int) := by
  have e := bits_or_u64_nat (h * 65536) l (by omega) (by omega)
  rw [show ((h * 65536 : Nat) : Int) = (h : Int) * 65536 from by simp] at e
  rw [e, Nat.mul_comm h 65536, Nat.two_pow_add_eq_or_of_lt (i := 16) hl h]
theorem pu_below {w w' : World} {s : ByteArray} (h : w' = w ∨ w' = Lib.bytesWorld w 5 s) : Below w.heap.size w w' := by
  rcases h with rfl | rfl
  · exact Below.refl _ _
  · exact Lib.bytesWorld_below _ _ _
theorem MaxAt.below {w w' : World} (h : MaxAt w) (hb : Below w.heap.size w w') : MaxAt w' := h.elim fun m hm => ⟨m, below_cell hb hm⟩
theorem text_ways (c : Nat) : (c = 4294967041 ∧ textC c = nmE) ∨ (c = 4294967042 ∧ textC c = nmA) ∨ (c = 4294967043 ∧ textC c = nmC) ∨
    (textC c = ⟨(numT (c / 65536) (c % 65536)).toArray⟩ ∧ ¬ (nmE = textC c) ∧ ¬ (nmA = textC c) ∧ ¬ (nmC = textC c)) := by
  by_cases h1 : c = 4294967041
  · exact Or.inl ⟨h1, by simp [textC, comT, h1, nmE]⟩
  by_cases h2 : c = 4294967042
  · exact Or.inr (Or.inl ⟨h2, by simp [textC, comT, h2, nmA]⟩)
  by_cases h3 : c = 4294967043
  · exact Or.inr (Or.inr (Or.inl ⟨h3, by simp [textC, comT, h3, nmC]⟩))
  · have e : textC c = ⟨(numT (c / 65536) (c % 65536)).toArray⟩ := by unfold textC comT; rw [if_neg h1, if_neg h2, if_neg h3]; rfl
    obtain ⟨r1, f1⟩ := nm_f1
    obtain ⟨r2, f2⟩ := nm_f2
    obtain ⟨r3, f3⟩ := nm_f3
    refine Or.inr (Or.inr (Or.inr ⟨e, ?_, ?_, ?_⟩))
    · rw [e]; exact numT_not _ _ _ _ _ f1 (by decide)
    · rw [e]; exact numT_not _ _ _ _ _ f2 (by decide)
    · rw [e]; exact numT_not _ _ _ _ _ f3 (by decide)
theorem ComAt.names {w : World} (h : ComAt w) (k : Nat) (v : Value) (hv : comCells[k]? = some v) : w.cell? ⟨2, k, none⟩ = some v := by
  obtain ⟨t, fr, h⟩ := h
  exact cell_row h k v hv
set_option maxRecDepth 100000 in
theorem parse_nm0 (w : World) (ht : ComAt w) : Calls Tryz.prog 135 #[.string nmE] w fun e w' => e = .returned (.tuple #[.int .u32 4294967041, .int .i64 0]) ∧ Below w.heap.size w w' := by
  have n0 : w.cell? ⟨2, 0, none⟩ = some (.int .u32 4294967041) := ht.names 0 _ rfl
  have n1 : w.cell? ⟨2, 1, none⟩ = some (.string nmE) := ht.names 1 _ rfl
  have n2 : w.cell? ⟨2, 2, none⟩ = some (.int .u32 4294967042) := ht.names 2 _ rfl
  have n3 : w.cell? ⟨2, 3, none⟩ = some (.string nmA) := ht.names 3 _ rfl
  have n4 : w.cell? ⟨2, 4, none⟩ = some (.int .u32 4294967043) := ht.names 4 _ rfl
  have n5 : w.cell? ⟨2, 5, none⟩ = some (.string nmC) := ht.names 5 _ rfl
  clear ht
  go_enter Tryz.func135, Tryz.ntmps135
  go_wp2
  clear n0 n1 n2 n3 n4 n5
  go_loopw [15] (fun i wr => ∃ k : Nat, k ≤ 3 ∧ i = .int .i64 k ∧ Below w.heap.size w wr ∧ (0 < k → False)) (fun i _ => 3 - (intOf i).toNat)
  case atStart => exact ⟨0, by omega, rfl, Below.refl _ _, fun h => by omega⟩
  case round =>
    obtain ⟨k, hk, rfl, hb, hkk⟩ := hrel
    have HB : Hid (∀ o, Below w.heap.size w (wr.alloc o)) := fun o => hb.alloc hb.size _
    have HKK : Hid (_ → False) := hkk
    rcases (show k = 0 by have hkk2 : ¬ (0 < k) := hkk; omega) with rfl
    · have hix : ∀ W, (Instr.index 217 (.agg #[.int .u32 4294967041, .string nmE, .int .u32 4294967042, .string nmA, .int .u32 4294967043, .string nmC]) (.int .i64 0)).run Tryz.prog W = .ok (.agg #[.int .u32 4294967041, .string nmE]) W := fun W => by kernel_rfl
      go_wp2
      go_ret2
      exact ⟨rfl, HB.out _⟩

set_option maxRecDepth 100000 in
theorem parse_nm1 (w : World) (ht : ComAt w) : Calls Tryz.prog 135 #[.string nmA] w fun e w' => e = .returned (.tuple #[.int .u32 4294967042, .int .i64 0]) ∧ Below w.heap.size w w' := by
  have n0 : w.cell? ⟨2, 0, none⟩ = some (.int .u32 4294967041) := ht.names 0 _ rfl
  have n1 : w.cell? ⟨2, 1, none⟩ = some (.string nmE) := ht.names 1 _ rfl
  have n2 : w.cell? ⟨2, 2, none⟩ = some (.int .u32 4294967042) := ht.names 2 _ rfl
  have n3 : w.cell? ⟨2, 3, none⟩ = some (.string nmA) := ht.names 3 _ rfl
  have n4 : w.cell? ⟨2, 4, none⟩ = some (.int .u32 4294967043) := ht.names 4 _ rfl
  have n5 : w.cell? ⟨2, 5, none⟩ = some (.string nmC) := ht.names 5 _ rfl
  clear ht
  have d1 := nm_ne1
  go_enter Tryz.func135, Tryz.ntmps135
  go_wp2
  clear n0 n1 n2 n3 n4 n5
  go_loopw [15] (fun i wr => ∃ k : Nat, k ≤ 3 ∧ i = .int .i64 k ∧ Below w.heap.size w wr ∧ (1 < k → False)) (fun i _ => 3 - (intOf i).toNat)
  case atStart => exact ⟨0, by omega, rfl, Below.refl _ _, fun h => by omega⟩
  case round =>
    obtain ⟨k, hk, rfl, hb, hkk⟩ := hrel
    have HB : Hid (∀ o, Below w.heap.size w (wr.alloc o)) := fun o => hb.alloc hb.size _
    have HKK : Hid (_ → False) := hkk
    rcases (show k = 0 ∨ k = 1 by have hkk2 : ¬ (1 < k) := hkk; omega) with rfl | rfl
    · have hix : ∀ W, (Instr.index 217 (.agg #[.int .u32 4294967041, .string nmE, .int .u32 4294967042, .string nmA, .int .u32 4294967043, .string nmC]) (.int .i64 0)).run Tryz.prog W = .ok (.agg #[.int .u32 4294967041, .string nmE]) W := fun W => by kernel_rfl
      go_wp2
      go_roundw
      case rel => exact ⟨1, by omega, by go_num, HB.out _, fun h => by omega⟩
      case measure => simp [intOf]
    · have hix : ∀ W, (Instr.index 217 (.agg #[.int .u32 4294967041, .string nmE, .int .u32 4294967042, .string nmA, .int .u32 4294967043, .string nmC]) (.int .i64 1)).run Tryz.prog W = .ok (.agg #[.int .u32 4294967042, .string nmA]) W := fun W => by kernel_rfl
      go_wp2
      go_ret2
      exact ⟨rfl, HB.out _⟩

set_option maxRecDepth 100000 in
theorem parse_nm2 (w : World) (ht : ComAt w) : Calls Tryz.prog 135 #[.string nmC] w fun e w' => e = .returned (.tuple #[.int .u32 4294967043, .int .i64 0]) ∧ Below w.heap.size w w' := by
  have n0 : w.cell? ⟨2, 0, none⟩ = some (.int .u32 4294967041) := ht.names 0 _ rfl
  have n1 : w.cell? ⟨2, 1, none⟩ = some (.string nmE) := ht.names 1 _ rfl
  have n2 : w.cell? ⟨2, 2, none⟩ = some (.int .u32 4294967042) := ht.names 2 _ rfl
  have n3 : w.cell? ⟨2, 3, none⟩ = some (.string nmA) := ht.names 3 _ rfl
  have n4 : w.cell? ⟨2, 4, none⟩ = some (.int .u32 4294967043) := ht.names 4 _ rfl
  have n5 : w.cell? ⟨2, 5, none⟩ = some (.string nmC) := ht.names 5 _ rfl
  clear ht
  have d1 := nm_ne1
  have d2 := nm_ne2
  have d3 := nm_ne3
  go_enter Tryz.func135, Tryz.ntmps135
  go_wp2
  clear n0 n1 n2 n3 n4 n5
  go_loopw [15] (fun i wr => ∃ k : Nat, k ≤ 3 ∧ i = .int .i64 k ∧ Below w.heap.size w wr ∧ (2 < k → False)) (fun i _ => 3 - (intOf i).toNat)
  case atStart => exact ⟨0, by omega, rfl, Below.refl _ _, fun h => by omega⟩
  case round =>
    obtain ⟨k, hk, rfl, hb, hkk⟩ := hrel
    have HB : Hid (∀ o, Below w.heap.size w (wr.alloc o)) := fun o => hb.alloc hb.size _
    have HKK : Hid (_ → False) := hkk
    rcases (show k = 0 ∨ k = 1 ∨ k = 2 by have hkk2 : ¬ (2 < k) := hkk; omega) with rfl | rfl | rfl
    · have hix : ∀ W, (Instr.index 217 (.agg #[.int .u32 4294967041, .string nmE, .int .u32 4294967042, .string nmA, .int .u32 4294967043, .string nmC]) (.int .i64 0)).run Tryz.prog W = .ok (.agg #[.int .u32 4294967041, .string nmE]) W := fun W => by kernel_rfl
      go_wp2
      go_roundw
      case rel => exact ⟨1, by omega, by go_num, HB.out _, fun h => by omega⟩
      case measure => simp [intOf]
    · have hix : ∀ W, (Instr.index 217 (.agg #[.int .u32 4294967041, .string nmE, .int .u32 4294967042, .string nmA, .int .u32 4294967043, .string nmC]) (.int .i64 1)).run Tryz.prog W = .ok (.agg #[.int .u32 4294967042, .string nmA]) W := fun W => by kernel_rfl
      go_wp2
      go_roundw
      case rel => exact ⟨2, by omega, by go_num, HB.out _, fun h => by omega⟩
      case measure => simp [intOf]
    · have hix : ∀ W, (Instr.index 217 (.agg #[.int .u32 4294967041, .string nmE, .int .u32 4294967042, .string nmA, .int .u32 4294967043, .string nmC]) (.int .i64 2)).run Tryz.prog W = .ok (.agg #[.int .u32 4294967043, .string nmC]) W := fun W => by kernel_rfl
      go_wp2
      go_ret2
      exact ⟨rfl, HB.out _⟩

set_option maxRecDepth 100000 in
set_option maxHeartbeats 800000 in
theorem parse_num (c : Nat) (w : World) (hc : c < 4294967296) (ht : ComAt w) (hp : PowAt w) (hm : MaxAt w) (he : textC c = ⟨(numT (c / 65536) (c % 65536)).toArray⟩) (d1 : ¬ (nmE = textC c)) (d2 : ¬ (nmA = textC c)) (d3 : ¬ (nmC = textC c)) :
    Calls Tryz.prog 135 #[.string (textC c)] w fun e w' => e = .returned (.tuple #[.int .u32 (c : Int), .int .i64 0]) ∧ Below w.heap.size w w' := by
  have hlen : (textC c).size ≤ 41 := by
    rw [he]
    have h1 := dig_ten (c / 65536) (by omega)
    have h2 := dig_ten (c % 65536) (by omega)
    show (numT _ _).length ≤ 41
    simp [numT]; omega
  have HCut : Hid (∀ W, MaxAt W → Calls Tryz.prog 93 #[.string (textC c), .string ⟨#[58]⟩] W fun e w' => e = .returned (.tuple #[.string (dgsB (c / 65536)), .string (dgsB (c % 65536)), .bool true]) ∧ Below W.heap.size W w') := fun W hM => by
    obtain ⟨m, hM⟩ := hM
    have h := Tryz.strings_Cut (textC c) ⟨#[58]⟩ m W (by omega) hM
    rw [show Lib.cut (textC c).data.toList (ByteArray.mk #[58]).data.toList = (Lib.decDigits (c / 65536), Lib.decDigits (c % 65536), true) by rw [he]; exact cut_numT _ _] at h
    exact h.mono fun _ _ ⟨h1, n, h2⟩ => ⟨h1, by rw [h2]; exact below_drewN' (Below.refl _ _) n⟩
  have HP1 : Hid (∀ W, Calls Tryz.prog 168 #[.string (dgsB (c / 65536)), .int .i64 10, .int .i64 16] W _) := fun W => Any.strconv_ParseUint_10_at16_ok Tryz.laysPu14 (dgsB (c / 65536)) (by have := dig_ten (c / 65536) (by omega); show (Lib.decDigits _).length ≤ _; omega) (c / 65536) (by show Lib.parseUintB 16 (Lib.decDigits (c / 65536)) = _; exact pu_back16 _ (by omega)) W
  have HP2 : Hid (∀ W, Calls Tryz.prog 168 #[.string (dgsB (c % 65536)), .int .i64 10, .int .i64 16] W _) := fun W => Any.strconv_ParseUint_10_at16_ok Tryz.laysPu14 (dgsB (c % 65536)) (by have := dig_ten (c % 65536) (by omega); show (Lib.decDigits _).length ≤ _; omega) (c % 65536) (by show Lib.parseUintB 16 (Lib.decDigits (c % 65536)) = _; exact pu_back16 _ (by omega)) W
  have HTx : Hid (∀ W, ComAt W → PowAt W → Calls Tryz.prog 125 #[.int .u32 (c : Int)] W fun e w' => e = .returned (.string (textC c)) ∧ Below W.heap.size W w') := fun W hT hP => comText_any c W hc hT hP
  have d1' := ne_list d1
  have d2' := ne_list d2
  have d3' := ne_list d3
  clear d1 d2 d3
  have hor := or16 (c / 65536) (c % 65536) (by omega) (by omega)
  rw [show c / 65536 * 65536 + c % 65536 = c by omega] at hor
  have n0 : w.cell? ⟨2, 0, none⟩ = some (.int .u32 4294967041) := ht.names 0 _ rfl
  have n1 : w.cell? ⟨2, 1, none⟩ = some (.string nmE) := ht.names 1 _ rfl
  have n2 : w.cell? ⟨2, 2, none⟩ = some (.int .u32 4294967042) := ht.names 2 _ rfl
  have n3 : w.cell? ⟨2, 3, none⟩ = some (.string nmA) := ht.names 3 _ rfl
  have n4 : w.cell? ⟨2, 4, none⟩ = some (.int .u32 4294967043) := ht.names 4 _ rfl
  have n5 : w.cell? ⟨2, 5, none⟩ = some (.string nmC) := ht.names 5 _ rfl
  have HT : Hid (ComAt w) := ht
  have HMx : Hid (MaxAt w) := hm
  have HP : Hid (PowAt w) := hp
  clear ht hm he hlen hp
  generalize textC c = tx at *
  generalize dgsB (c / 65536) = s1 at *
  generalize dgsB (c % 65536) = s2 at *
  generalize hq1 : c / 65536 = q1 at *
  generalize hq2 : c % 65536 = q2 at *
  have hb1 : q1 < 65536 := by omega
  have hb2 : q2 < 65536 := by omega
  clear hq1 hq2
  go_enter Tryz.func135, Tryz.ntmps135
  go_wp2
  clear n0 n1 n2 n3 n4 n5
  go_loopw [15] (fun i wr => ∃ k : Nat, k ≤ 3 ∧ i = .int .i64 k ∧ Below w.heap.size w wr) (fun i _ => 3 - (intOf i).toNat)
  case atStart => exact ⟨0, by omega, rfl, Below.refl _ _⟩
  case round =>
    obtain ⟨k, hk, rfl, hb⟩ := hrel
    by_cases hlt : k < 3
    · have HB : Hid (∀ o, Below w.heap.size w (wr.alloc o)) := fun o => hb.alloc hb.size _
      clear hor
      rcases (show k = 0 ∨ k = 1 ∨ k = 2 by omega) with rfl | rfl | rfl
      · have hix : ∀ W, (Instr.index 217 (.agg #[.int .u32 4294967041, .string nmE, .int .u32 4294967042, .string nmA, .int .u32 4294967043, .string nmC]) (.int .i64 0)).run Tryz.prog W = .ok (.agg #[.int .u32 4294967041, .string nmE]) W := fun W => by kernel_rfl
        go_wp2
        go_roundw
        case rel => exact ⟨1, by omega, by go_num, HB.out _⟩
        case measure => simp [intOf]
      · have hix : ∀ W, (Instr.index 217 (.agg #[.int .u32 4294967041, .string nmE, .int .u32 4294967042, .string nmA, .int .u32 4294967043, .string nmC]) (.int .i64 1)).run Tryz.prog W = .ok (.agg #[.int .u32 4294967042, .string nmA]) W := fun W => by kernel_rfl
        go_wp2
        go_roundw
        case rel => exact ⟨2, by omega, by go_num, HB.out _⟩
        case measure => simp [intOf]
      · have hix : ∀ W, (Instr.index 217 (.agg #[.int .u32 4294967041, .string nmE, .int .u32 4294967042, .string nmA, .int .u32 4294967043, .string nmC]) (.int .i64 2)).run Tryz.prog W = .ok (.agg #[.int .u32 4294967043, .string nmC]) W := fun W => by kernel_rfl
        go_wp2
        go_roundw
        case rel => exact ⟨3, by omega, by go_num, HB.out _⟩
        case measure => simp [intOf]
    · obtain rfl : k = 3 := by omega
      have HB : Hid (Below w.heap.size w wr) := hb
      clear hb d1' d2' d3'
      go_wp2_with fail
      refine (HCut.out wr (HMx.out.below HB.out)).mono ?_
      rintro e w1 ⟨rfl, hb1'⟩
      have HB1 : Hid (Below w.heap.size w w1) := HB.out.trans (hb1'.mono HB.out.size)
      clear hb1'
      go_wp2_with fail
      refine (HP1.out w1).mono ?_
      rintro e w2 ⟨rfl, hw2⟩
      have HB2 : Hid (Below w.heap.size w w2) := HB1.out.trans ((pu_below hw2).mono HB1.out.size)
      clear hw2
      go_wp2_with fail
      refine (HP2.out w2).mono ?_
      rintro e w3 ⟨rfl, hw3⟩
      have HB3 : Hid (Below w.heap.size w w3) := HB2.out.trans ((pu_below hw3).mono HB2.out.size)
      clear hw3
      go_wp2_with fail
      refine (HTx.out w3 (HT.out.below HB3.out) (HP.out.below HB3.out)).mono ?_
      rintro e w4 ⟨rfl, hb4⟩
      go_wp2
      go_ret2
      exact ⟨rfl, HB3.out.trans (hb4.mono HB3.out.size)⟩
theorem parse_yes (c : Nat) (w : World) (hc : c < 4294967296) (ht : ComAt w) (hp : PowAt w) (hm : MaxAt w) :
    Calls Tryz.prog 135 #[.string (textC c)] w fun e w' => e = .returned (.tuple #[.int .u32 (c : Int), .int .i64 0]) ∧ Below w.heap.size w w' := by
  rcases text_ways c with ⟨rfl, h⟩ | ⟨rfl, h⟩ | ⟨rfl, h⟩ | ⟨h, d1, d2, d3⟩
  · rw [h]; exact parse_nm0 w ht
  · rw [h]; exact parse_nm1 w ht
  · rw [h]; exact parse_nm2 w ht
  · exact parse_num c w hc ht hp hm h d1 d2 d3
theorem comParse (n : Nat) (x : List UInt8) (hx : x = comT n) (hn : n < 4294967296) (w : World) (he : EnvX w) : Calls Tryz.prog 135 #[.string ⟨x.toArray⟩] w fun e w' => e = .returned (.tuple #[.int .u32 (n : Int), .int .i64 0]) ∧ Below w.heap.size w w' := by
  subst hx
  exact parse_yes n w hn he.c he.e.p he.e.t.max
end Go.Proofs.YthaebbmekonacaaGreatDoor
set_option linter.unusedVariables false
set_option linter.unusedSimpArgs false
set_option maxRecDepth 100000
namespace Go.Proofs.YthaebbmekonacaaGreatDoor
open Go.RowKit
end Go.Proofs.YthaebbmekonacaaGreatDoor
set_option linter.unusedVariables false
set_option linter.unusedSimpArgs false
set_option maxRecDepth 100000
namespace Go.Proofs.YthaebbmekonacaaGreatDoor
open Go.RowKit
end Go.Proofs.YthaebbmekonacaaGreatDoor
set_option linter.unusedVariables false
set_option linter.unusedSimpArgs false
set_option maxRecDepth 100000
namespace Go.Proofs.YthaebbmekonacaaGreatDoor
open Go.RowKit
end Go.Proofs.YthaebbmekonacaaGreatDoor
