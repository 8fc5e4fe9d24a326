/-
  Parse of a community's own text.
-/
import Derived.Test.YteldgfmcfkmpdaaDoorP1
import Derived.Laws.StructEq
import Derived.Lib.AtoiErrMem
namespace Go.Proofs.YteldgfmcfkmpdaaDoor
open Go.RowKit
/-- What Cut asks for. -/
def MaxAt (w : World) : Prop := ∃ m, w.cell? ⟨1, 0, none⟩ = some (.int .i64 m)
theorem MaxAt.below {w w' : World} (h : MaxAt w) (hb : Below w.heap.size w w') : MaxAt w' := h.elim fun m hm => ⟨m, below_cell hb hm⟩
theorem pu_below {w w' : World} {s : ByteArray} (h : w' = w ∨ w' = Lib.bytesWorld w 5 s) : Below w.heap.size w w' := by
  rcases h with rfl | rfl
  · exact Below.refl _ _
  · exact Lib.bytesWorld_below _ _ _
theorem ne_list {a b : ByteArray} (h : ¬ (a = b)) : (a.toList == b.toList) = false := by
  cases hb : (a.toList == b.toList) with
  | false => rfl
  | true =>
    have e : a.toList = b.toList := eq_of_beq hb
    rw [ByteArray.toList_eq, ByteArray.toList_eq] at e
    exact absurd (ByteArray.ext (Array.toList_inj.mp e)) h
theorem nm_ne1 : (nmExport.toList == nmAdvertise.toList) = false := ne_list (by decide +kernel)
theorem nm_ne2 : (nmExport.toList == nmConfed.toList) = false := ne_list (by decide +kernel)
theorem nm_ne3 : (nmAdvertise.toList == nmConfed.toList) = false := ne_list (by decide +kernel)
theorem nm_f1 : ∃ r, nmExport.data.toList = 110 :: r := ⟨_, rfl⟩
theorem nm_f2 : ∃ r, nmAdvertise.data.toList = 110 :: r := ⟨_, rfl⟩
theorem nm_f3 : ∃ r, nmConfed.data.toList = 110 :: r := ⟨_, rfl⟩
/-- Where a text stands among the names. -/
theorem text_ways (c : Nat) : (c = 4294967041 ∧ textC c = nmExport) ∨ (c = 4294967042 ∧ textC c = nmAdvertise) ∨ (c = 4294967043 ∧ textC c = nmConfed) ∨
    (textC c = ⟨(numT (c / 65536) (c % 65536)).toArray⟩ ∧ ¬ (nmExport = textC c) ∧ ¬ (nmAdvertise = textC c) ∧ ¬ (nmConfed = textC c)) := by
  by_cases h1 : c = 4294967041
  · exact Or.inl ⟨h1, by simp [textC, h1]⟩
  by_cases h2 : c = 4294967042
  · exact Or.inr (Or.inl ⟨h2, by simp [textC, h2]⟩)
  by_cases h3 : c = 4294967043
  · exact Or.inr (Or.inr (Or.inl ⟨h3, by simp [textC, h3]⟩))
  · have e : textC c = ⟨(numT (c / 65536) (c % 65536)).toArray⟩ := by unfold textC; rw [if_neg h1, if_neg h2, if_neg h3, numT_bytes]
    obtain ⟨r1, f1⟩ := nm_f1
    obtain ⟨r2, f2⟩ := nm_f2
    obtain ⟨r3, f3⟩ := nm_f3
    refine Or.inr (Or.inr (Or.inr ⟨e, ?_, ?_, ?_⟩))
    · rw [e]; exact numT_not _ _ _ _ _ f1 (by decide)
    · rw [e]; exact numT_not _ _ _ _ _ f2 (by decide)
    · rw [e]; exact numT_not _ _ _ _ _ f3 (by decide)

set_option maxRecDepth 100000 in
theorem parse_nm0 (w : World) (ht : Tabs w) : Calls Tryd.prog 25 #[.string nmExport] w fun e w' => e = .returned (.tuple #[.int .u32 4294967041, .int .i64 0]) ∧ Below w.heap.size w w' := by
  have n0 : w.cell? ⟨0, 0, none⟩ = some (.int .u32 4294967041) := ht.names 0 _ rfl
  have n1 : w.cell? ⟨0, 1, none⟩ = some (.string nmExport) := ht.names 1 _ rfl
  have n2 : w.cell? ⟨0, 2, none⟩ = some (.int .u32 4294967042) := ht.names 2 _ rfl
  have n3 : w.cell? ⟨0, 3, none⟩ = some (.string nmAdvertise) := ht.names 3 _ rfl
  have n4 : w.cell? ⟨0, 4, none⟩ = some (.int .u32 4294967043) := ht.names 4 _ rfl
  have n5 : w.cell? ⟨0, 5, none⟩ = some (.string nmConfed) := ht.names 5 _ rfl
  clear ht
  go_enter Tryd.func25, Tryd.ntmps25
  go_wp2
  clear n0 n1 n2 n3 n4 n5
  go_loopw [15] (fun i wr => ∃ k : Nat, k ≤ 3 ∧ i = .int .i64 k ∧ Below w.heap.size w wr ∧ (0 < k → False)) (fun i _ => 3 - (intOf i).toNat)
  case atStart => exact ⟨0, by omega, rfl, Below.refl _ _, fun h => by omega⟩
  case round =>
    obtain ⟨k, hk, rfl, hb, hkk⟩ := hrel
    have HB : Hid (∀ o, Below w.heap.size w (wr.alloc o)) := fun o => hb.alloc hb.size _
    have HKK : Hid (_ → False) := hkk
    rcases (show k = 0 by have hkk2 : ¬ (0 < k) := hkk; omega) with rfl
    · have hix : ∀ W, (Instr.index 75 (.agg #[.int .u32 4294967041, .string nmExport, .int .u32 4294967042, .string nmAdvertise, .int .u32 4294967043, .string nmConfed]) (.int .i64 0)).run Tryd.prog W = .ok (.agg #[.int .u32 4294967041, .string nmExport]) W := fun W => by kernel_rfl
      go_wp2
      go_ret2
      exact ⟨rfl, HB.out _⟩

set_option maxRecDepth 100000 in
theorem parse_nm1 (w : World) (ht : Tabs w) : Calls Tryd.prog 25 #[.string nmAdvertise] w fun e w' => e = .returned (.tuple #[.int .u32 4294967042, .int .i64 0]) ∧ Below w.heap.size w w' := by
  have n0 : w.cell? ⟨0, 0, none⟩ = some (.int .u32 4294967041) := ht.names 0 _ rfl
  have n1 : w.cell? ⟨0, 1, none⟩ = some (.string nmExport) := ht.names 1 _ rfl
  have n2 : w.cell? ⟨0, 2, none⟩ = some (.int .u32 4294967042) := ht.names 2 _ rfl
  have n3 : w.cell? ⟨0, 3, none⟩ = some (.string nmAdvertise) := ht.names 3 _ rfl
  have n4 : w.cell? ⟨0, 4, none⟩ = some (.int .u32 4294967043) := ht.names 4 _ rfl
  have n5 : w.cell? ⟨0, 5, none⟩ = some (.string nmConfed) := ht.names 5 _ rfl
  clear ht
  have d1 := nm_ne1
  go_enter Tryd.func25, Tryd.ntmps25
  go_wp2
  clear n0 n1 n2 n3 n4 n5
  go_loopw [15] (fun i wr => ∃ k : Nat, k ≤ 3 ∧ i = .int .i64 k ∧ Below w.heap.size w wr ∧ (1 < k → False)) (fun i _ => 3 - (intOf i).toNat)
  case atStart => exact ⟨0, by omega, rfl, Below.refl _ _, fun h => by omega⟩
  case round =>
    obtain ⟨k, hk, rfl, hb, hkk⟩ := hrel
    have HB : Hid (∀ o, Below w.heap.size w (wr.alloc o)) := fun o => hb.alloc hb.size _
    have HKK : Hid (_ → False) := hkk
    rcases (show k = 0 ∨ k = 1 by have hkk2 : ¬ (1 < k) := hkk; omega) with rfl | rfl
    · have hix : ∀ W, (Instr.index 75 (.agg #[.int .u32 4294967041, .string nmExport, .int .u32 4294967042, .string nmAdvertise, .int .u32 4294967043, .string nmConfed]) (.int .i64 0)).run Tryd.prog W = .ok (.agg #[.int .u32 4294967041, .string nmExport]) W := fun W => by kernel_rfl
      go_wp2
      go_roundw
      case rel => exact ⟨1, by omega, by go_num, HB.out _, fun h => by omega⟩
      case measure => simp [intOf]
    · have hix : ∀ W, (Instr.index 75 (.agg #[.int .u32 4294967041, .string nmExport, .int .u32 4294967042, .string nmAdvertise, .int .u32 4294967043, .string nmConfed]) (.int .i64 1)).run Tryd.prog W = .ok (.agg #[.int .u32 4294967042, .string nmAdvertise]) W := fun W => by kernel_rfl
      go_wp2
      go_ret2
      exact ⟨rfl, HB.out _⟩

set_option maxRecDepth 100000 in
theorem parse_nm2 (w : World) (ht : Tabs w) : Calls Tryd.prog 25 #[.string nmConfed] w fun e w' => e = .returned (.tuple #[.int .u32 4294967043, .int .i64 0]) ∧ Below w.heap.size w w' := by
  have n0 : w.cell? ⟨0, 0, none⟩ = some (.int .u32 4294967041) := ht.names 0 _ rfl
  have n1 : w.cell? ⟨0, 1, none⟩ = some (.string nmExport) := ht.names 1 _ rfl
  have n2 : w.cell? ⟨0, 2, none⟩ = some (.int .u32 4294967042) := ht.names 2 _ rfl
  have n3 : w.cell? ⟨0, 3, none⟩ = some (.string nmAdvertise) := ht.names 3 _ rfl
  have n4 : w.cell? ⟨0, 4, none⟩ = some (.int .u32 4294967043) := ht.names 4 _ rfl
  have n5 : w.cell? ⟨0, 5, none⟩ = some (.string nmConfed) := ht.names 5 _ rfl
  clear ht
  have d1 := nm_ne1
  have d2 := nm_ne2
  have d3 := nm_ne3
  go_enter Tryd.func25, Tryd.ntmps25
  go_wp2
  clear n0 n1 n2 n3 n4 n5
  go_loopw [15] (fun i wr => ∃ k : Nat, k ≤ 3 ∧ i = .int .i64 k ∧ Below w.heap.size w wr ∧ (2 < k → False)) (fun i _ => 3 - (intOf i).toNat)
  case atStart => exact ⟨0, by omega, rfl, Below.refl _ _, fun h => by omega⟩
  case round =>
    obtain ⟨k, hk, rfl, hb, hkk⟩ := hrel
    have HB : Hid (∀ o, Below w.heap.size w (wr.alloc o)) := fun o => hb.alloc hb.size _
    have HKK : Hid (_ → False) := hkk
    rcases (show k = 0 ∨ k = 1 ∨ k = 2 by have hkk2 : ¬ (2 < k) := hkk; omega) with rfl | rfl | rfl
    · have hix : ∀ W, (Instr.index 75 (.agg #[.int .u32 4294967041, .string nmExport, .int .u32 4294967042, .string nmAdvertise, .int .u32 4294967043, .string nmConfed]) (.int .i64 0)).run Tryd.prog W = .ok (.agg #[.int .u32 4294967041, .string nmExport]) W := fun W => by kernel_rfl
      go_wp2
      go_roundw
      case rel => exact ⟨1, by omega, by go_num, HB.out _, fun h => by omega⟩
      case measure => simp [intOf]
    · have hix : ∀ W, (Instr.index 75 (.agg #[.int .u32 4294967041, .string nmExport, .int .u32 4294967042, .string nmAdvertise, .int .u32 4294967043, .string nmConfed]) (.int .i64 1)).run Tryd.prog W = .ok (.agg #[.int .u32 4294967042, .string nmAdvertise]) W := fun W => by kernel_rfl
      go_wp2
      go_roundw
      case rel => exact ⟨2, by omega, by go_num, HB.out _, fun h => by omega⟩
      case measure => simp [intOf]
    · have hix : ∀ W, (Instr.index 75 (.agg #[.int .u32 4294967041, .string nmExport, .int .u32 4294967042, .string nmAdvertise, .int .u32 4294967043, .string nmConfed]) (.int .i64 2)).run Tryd.prog W = .ok (.agg #[.int .u32 4294967043, .string nmConfed]) W := fun W => by kernel_rfl
      go_wp2
      go_ret2
      exact ⟨rfl, HB.out _⟩

set_option maxRecDepth 100000 in
set_option maxHeartbeats 800000 in
theorem parse_num (c : Nat) (w : World) (hc : c < 4294967296) (ht : Tabs w) (hm : MaxAt w) (he : textC c = ⟨(numT (c / 65536) (c % 65536)).toArray⟩) (d1 : ¬ (nmExport = textC c)) (d2 : ¬ (nmAdvertise = textC c)) (d3 : ¬ (nmConfed = textC c)) :
    Calls Tryd.prog 25 #[.string (textC c)] w fun e w' => e = .returned (.tuple #[.int .u32 (c : Int), .int .i64 0]) ∧ Below w.heap.size w w' := by
  have hlen : (textC c).size ≤ 41 := by
    rw [he]
    have h1 := dig_le (c / 65536) (by omega)
    have h2 := dig_le (c % 65536) (by omega)
    show (numT _ _).length ≤ 41
    simp [numT]; omega
  have HCut : Hid (∀ W, MaxAt W → Calls Tryd.prog 53 #[.string (textC c), .string ⟨#[58]⟩] W fun e w' => e = .returned (.tuple #[.string (digB (c / 65536)), .string (digB (c % 65536)), .bool true]) ∧ Below W.heap.size W w') := fun W hM => by
    obtain ⟨m, hM⟩ := hM
    have h := Tryd.strings_Cut (textC c) ⟨#[58]⟩ m W (by omega) hM
    rw [show Lib.cut (textC c).data.toList (ByteArray.mk #[58]).data.toList = (Lib.decDigits (c / 65536), Lib.decDigits (c % 65536), true) by rw [he]; exact cut_numT _ _] at h
    exact h.mono fun _ _ ⟨h1, n, h2⟩ => ⟨h1, by rw [h2]; exact below_drewN' (Below.refl _ _) n⟩
  have HP1 : Hid (∀ W, Calls Tryd.prog 54 #[.string (digB (c / 65536)), .int .i64 10, .int .i64 16] W _) := fun W => Tryd.strconv_ParseUint_10_at16_ok (digB (c / 65536)) (by have := dig_le (c / 65536) (by omega); show (Lib.decDigits _).length ≤ _; omega) (c / 65536) (by show Lib.parseUintB 16 (Lib.decDigits (c / 65536)) = _; exact pu_back _ (by omega)) W
  have HP2 : Hid (∀ W, Calls Tryd.prog 54 #[.string (digB (c % 65536)), .int .i64 10, .int .i64 16] W _) := fun W => Tryd.strconv_ParseUint_10_at16_ok (digB (c % 65536)) (by have := dig_le (c % 65536) (by omega); show (Lib.decDigits _).length ≤ _; omega) (c % 65536) (by show Lib.parseUintB 16 (Lib.decDigits (c % 65536)) = _; exact pu_back _ (by omega)) W
  have HTx : Hid (∀ W, Tabs W → Calls Tryd.prog 27 #[.int .u32 (c : Int)] W fun e w' => e = .returned (.string (textC c)) ∧ Below W.heap.size W w') := fun W hT => text_any c W hc hT
  have d1' := ne_list d1
  have d2' := ne_list d2
  have d3' := ne_list d3
  clear d1 d2 d3
  have hor := or16 (c / 65536) (c % 65536) (by omega) (by omega)
  rw [show c / 65536 * 65536 + c % 65536 = c by omega] at hor
  have n0 : w.cell? ⟨0, 0, none⟩ = some (.int .u32 4294967041) := ht.names 0 _ rfl
  have n1 : w.cell? ⟨0, 1, none⟩ = some (.string nmExport) := ht.names 1 _ rfl
  have n2 : w.cell? ⟨0, 2, none⟩ = some (.int .u32 4294967042) := ht.names 2 _ rfl
  have n3 : w.cell? ⟨0, 3, none⟩ = some (.string nmAdvertise) := ht.names 3 _ rfl
  have n4 : w.cell? ⟨0, 4, none⟩ = some (.int .u32 4294967043) := ht.names 4 _ rfl
  have n5 : w.cell? ⟨0, 5, none⟩ = some (.string nmConfed) := ht.names 5 _ rfl
  have HT : Hid (Tabs w) := ht
  have HMx : Hid (MaxAt w) := hm
  clear ht hm he hlen
  generalize textC c = tx at *
  generalize digB (c / 65536) = s1 at *
  generalize digB (c % 65536) = s2 at *
  generalize hq1 : c / 65536 = q1 at *
  generalize hq2 : c % 65536 = q2 at *
  have hb1 : q1 < 65536 := by omega
  have hb2 : q2 < 65536 := by omega
  clear hq1 hq2
  go_enter Tryd.func25, Tryd.ntmps25
  go_wp2
  clear n0 n1 n2 n3 n4 n5
  go_loopw [15] (fun i wr => ∃ k : Nat, k ≤ 3 ∧ i = .int .i64 k ∧ Below w.heap.size w wr) (fun i _ => 3 - (intOf i).toNat)
  case atStart => exact ⟨0, by omega, rfl, Below.refl _ _⟩
  case round =>
    obtain ⟨k, hk, rfl, hb⟩ := hrel
    by_cases hlt : k < 3
    · have HB : Hid (∀ o, Below w.heap.size w (wr.alloc o)) := fun o => hb.alloc hb.size _
      clear hor
      rcases (show k = 0 ∨ k = 1 ∨ k = 2 by omega) with rfl | rfl | rfl
      · have hix : ∀ W, (Instr.index 75 (.agg #[.int .u32 4294967041, .string nmExport, .int .u32 4294967042, .string nmAdvertise, .int .u32 4294967043, .string nmConfed]) (.int .i64 0)).run Tryd.prog W = .ok (.agg #[.int .u32 4294967041, .string nmExport]) W := fun W => by kernel_rfl
        go_wp2
        go_roundw
        case rel => exact ⟨1, by omega, by go_num, HB.out _⟩
        case measure => simp [intOf]
      · have hix : ∀ W, (Instr.index 75 (.agg #[.int .u32 4294967041, .string nmExport, .int .u32 4294967042, .string nmAdvertise, .int .u32 4294967043, .string nmConfed]) (.int .i64 1)).run Tryd.prog W = .ok (.agg #[.int .u32 4294967042, .string nmAdvertise]) W := fun W => by kernel_rfl
        go_wp2
        go_roundw
        case rel => exact ⟨2, by omega, by go_num, HB.out _⟩
        case measure => simp [intOf]
      · have hix : ∀ W, (Instr.index 75 (.agg #[.int .u32 4294967041, .string nmExport, .int .u32 4294967042, .string nmAdvertise, .int .u32 4294967043, .string nmConfed]) (.int .i64 2)).run Tryd.prog W = .ok (.agg #[.int .u32 4294967043, .string nmConfed]) W := fun W => by kernel_rfl
        go_wp2
        go_roundw
        case rel => exact ⟨3, by omega, by go_num, HB.out _⟩
        case measure => simp [intOf]
    · obtain rfl : k = 3 := by omega
      have HB : Hid (Below w.heap.size w wr) := hb
      clear hb d1' d2' d3'
      go_wp2_with fail
      refine (HCut.out wr (HMx.out.below HB.out)).mono ?_
      rintro e w1 ⟨rfl, hb1'⟩
      have HB1 : Hid (Below w.heap.size w w1) := HB.out.trans (hb1'.mono HB.out.size)
      clear hb1'
      go_wp2_with fail
      refine (HP1.out w1).mono ?_
      rintro e w2 ⟨rfl, hw2⟩
      have HB2 : Hid (Below w.heap.size w w2) := HB1.out.trans ((pu_below hw2).mono HB1.out.size)
      clear hw2
      go_wp2_with fail
      refine (HP2.out w2).mono ?_
      rintro e w3 ⟨rfl, hw3⟩
      have HB3 : Hid (Below w.heap.size w w3) := HB2.out.trans ((pu_below hw3).mono HB2.out.size)
      clear hw3
      go_wp2_with fail
      refine (HTx.out w3 (HT.out.below HB3.out)).mono ?_
      rintro e w4 ⟨rfl, hb4⟩
      go_wp2
      go_ret2
      exact ⟨rfl, HB3.out.trans (hb4.mono HB3.out.size)⟩
theorem parse_yes (c : Nat) (w : World) (hc : c < 4294967296) (ht : Tabs w) (hm : MaxAt w) :
    Calls Tryd.prog 25 #[.string (textC c)] w fun e w' => e = .returned (.tuple #[.int .u32 (c : Int), .int .i64 0]) ∧ Below w.heap.size w w' := by
  rcases text_ways c with ⟨rfl, h⟩ | ⟨rfl, h⟩ | ⟨rfl, h⟩ | ⟨h, d1, d2, d3⟩
  · rw [h]; exact parse_nm0 w ht
  · rw [h]; exact parse_nm1 w ht
  · rw [h]; exact parse_nm2 w ht
  · exact parse_num c w hc ht hm h d1 d2 d3
end Go.Proofs.YteldgfmcfkmpdaaDoor
