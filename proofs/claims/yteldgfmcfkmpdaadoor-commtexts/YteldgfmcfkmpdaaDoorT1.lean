/-
  Text: a community's text.
-/
import Derived.Test.YteldgfmcfkmpdaaDoorF1
import Derived.Test.YteldgfmcfkmpdaaDoorA2
import Derived.Laws.Bits64b
namespace Go.Proofs.YteldgfmcfkmpdaaDoor
open Go.RowKit
theorem cell_row {w : World} {b : Nat} {cs : Array Value} {t : TypeId} {fz : Nat × Nat} (h : w.heap[b]? = some (.cells cs t fz)) (k : Nat) (v : Value) (hk : cs[k]? = some v) : w.cell? ⟨b, k, none⟩ = some v := by
  rw [World.cell?]
  simp [h, hk]
/-- The digits of a half. -/
def digB (n : Nat) : ByteArray := ⟨(Lib.decDigits n).toArray⟩
/-- A community's text. -/
def textC (c : Nat) : ByteArray := if c = 4294967041 then nmExport else if c = 4294967042 then nmAdvertise else if c = 4294967043 then nmConfed else digB (c / 65536) ++ ⟨#[58]⟩ ++ digB (c % 65536)
theorem dig_le (n : Nat) (h : n < 18446744073709551616) : (Lib.decDigits n).length ≤ 20 := by
  rw [Lib.decDigits_length]
  by_cases h1 : 1 ≤ n
  · have := Lib.numDigits_eq n h1 h; split at this <;> omega
  · obtain rfl : n = 0 := by omega
    decide +kernel
theorem half_any (v : Nat) (w : World) (hv : v < 4294967296) (ht : Tabs w) :
    Calls Tryd.prog 57 #[.int .u32 (v : Int)] w fun e w' => e = .returned (.string (digB v)) ∧ Below w.heap.size w w' := by
  go_enter Tryd.func57, Tryd.ntmps57
  go_wp2_with fail
  refine (fmt_any v (by omega) w ht).mono ?_
  rintro e w1 ⟨rfl, hb⟩
  go_wp2
  go_ret
  exact ⟨rfl, hb⟩
theorem halfI (n : Int) (w : World) (m : Nat) (hn : n = (m : Int)) (hm : m < 4294967296) (ht : Tabs w) :
    Calls Tryd.prog 57 #[.int .u32 n] w fun e w' => e = .returned (.string (digB m)) ∧ Below w.heap.size w w' := by
  subst hn; exact half_any m w hm ht
theorem and16 (c : Nat) (h : c < 4294967296) : bits .and .u32 (c : Int) 65535 = (c : Int) % 65536 := by
  have hx : c &&& 65535 = c % 65536 := Nat.and_two_pow_sub_one_eq_mod c 16
  have h1 : (BitVec.ofInt 32 (c : Int)).toNat = c := by
    rw [BitVec.ofInt_natCast, BitVec.toNat_ofNat]; exact Nat.mod_eq_of_lt (by omega)
  have h2 : (BitVec.ofInt 32 (65535 : Int)).toNat = 65535 := by decide
  show IntKind.u32.wrap ((BitVec.ofInt 32 (c : Int) &&& BitVec.ofInt 32 (65535 : Int)).toNat : Int) = _
  rw [BitVec.toNat_and, h1, h2, hx, IntKind.wrap_u32]
  omega
theorem Tabs.names {w : World} (h : Tabs w) (k : Nat) (v : Value) (hk : nameCells[k]? = some v) : w.cell? ⟨0, k, none⟩ = some v := by
  obtain ⟨⟨t, fz, h⟩, _⟩ := h
  exact cell_row h _ _ hk
theorem ret_str {a b : ByteArray} (h : a = b) : Ending.returned (.string a) = .returned (.string b) := by rw [h]
set_option maxRecDepth 100000 in
theorem text_any (c : Nat) (w : World) (hc : c < 4294967296) (ht : Tabs w) :
    Calls Tryd.prog 27 #[.int .u32 (c : Int)] w fun e w' => e = .returned (.string (textC c)) ∧ Below w.heap.size w w' := by
  have n0 : w.cell? ⟨0, 0, none⟩ = some (.int .u32 4294967041) := ht.names 0 _ rfl
  have n1 : w.cell? ⟨0, 1, none⟩ = some (.string nmExport) := ht.names 1 _ rfl
  have n2 : w.cell? ⟨0, 2, none⟩ = some (.int .u32 4294967042) := ht.names 2 _ rfl
  have n3 : w.cell? ⟨0, 3, none⟩ = some (.string nmAdvertise) := ht.names 3 _ rfl
  have n4 : w.cell? ⟨0, 4, none⟩ = some (.int .u32 4294967043) := ht.names 4 _ rfl
  have n5 : w.cell? ⟨0, 5, none⟩ = some (.string nmConfed) := ht.names 5 _ rfl
  have HT : Hid (Tabs w) := ht
  clear ht
  go_enter Tryd.func27, Tryd.ntmps27
  go_wp2
  clear n0 n1 n2 n3 n4 n5
  go_loopw [6] (fun i wr => ∃ k : Nat, k ≤ 3 ∧ i = .int .i64 k ∧ Below w.heap.size w wr ∧ (0 < k → c ≠ 4294967041) ∧ (1 < k → c ≠ 4294967042) ∧ (2 < k → c ≠ 4294967043)) (fun i _ => 3 - (intOf i).toNat)
  case atStart => exact ⟨0, by omega, rfl, Below.refl _ _, fun h => by omega, fun h => by omega, fun h => by omega⟩
  case round =>
    obtain ⟨k, hk, rfl, hb, g0, g1, g2⟩ := hrel
    by_cases hlt : k < 3
    · rcases (show k = 0 ∨ k = 1 ∨ k = 2 by omega) with rfl | rfl | rfl
      · have hix : ∀ W, (Instr.index 75 (.agg #[.int .u32 4294967041, .string nmExport, .int .u32 4294967042, .string nmAdvertise, .int .u32 4294967043, .string nmConfed]) (.int .i64 0)).run Tryd.prog W = .ok (.agg #[.int .u32 4294967041, .string nmExport]) W := fun W => by kernel_rfl
        have HB : Hid (∀ o, Below w.heap.size w (wr.alloc o)) := fun o => hb.alloc hb.size _
        by_cases he : c = 4294967041
        · have hei : (4294967041 : Int) = (c : Int) := by omega
          have HE : Hid (nmExport = textC c) := by unfold Hid textC; simp [he]
          have HG : Hid (_ ∧ _) := And.intro g0 g1
          clear g0 g1 g2 he
          generalize hci : (c : Int) = ci at *
          subst hei
          go_wp2
          go_ret
          exact ⟨ret_str HE.out, HB.out _⟩
        · have hei : ¬ ((4294967041 : Int) = (c : Int)) := by omega
          have HG : Hid (_ ∧ _) := And.intro g0 (And.intro g1 he)
          clear g0 g1 g2 he
          go_wp2
          go_roundw
          case rel => exact ⟨1, by omega, by go_num, HB.out _, fun h => HG.out.2.2, fun h => by omega, fun h => by omega⟩
          case measure => simp [intOf]
      · have hix : ∀ W, (Instr.index 75 (.agg #[.int .u32 4294967041, .string nmExport, .int .u32 4294967042, .string nmAdvertise, .int .u32 4294967043, .string nmConfed]) (.int .i64 1)).run Tryd.prog W = .ok (.agg #[.int .u32 4294967042, .string nmAdvertise]) W := fun W => by kernel_rfl
        have HB : Hid (∀ o, Below w.heap.size w (wr.alloc o)) := fun o => hb.alloc hb.size _
        by_cases he : c = 4294967042
        · have hei : (4294967042 : Int) = (c : Int) := by omega
          have HE : Hid (nmAdvertise = textC c) := by unfold Hid textC; simp [he]
          have HG : Hid (_ ∧ _) := And.intro g0 g1
          clear g0 g1 g2 he
          generalize hci : (c : Int) = ci at *
          subst hei
          go_wp2
          go_ret
          exact ⟨ret_str HE.out, HB.out _⟩
        · have hei : ¬ ((4294967042 : Int) = (c : Int)) := by omega
          have HG : Hid (_ ∧ _) := And.intro g0 (And.intro g1 he)
          clear g0 g1 g2 he
          go_wp2
          go_roundw
          case rel => exact ⟨2, by omega, by go_num, HB.out _, fun h => HG.out.1 (by omega), fun h => HG.out.2.2, fun h => by omega⟩
          case measure => simp [intOf]
      · have hix : ∀ W, (Instr.index 75 (.agg #[.int .u32 4294967041, .string nmExport, .int .u32 4294967042, .string nmAdvertise, .int .u32 4294967043, .string nmConfed]) (.int .i64 2)).run Tryd.prog W = .ok (.agg #[.int .u32 4294967043, .string nmConfed]) W := fun W => by kernel_rfl
        have HB : Hid (∀ o, Below w.heap.size w (wr.alloc o)) := fun o => hb.alloc hb.size _
        by_cases he : c = 4294967043
        · have hei : (4294967043 : Int) = (c : Int) := by omega
          have HE : Hid (nmConfed = textC c) := by unfold Hid textC; simp [he]
          have HG : Hid (_ ∧ _) := And.intro g0 g1
          clear g0 g1 g2 he
          generalize hci : (c : Int) = ci at *
          subst hei
          go_wp2
          go_ret
          exact ⟨ret_str HE.out, HB.out _⟩
        · have hei : ¬ ((4294967043 : Int) = (c : Int)) := by omega
          have HG : Hid (_ ∧ _) := And.intro g0 (And.intro g1 he)
          clear g0 g1 g2 he
          go_wp2
          go_roundw
          case rel => exact ⟨3, by omega, by go_num, HB.out _, fun h => HG.out.1 (by omega), fun h => HG.out.2.1 (by omega), fun h => HG.out.2.2⟩
          case measure => simp [intOf]
    · obtain rfl : k = 3 := by omega
      have HE : Hid (digB (c / 65536) ++ ⟨#[58]⟩ ++ digB (c % 65536) = textC c) := by unfold Hid textC; simp [g0, g1, g2]
      clear g0 g1 g2
      have hT1 := HT.out.below hb
      have h1 : (digB (c / 65536)).size ≤ 20 := dig_le _ (by omega)
      have h2 : (digB (c % 65536)).size ≤ 20 := dig_le _ (by omega)
      have hand : bits .and .u32 (c : Int) 65535 = (c : Int) % 65536 := and16 c hc
      have a1 : ∀ W, (Op.stringOp .add (digB (c / 65536)) ⟨#[58]⟩).run Tryd.prog W = .ok (.string (digB (c / 65536) ++ ⟨#[58]⟩)) W := fun W => run_string_add_sum W _ _ (by rw [show (ByteArray.mk #[58]).size = 1 from rfl]; omega)
      have hs3 : (digB (c / 65536) ++ ⟨#[58]⟩ : ByteArray).size ≤ 21 := by rw [ByteArray.size_append, show (ByteArray.mk #[58]).size = 1 from rfl]; omega
      have a2 : ∀ W, (Op.stringOp .add (digB (c / 65536) ++ ⟨#[58]⟩) (digB (c % 65536))).run Tryd.prog W = .ok (.string (digB (c / 65536) ++ ⟨#[58]⟩ ++ digB (c % 65536))) W := fun W => run_string_add_sum W _ _ (by omega)
      have H1 : Hid (∀ W, Tabs W → Calls Tryd.prog 57 #[.int .u32 ((c : Int) / 65536)] W fun e w' => e = .returned (.string (digB (c / 65536))) ∧ Below W.heap.size W w') := fun W hT => halfI _ W _ (by omega) (by omega) hT
      have H2 : Hid (∀ W, Tabs W → Calls Tryd.prog 57 #[.int .u32 ((c : Int) % 65536)] W fun e w' => e = .returned (.string (digB (c % 65536))) ∧ Below W.heap.size W w') := fun W hT => halfI _ W _ (by omega) (by omega) hT
      rw [HE.out] at a2
      generalize hres : textC c = res at a2
      have HRS : Hid (textC c = res) := hres
      clear hres
      generalize digB (c / 65536) ++ ⟨#[58]⟩ = s12 at *
      generalize digB (c / 65536) = s1 at *
      generalize digB (c % 65536) = s2 at *
      have HB : Hid (Below w.heap.size w wr) := hb
      have HTT : Hid (Tabs wr) := hT1
      clear hb hT1 HE h1 h2 hs3
      go_wp2_with fail
      refine (H1.out _ HTT.out).mono ?_
      rintro e w1 ⟨rfl, hb1⟩
      have HT2 : Hid (Tabs w1) := HTT.out.below hb1
      have HB1 : Hid (Below w.heap.size w w1) := HB.out.trans (hb1.mono HB.out.size)
      clear hb1 HTT HB
      go_wp2_with fail
      refine (H2.out _ HT2.out).mono ?_
      rintro e w2 ⟨rfl, hb2⟩
      have HB2 : Hid (Below w.heap.size w w2) := HB1.out.trans (hb2.mono HB1.out.size)
      clear hb2
      go_wp2
      go_ret
      exact ⟨ret_str HRS.out.symm, HB2.out⟩
end Go.Proofs.YteldgfmcfkmpdaaDoor
