/-
  The reference's Number and Text.
-/
import Derived.Test.YteldgfmcfkmpdaaDoorT1
import Derived.Test.YteldgfmcfkmpdaaDoorB2
import Derived.Deep.RegionHeld
namespace Go.Proofs.YteldgfmcfkmpdaaDoor
open Go.RowKit
def hexS : ByteArray := ⟨#[48, 49, 50, 51, 52, 53, 54, 55, 56, 57, 97, 98, 99, 100, 101, 102]⟩
theorem hex_at (d : Nat) (h : d < 10) : hexS.extract d (d + 1) = ⟨#[UInt8.ofNat (48 + d)]⟩ := by
  rcases (show d = 0 ∨ d = 1 ∨ d = 2 ∨ d = 3 ∨ d = 4 ∨ d = 5 ∨ d = 6 ∨ d = 7 ∨ d = 8 ∨ d = 9 by omega) with rfl | rfl | rfl | rfl | rfl | rfl | rfl | rfl | rfl | rfl <;> decide +kernel
theorem digB_small (u : Nat) (h : u < 10) : digB u = ⟨#[UInt8.ofNat (48 + u)]⟩ := by
  unfold digB; rw [Lib.decDigits, dif_pos h]
theorem digB_great (u : Nat) (h : ¬ u < 10) : digB u = digB (u / 10) ++ ⟨#[UInt8.ofNat (48 + u % 10)]⟩ := by
  unfold digB; rw [Lib.decDigits, dif_neg h]
  apply ByteArray.ext; simp
set_option maxRecDepth 100000 in
theorem rnumber (u : Nat) (hu : u < 18446744073709551616) (w : World) :
    Calls Tryd.prog 58 #[.int .u64 (u : Int), .int .u64 10] w fun e w' => e = .returned (.string (digB u)) ∧ Below w.heap.size w w' := by
  induction u using Nat.strongRecOn generalizing w with
  | _ u ih =>
    have hsl : ∀ W, (Instr.slice 9 (.string ⟨#[48, 49, 50, 51, 52, 53, 54, 55, 56, 57, 97, 98, 99, 100, 101, 102]⟩) (some (.int .u64 ((u : Int) % 10))) (some (.int .u64 ((u : Int) % 10 + 1))) none).run Tryd.prog W = .ok (.string ⟨#[UInt8.ofNat (48 + u % 10)]⟩) W := fun W => by
      rw [run_slice_string W 9 _ .u64 .u64 ((u : Int) % 10) ((u : Int) % 10 + 1) Tryd.underlying9 (by omega) (by omega) (by show _ ≤ (16 : Int); omega), show ((u : Int) % 10).toNat = u % 10 by omega, show ((u : Int) % 10 + 1).toNat = u % 10 + 1 by omega]
      rw [show (⟨#[48, 49, 50, 51, 52, 53, 54, 55, 56, 57, 97, 98, 99, 100, 101, 102]⟩ : ByteArray) = hexS from rfl, hex_at _ (by omega)]
    by_cases h10 : u < 10
    · have HE : Hid ((⟨#[UInt8.ofNat (48 + u % 10)]⟩ : ByteArray) = digB u) := by unfold Hid; rw [digB_small u h10, Nat.mod_eq_of_lt h10]
      have h10i : (u : Int) < 10 := by omega
      clear ih
      generalize (⟨#[UInt8.ofNat (48 + u % 10)]⟩ : ByteArray) = one at *
      go_enter Tryd.func58, Tryd.ntmps58
      go_wp2
      go_quiet (fail)
      go_wp2
      go_ret
      exact ⟨ret_str HE.out, below_drewN' (Below.refl _ _) _⟩
    · have h10i : ¬ ((u : Int) < 10) := by omega
      have HE : Hid (digB (u / 10) ++ ⟨#[UInt8.ofNat (48 + u % 10)]⟩ = digB u) := (digB_great u h10).symm
      have HI : Hid (∀ W, Calls Tryd.prog 58 #[.int .u64 ((u : Int) / 10), .int .u64 10] W fun e w' => e = .returned (.string (digB (u / 10))) ∧ Below W.heap.size W w') := fun W => by
        have := ih (u / 10) (by omega) (by omega) W
        rw [show ((u / 10 : Nat) : Int) = (u : Int) / 10 by omega] at this
        exact this
      have hsz : (digB (u / 10)).size ≤ 20 := dig_le _ (by omega)
      have ha : ∀ W, (Op.stringOp .add (digB (u / 10)) ⟨#[UInt8.ofNat (48 + u % 10)]⟩).run Tryd.prog W = .ok (.string (digB (u / 10) ++ ⟨#[UInt8.ofNat (48 + u % 10)]⟩)) W := fun W => run_string_add_sum W _ _ (by rw [show (ByteArray.mk #[UInt8.ofNat (48 + u % 10)]).size = 1 from rfl]; omega)
      clear ih
      generalize digB (u / 10) ++ ⟨#[UInt8.ofNat (48 + u % 10)]⟩ = res at *
      generalize digB (u / 10) = s1 at *
      generalize (⟨#[UInt8.ofNat (48 + u % 10)]⟩ : ByteArray) = one at *
      go_enter Tryd.func58, Tryd.ntmps58
      go_wp2
      go_quiet (fail)
      go_wp2_with fail
      refine (HI.out _).mono ?_
      rintro e w1 ⟨rfl, hb⟩
      go_wp2
      go_ret
      exact ⟨ret_str HE.out, (below_drewN' (Below.refl _ _) _).trans (hb.mono (Nat.le_refl _))⟩
theorem rnumI (n : Int) (w : World) (m : Nat) (hn : n = (m : Int)) (hm : m < 4294967296) :
    Calls Tryd.prog 58 #[.int .u64 n, .int .u64 10] w fun e w' => e = .returned (.string (digB m)) ∧ Below w.heap.size w w' := by
  subst hn; exact rnumber m (by omega) w
set_option maxRecDepth 100000 in
theorem rtext (c : Nat) (w : World) (hc : c < 4294967296) :
    Calls Tryd.prog 28 #[.int .u32 (c : Int)] w fun e w' => e = .returned (.string (textC c)) ∧ Below w.heap.size w w' := by
  by_cases h1 : c = 4294967041
  · subst h1
    go_enter Tryd.func28, Tryd.ntmps28
    go_wp2
    go_ret
    exact ⟨rfl, Below.refl _ _⟩
  by_cases h2 : c = 4294967042
  · subst h2
    go_enter Tryd.func28, Tryd.ntmps28
    go_wp2
    go_ret
    exact ⟨rfl, Below.refl _ _⟩
  by_cases h3 : c = 4294967043
  · subst h3
    go_enter Tryd.func28, Tryd.ntmps28
    go_wp2
    go_ret
    exact ⟨rfl, Below.refl _ _⟩
  have HE : Hid (digB (c / 65536) ++ ⟨#[58]⟩ ++ digB (c % 65536) = textC c) := by unfold Hid textC; rw [if_neg h1, if_neg h2, if_neg h3]
  have h1i : ¬ ((c : Int) = 4294967041) := by omega
  have h2i : ¬ ((c : Int) = 4294967042) := by omega
  have h3i : ¬ ((c : Int) = 4294967043) := by omega
  have g1 : (digB (c / 65536)).size ≤ 20 := dig_le _ (by omega)
  have g2 : (digB (c % 65536)).size ≤ 20 := dig_le _ (by omega)
  have hand : bits .and .u32 (c : Int) 65535 = (c : Int) % 65536 := and16 c hc
  have a1 : ∀ W, (Op.stringOp .add (digB (c / 65536)) ⟨#[58]⟩).run Tryd.prog W = .ok (.string (digB (c / 65536) ++ ⟨#[58]⟩)) W := fun W => run_string_add_sum W _ _ (by rw [show (ByteArray.mk #[58]).size = 1 from rfl]; omega)
  have hs3 : (digB (c / 65536) ++ ⟨#[58]⟩ : ByteArray).size ≤ 21 := by rw [ByteArray.size_append, show (ByteArray.mk #[58]).size = 1 from rfl]; omega
  have a2 : ∀ W, (Op.stringOp .add (digB (c / 65536) ++ ⟨#[58]⟩) (digB (c % 65536))).run Tryd.prog W = .ok (.string (digB (c / 65536) ++ ⟨#[58]⟩ ++ digB (c % 65536))) W := fun W => run_string_add_sum W _ _ (by omega)
  have H1 : Hid (∀ W, Calls Tryd.prog 58 #[.int .u64 ((c : Int) / 65536), .int .u64 10] W fun e w' => e = .returned (.string (digB (c / 65536))) ∧ Below W.heap.size W w') := fun W => rnumI _ W _ (by omega) (by omega)
  have H2 : Hid (∀ W, Calls Tryd.prog 58 #[.int .u64 ((c : Int) % 65536), .int .u64 10] W fun e w' => e = .returned (.string (digB (c % 65536))) ∧ Below W.heap.size W w') := fun W => rnumI _ W _ (by omega) (by omega)
  rw [HE.out] at a2
  generalize textC c = res at *
  generalize digB (c / 65536) ++ ⟨#[58]⟩ = s12 at *
  generalize digB (c / 65536) = s1 at *
  generalize digB (c % 65536) = s2 at *
  clear HE h1 h2 h3 g1 g2 hs3
  go_enter Tryd.func28, Tryd.ntmps28
  go_wp2_with fail
  refine (H1.out w).mono ?_
  rintro e w1 ⟨rfl, hb1⟩
  have HB1 : Hid (Below w.heap.size w w1) := hb1
  clear hb1
  go_wp2_with fail
  refine (H2.out w1).mono ?_
  rintro e w2 ⟨rfl, hb2⟩
  have HB2 : Hid (Below w.heap.size w w2) := HB1.out.trans (hb2.mono HB1.out.size)
  clear hb2
  go_wp2
  go_ret
  exact ⟨rfl, HB2.out⟩
end Go.Proofs.YteldgfmcfkmpdaaDoor
