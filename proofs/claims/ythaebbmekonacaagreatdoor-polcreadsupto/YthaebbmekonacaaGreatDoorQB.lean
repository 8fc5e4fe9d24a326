/-
  What the reference tells of a term; the walk of PolcTells.
-/
import Derived.Test.YthaebbmekonacaaGreatDoorQQ
import Derived.Test.YthaebbmekonacaaGreatDoorTX
import Derived.Deep.RegionHeld
import Derived.BigQuiet
import Derived.Test.YthaebbmekonacaaGreatDoorTYC
import Derived.Test.YthaebbmekonacaaGreatDoorTZ
import Derived.Test.YthaebbmekonacaaGreatDoorJP
set_option linter.unusedVariables false
set_option linter.unusedSimpArgs false
set_option maxRecDepth 100000
namespace Go.Proofs.YthaebbmekonacaaGreatDoor
open Go.RowKit
def hexS : ByteArray := ⟨#[48, 49, 50, 51, 52, 53, 54, 55, 56, 57, 97, 98, 99, 100, 101, 102]⟩
theorem hexS_at (d : Nat) (h : d < 16) : hexS.extract d (d + 1) = ⟨#[dg d]⟩ := by
  rcases (show d = 0 ∨ d = 1 ∨ d = 2 ∨ d = 3 ∨ d = 4 ∨ d = 5 ∨ d = 6 ∨ d = 7 ∨ d = 8 ∨ d = 9 ∨ d = 10 ∨ d = 11 ∨ d = 12 ∨ d = 13 ∨ d = 14 ∨ d = 15 by omega) with rfl | rfl | rfl | rfl | rfl | rfl | rfl | rfl | rfl | rfl | rfl | rfl | rfl | rfl | rfl | rfl <;> decide +kernel
/-- A number's digits to the base b, as the reference puts them. -/
structure Digs (b : Nat) (D : Nat → List UInt8) : Prop where
  low : ∀ u, u < b → D u = [dg u]
  high : ∀ u, ¬ u < b → D u = D (u / b) ++ [dg (u % b)]
theorem digs10 : Digs 10 Lib.decDigits := by
  refine ⟨fun u h => ?_, fun u h => ?_⟩
  · rw [Lib.decDigits, dif_pos h]; unfold dg; rw [if_pos h]
  · rw [Lib.decDigits, dif_neg h]; unfold dg; rw [if_pos (Nat.mod_lt _ (by omega))]
theorem digs16 : Digs 16 hexD := by
  refine ⟨fun u h => ?_, fun u h => ?_⟩
  · rw [hexD, dif_pos h]
  · rw [hexD, dif_neg h]
theorem Digs.len {b : Nat} {D : Nat → List UInt8} (h : Digs b D) (hb : 2 ≤ b) : ∀ (k u : Nat), u < 2 ^ (k + 1) → (D u).length ≤ k + 1
  | 0, u, hu => by rw [h.low u (by omega)]; simp
  | k + 1, u, hu => by
    by_cases hl : u < b
    · rw [h.low u hl]; simp
    · rw [h.high u hl, List.length_append]
      have hd : u / b ≤ u / 2 := Nat.div_le_div_left hb (by omega)
      have := Digs.len h hb k (u / b) (by rw [Nat.pow_succ] at hu; omega)
      simp; omega
set_option maxHeartbeats 2000000 in
theorem rnumD10 (u : Nat) (hu : u < 18446744073709551616) (w : World) :
    Calls Tryz.prog 131 #[.int .u64 (u : Int), .int .u64 10] w fun e w' => e = .returned (.string ⟨(Lib.decDigits u).toArray⟩) ∧ ∃ m, w' = w.drewN m := by
  induction u using Nat.strongRecOn generalizing w with
  | _ u ih =>
    have hsl : ∀ W, (Instr.slice 9 (.string ⟨#[48, 49, 50, 51, 52, 53, 54, 55, 56, 57, 97, 98, 99, 100, 101, 102]⟩) (some (.int .u64 ((u : Int) % 10))) (some (.int .u64 ((u : Int) % 10 + 1))) none).run Tryz.prog W = .ok (.string ⟨#[dg (u % 10)]⟩) W := fun W => by
      rw [run_slice_string W 9 _ .u64 .u64 ((u : Int) % 10) ((u : Int) % 10 + 1) Tryz.underlying9 (by omega) (by omega) (by show _ ≤ (16 : Int); omega), show ((u : Int) % 10).toNat = u % 10 by omega, show ((u : Int) % 10 + 1).toNat = u % 10 + 1 by omega]
      rw [show (⟨#[48, 49, 50, 51, 52, 53, 54, 55, 56, 57, 97, 98, 99, 100, 101, 102]⟩ : ByteArray) = hexS from rfl, hexS_at _ (by omega)]
    by_cases h10 : u < 10
    · have HE : Hid ((⟨#[dg (u % 10)]⟩ : ByteArray) = ⟨(Lib.decDigits u).toArray⟩) := by unfold Hid; rw [digs10.low u h10, Nat.mod_eq_of_lt h10]
      have h10i : (u : Int) < 10 := by omega
      clear ih
      generalize (⟨#[dg (u % 10)]⟩ : ByteArray) = one at *
      generalize Lib.decDigits u = all at *
      go_enter Tryz.func131, Tryz.ntmps131
      go_wp2
      go_quiet (fail)
      go_wp2
      go_ret
      exact ⟨ret_str HE.out, _, rfl⟩
    · have h10i : ¬ ((u : Int) < 10) := by omega
      have HE : Hid ((⟨(Lib.decDigits (u / 10)).toArray⟩ : ByteArray) ++ ⟨#[dg (u % 10)]⟩ = ⟨(Lib.decDigits u).toArray⟩) := by
        unfold Hid; rw [digs10.high u h10]; exact str_app _ [dg (u % 10)]
      have HI : Hid (∀ W, Calls Tryz.prog 131 #[.int .u64 ((u : Int) / 10), .int .u64 10] W fun e w' => e = .returned (.string ⟨(Lib.decDigits (u / 10)).toArray⟩) ∧ ∃ m, w' = W.drewN m) := fun W => by
        have := ih (u / 10) (by omega) (by omega) W
        rw [show ((u / 10 : Nat) : Int) = (u : Int) / 10 by omega] at this
        exact this
      have hsz : (⟨(Lib.decDigits (u / 10)).toArray⟩ : ByteArray).size ≤ 64 := by
        show (Lib.decDigits (u / 10)).toArray.size ≤ 64
        have := digs10.len (by omega) 63 (u / 10) (by omega)
        simpa using this
      have ha : ∀ W, (Op.stringOp .add (⟨(Lib.decDigits (u / 10)).toArray⟩ : ByteArray) ⟨#[dg (u % 10)]⟩).run Tryz.prog W = .ok (.string ((⟨(Lib.decDigits (u / 10)).toArray⟩ : ByteArray) ++ ⟨#[dg (u % 10)]⟩)) W := fun W => run_string_add_sum W _ _ (by rw [show (ByteArray.mk #[dg (u % 10)]).size = 1 from rfl]; omega)
      clear ih
      generalize (⟨(Lib.decDigits (u / 10)).toArray⟩ : ByteArray) ++ ⟨#[dg (u % 10)]⟩ = res at *
      generalize (⟨(Lib.decDigits (u / 10)).toArray⟩ : ByteArray) = s1 at *
      generalize (⟨#[dg (u % 10)]⟩ : ByteArray) = one at *
      generalize Lib.decDigits u = all at *
      go_enter Tryz.func131, Tryz.ntmps131
      go_wp2
      go_quiet (fail)
      go_wp2_with fail
      refine (HI.out _).mono ?_
      rintro e w1 ⟨rfl, m, rfl⟩
      go_wp2
      go_ret
      exact ⟨ret_str HE.out, _, rfl⟩
theorem rnum10 (u : Nat) (hu : u < 18446744073709551616) (w : World) :
    Calls Tryz.prog 131 #[.int .u64 (u : Int), .int .u64 10] w fun e w' => e = .returned (.string ⟨(Lib.decDigits u).toArray⟩) ∧ Below w.heap.size w w' :=
  (rnumD10 u hu w).mono fun _ _ ⟨h, m, hm⟩ => ⟨h, by rw [hm]; exact below_drewN' (Below.refl _ _) _⟩
set_option maxHeartbeats 2000000 in
theorem rnumD16 (u : Nat) (hu : u < 18446744073709551616) (w : World) :
    Calls Tryz.prog 131 #[.int .u64 (u : Int), .int .u64 16] w fun e w' => e = .returned (.string ⟨(hexD u).toArray⟩) ∧ ∃ m, w' = w.drewN m := by
  induction u using Nat.strongRecOn generalizing w with
  | _ u ih =>
    have hsl : ∀ W, (Instr.slice 9 (.string ⟨#[48, 49, 50, 51, 52, 53, 54, 55, 56, 57, 97, 98, 99, 100, 101, 102]⟩) (some (.int .u64 ((u : Int) % 16))) (some (.int .u64 ((u : Int) % 16 + 1))) none).run Tryz.prog W = .ok (.string ⟨#[dg (u % 16)]⟩) W := fun W => by
      rw [run_slice_string W 9 _ .u64 .u64 ((u : Int) % 16) ((u : Int) % 16 + 1) Tryz.underlying9 (by omega) (by omega) (by show _ ≤ (16 : Int); omega), show ((u : Int) % 16).toNat = u % 16 by omega, show ((u : Int) % 16 + 1).toNat = u % 16 + 1 by omega]
      rw [show (⟨#[48, 49, 50, 51, 52, 53, 54, 55, 56, 57, 97, 98, 99, 100, 101, 102]⟩ : ByteArray) = hexS from rfl, hexS_at _ (by omega)]
    by_cases h10 : u < 16
    · have HE : Hid ((⟨#[dg (u % 16)]⟩ : ByteArray) = ⟨(hexD u).toArray⟩) := by unfold Hid; rw [digs16.low u h10, Nat.mod_eq_of_lt h10]
      have h10i : (u : Int) < 16 := by omega
      clear ih
      generalize (⟨#[dg (u % 16)]⟩ : ByteArray) = one at *
      generalize hexD u = all at *
      go_enter Tryz.func131, Tryz.ntmps131
      go_wp2
      go_quiet (fail)
      go_wp2
      go_ret
      exact ⟨ret_str HE.out, _, rfl⟩
    · have h10i : ¬ ((u : Int) < 16) := by omega
      have HE : Hid ((⟨(hexD (u / 16)).toArray⟩ : ByteArray) ++ ⟨#[dg (u % 16)]⟩ = ⟨(hexD u).toArray⟩) := by
        unfold Hid; rw [digs16.high u h10]; exact str_app _ [dg (u % 16)]
      have HI : Hid (∀ W, Calls Tryz.prog 131 #[.int .u64 ((u : Int) / 16), .int .u64 16] W fun e w' => e = .returned (.string ⟨(hexD (u / 16)).toArray⟩) ∧ ∃ m, w' = W.drewN m) := fun W => by
        have := ih (u / 16) (by omega) (by omega) W
        rw [show ((u / 16 : Nat) : Int) = (u : Int) / 16 by omega] at this
        exact this
      have hsz : (⟨(hexD (u / 16)).toArray⟩ : ByteArray).size ≤ 64 := by
        show (hexD (u / 16)).toArray.size ≤ 64
        have := digs16.len (by omega) 63 (u / 16) (by omega)
        simpa using this
      have ha : ∀ W, (Op.stringOp .add (⟨(hexD (u / 16)).toArray⟩ : ByteArray) ⟨#[dg (u % 16)]⟩).run Tryz.prog W = .ok (.string ((⟨(hexD (u / 16)).toArray⟩ : ByteArray) ++ ⟨#[dg (u % 16)]⟩)) W := fun W => run_string_add_sum W _ _ (by rw [show (ByteArray.mk #[dg (u % 16)]).size = 1 from rfl]; omega)
      clear ih
      generalize (⟨(hexD (u / 16)).toArray⟩ : ByteArray) ++ ⟨#[dg (u % 16)]⟩ = res at *
      generalize (⟨(hexD (u / 16)).toArray⟩ : ByteArray) = s1 at *
      generalize (⟨#[dg (u % 16)]⟩ : ByteArray) = one at *
      generalize hexD u = all at *
      go_enter Tryz.func131, Tryz.ntmps131
      go_wp2
      go_quiet (fail)
      go_wp2_with fail
      refine (HI.out _).mono ?_
      rintro e w1 ⟨rfl, m, rfl⟩
      go_wp2
      go_ret
      exact ⟨ret_str HE.out, _, rfl⟩
theorem rnum16 (u : Nat) (hu : u < 18446744073709551616) (w : World) :
    Calls Tryz.prog 131 #[.int .u64 (u : Int), .int .u64 16] w fun e w' => e = .returned (.string ⟨(hexD u).toArray⟩) ∧ Below w.heap.size w w' :=
  (rnumD16 u hu w).mono fun _ _ ⟨h, m, hm⟩ => ⟨h, by rw [hm]; exact below_drewN' (Below.refl _ _) _⟩
theorem rnameF (n : Nat) (h1 : 1 ≤ n) (h2 : n ≤ 5) (w : World) : Calls Tryz.prog 83 #[.int .i64 (n : Int)] w fun e w' => e = .returned (.string ⟨(fwL.getD n []).toArray⟩) ∧ w' = w := by
  rcases (show n = 1 ∨ n = 2 ∨ n = 3 ∨ n = 4 ∨ n = 5 by omega) with rfl | rfl | rfl | rfl | rfl
  all_goals
    go_enter Tryz.func83, Tryz.ntmps83
    go_wp2
    go_ret
    exact ⟨rfl, rfl⟩
theorem rorigin (n : Nat) (h2 : n ≤ 2) (w : World) : Calls Tryz.prog 81 #[.int .i64 (n : Int)] w fun e w' => e = .returned (.string ⟨(owL.getD n []).toArray⟩) ∧ Below w.heap.size w w' := by
  rcases (show n = 0 ∨ n = 1 ∨ n = 2 by omega) with rfl | rfl | rfl
  all_goals
    go_enter Tryz.func81, Tryz.ntmps81
    go_wp2
    go_ret
    exact ⟨rfl, (Below.refl _ _).alloc (Nat.le_refl _) _⟩
set_option maxHeartbeats 2000000 in
theorem rcom_any (c : Nat) (hc : c < 4294967296) (w : World) : Calls Tryz.prog 85 #[.int .u32 (c : Int)] w fun e w' => e = .returned (.string ⟨(comT c).toArray⟩) ∧ Below w.heap.size w w' := by
  by_cases h0 : c = 4294967041
  · subst h0
    go_enter Tryz.func85, Tryz.ntmps85
    go_wp2
    go_ret
    exact ⟨rfl, Below.refl _ _⟩
  by_cases h1 : c = 4294967042
  · subst h1
    go_enter Tryz.func85, Tryz.ntmps85
    go_wp2
    go_ret
    exact ⟨rfl, Below.refl _ _⟩
  by_cases h2 : c = 4294967043
  · subst h2
    go_enter Tryz.func85, Tryz.ntmps85
    go_wp2
    go_ret
    exact ⟨rfl, Below.refl _ _⟩
  have q0 : ((c : Int) == 4294967041) = false := by simp; omega
  have q1 : ((c : Int) == 4294967042) = false := by simp; omega
  have q2 : ((c : Int) == 4294967043) = false := by simp; omega
  have hT : Hid (comT c = Lib.decDigits (c / 65536) ++ [58] ++ Lib.decDigits (c % 65536)) := by unfold Hid comT; simp [h0, h1, h2]
  have hand := and16 c hc
  have HA : Hid (∀ W, Calls Tryz.prog 131 #[.int .u64 ((c : Int) / 65536), .int .u64 10] W fun e w' => e = .returned (.string ⟨(Lib.decDigits (c / 65536)).toArray⟩) ∧ Below W.heap.size W w') := fun W => by
    have := rnum10 (c / 65536) (by omega) W
    rw [show ((c / 65536 : Nat) : Int) = (c : Int) / 65536 by omega] at this
    exact this
  have HB : Hid (∀ W, Calls Tryz.prog 131 #[.int .u64 ((c % 65536 : Nat) : Int), .int .u64 10] W fun e w' => e = .returned (.string ⟨(Lib.decDigits (c % 65536)).toArray⟩) ∧ Below W.heap.size W w') := fun W => rnum10 (c % 65536) (by omega) W
  have hl1 : (Lib.decDigits (c / 65536)).length ≤ 10 := dig_ten _ (by omega)
  have hl2 : (Lib.decDigits (c % 65536)).length ≤ 10 := dig_ten _ (by omega)
  have ha := add_l (Lib.decDigits (c / 65536)) [58] (by simp; omega)
  have hb := add_l (Lib.decDigits (c / 65536) ++ [58]) (Lib.decDigits (c % 65536)) (by simp; omega)
  have hshr : IntKind.u32.wrap ((c : Int) / 65536) = (c : Int) / 65536 := by rw [IntKind.wrap_u32]; omega
  have hw1 : IntKind.u64.wrap ((c : Int) / 65536) = (c : Int) / 65536 := by rw [IntKind.wrap_u64]; omega
  have hw2 : IntKind.u64.wrap ((c % 65536 : Nat) : Int) = ((c % 65536 : Nat) : Int) := by rw [IntKind.wrap_u64]; omega
  generalize comT c = tx at *
  generalize Lib.decDigits (c / 65536) = t1 at *
  generalize Lib.decDigits (c % 65536) = t2 at *
  generalize c % 65536 = m at *
  generalize t1 ++ [58] = t3 at *
  generalize t3 ++ t2 = t4 at *
  go_enter Tryz.func85, Tryz.ntmps85
  go_wp2_with fail
  refine (HA.out _).mono ?_
  rintro e w1 ⟨rfl, hb1⟩
  go_wp2_with fail
  refine (HB.out _).mono ?_
  rintro e w2 ⟨rfl, hb2⟩
  go_wp2
  go_ret
  exact ⟨by rw [hT.out]; rfl, hb1.trans (hb2.mono hb1.size)⟩
/-- The first k of some texts, joined. -/
def pj (xs : List (List UInt8)) (sep : List UInt8) (k : Nat) : List UInt8 := Lib.join (xs.take k) sep
theorem pj_zero (xs : List (List UInt8)) (sep : List UInt8) : pj xs sep 0 = [] := by unfold pj; rw [List.take_zero, Lib.join_nil]
theorem pj_one (xs : List (List UInt8)) (sep : List UInt8) (x : List UInt8) (h : xs[0]? = some x) : pj xs sep 1 = x := by
  cases xs with
  | nil => simp at h
  | cons a r => simp at h; subst h; unfold pj; simp [Lib.join_one]
theorem pj_succ (xs : List (List UInt8)) (sep : List UInt8) (k : Nat) (x : List UInt8) (h1 : 1 ≤ k) (h : xs[k]? = some x) : pj xs sep (k + 1) = pj xs sep k ++ sep ++ x := by
  cases xs with
  | nil => simp at h
  | cons a r =>
    obtain ⟨j, rfl⟩ : ∃ j, k = j + 1 := ⟨k - 1, by omega⟩
    unfold pj
    rw [List.take_succ_cons, List.take_succ_cons, Lib.join_cons, Lib.join_cons, Lib.joinTail_take_succ sep r j x (by simpa using h)]
    simp [List.append_assoc]
theorem pj_all (xs : List (List UInt8)) (sep : List UInt8) (k : Nat) (h : xs.length ≤ k) : pj xs sep k = Lib.join xs sep := by unfold pj; rw [List.take_of_length_le h]
theorem pj_len (xs : List (List UInt8)) (sep : List UInt8) (k m n : Nat) (h : ∀ x ∈ xs, x.length ≤ m) (hl : xs.length ≤ n) : (pj xs sep k).length ≤ n * (m + sep.length) := by
  refine Nat.le_trans (join_le _ _ m fun y hy => h y (List.mem_of_mem_take hy)) (Nat.mul_le_mul_right _ ?_)
  rw [List.length_take]; omega
theorem n4_len (s : ByteArray) : ∀ x ∈ (nums4 s).map (·.data.toList), x.length ≤ 4 := by
  intro y hy
  simp only [nums4, List.map_map, List.mem_map, List.mem_range, Function.comp] at hy
  obtain ⟨i, _, rfl⟩ := hy
  exact Nat.le_trans (dig_pow 2 _ (Nat.lt_trans (UInt8.toNat_lt _) (by decide))) (by decide)
theorem n16_len (s : ByteArray) : ∀ x ∈ (nums16 s).map (·.data.toList), x.length ≤ 4 := by
  intro y hy
  simp only [nums16, List.map_map, List.mem_map, List.mem_range, Function.comp] at hy
  obtain ⟨i, _, rfl⟩ := hy
  refine hexD_len _ 3 ?_
  have h1 : (s.data.toList.getD (2 * i) 0).toNat < 256 := UInt8.toNat_lt _
  have h2 : (s.data.toList.getD (2 * i + 1) 0).toNat < 256 := UInt8.toNat_lt _
  show _ < 65536
  omega
set_option maxHeartbeats 600000 in
theorem raddr4 (s : ByteArray) (hs : s.size = 4) (w : World) : Calls Tryz.prog 86 #[.string s] w fun e w' => e = .returned (.tuple #[.string ⟨(adT s).toArray⟩, .int .i64 0]) ∧ Below w.heap.size w w' := by
  have HA : Hid (adT s = Lib.join ((nums4 s).map (·.data.toList)) [46]) := by unfold Hid adT; rw [hs]; rfl
  have HX : Hid (∀ k, k < 4 → ((nums4 s).map (·.data.toList))[k]? = some _) := fun k hk => by rw [List.getElem?_map, at_last4 s k hk]; rfl
  have HL : Hid (∀ k, (pj ((nums4 s).map (·.data.toList)) [46] k).length ≤ 40) := fun k => Nat.le_trans (pj_len _ _ k 4 4 (n4_len s) (by simp [nums4])) (by decide)
  have HZ : Hid (pj ((nums4 s).map (·.data.toList)) [46] 4 = adT s) := by unfold Hid; rw [pj_all _ _ _ (by simp [nums4]), ← HA.out]
  have HY : Hid (∀ x ∈ (nums4 s).map (·.data.toList), x.length ≤ 4) := n4_len s
  have hsz : (s.size : Int) = 4 := by omega
  generalize adT s = r at *
  generalize (nums4 s).map (·.data.toList) = xs at *
  go_enter Tryz.func86, Tryz.ntmps86
  go_wp2_with fail
  go_loopw [4, 5] (fun x4 x5 wr => ∃ (k : Nat), x5 = .int .i64 (k : Int) ∧ k ≤ 4 ∧ x4 = .string ⟨(pj xs [46] k).toArray⟩ ∧ Below w.heap.size w wr) (fun _ x5 _ => 4 - (intOf x5).toNat)
  case atStart => exact ⟨0, rfl, Nat.zero_le _, by rw [pj_zero], Below.refl _ _⟩
  case round =>
    obtain ⟨k, rfl, hk, rfl, hb0⟩ := hrel
    have HB : Hid (_ : Prop) := hb0
    clear hb0
    by_cases hlt : k < 4
    · have hlt' : (k : Int) < 4 := by omega
      have HQ := HX.out k hlt
      have hks : k < s.size := by omega
      rw [getD_at s k hks] at HQ
      have hb : s[k].toNat < 256 := UInt8.toNat_lt _
      obtain ⟨b, eb⟩ : ∃ b, s[k].toNat = b := ⟨_, rfl⟩
      rw [eb] at hb HQ
      have hw : IntKind.u64.wrap (b : Int) = b := by rw [IntKind.wrap_u64]; omega
      have HN : Hid (∀ W, Calls Tryz.prog 131 #[.int .u64 (b : Int), .int .u64 10] W fun e w' => e = .returned (.string ⟨(Lib.decDigits b).toArray⟩) ∧ Below W.heap.size W w') := fun W => rnum10 b (by omega) W
      have hvl : (Lib.decDigits b).length ≤ 4 := HY.out _ (List.mem_of_getElem? HQ)
      have HQ2 : Hid (xs[k]? = some (Lib.decDigits b)) := HQ
      generalize Lib.decDigits b = v at *
      have hl0 := HL.out k
      clear HQ HX
      by_cases h0 : k = 0
      · have HP : Hid (pj xs [46] (k + 1) = v) := by
          have q := HQ2.out
          rw [h0] at q ⊢
          exact pj_one xs [46] v q
        have h0' : ¬ (0 : Int) < (k : Int) := by omega
        rw [show pj xs [46] k = [] by rw [h0, pj_zero]]
        clear h0
        have ha := add_l [] v (by simp; omega)
        simp only [List.nil_append] at ha
        go_wp2_with fail
        refine (HN.out _).mono ?_
        rintro e w2 ⟨rfl, hb2⟩
        have HB2 : Hid (_ : Prop) := HB.out.trans (hb2.mono HB.out.size)
        clear hb2
        go_wp2
        exact ⟨⟨k + 1, by go_num, by omega, by rw [HP.out], HB2.out⟩, by simp [intOf]; omega⟩
      · have h0' : (0 : Int) < (k : Int) := by omega
        have HP : Hid (pj xs [46] (k + 1) = pj xs [46] k ++ [46] ++ v) := pj_succ xs [46] k v (by omega) HQ2.out
        have ha := add_l (pj xs [46] k) [46] (by simp; omega)
        have hc := add_l (pj xs [46] k ++ [46]) v (by simp; omega)
        generalize pj xs [46] k = p0 at *
        generalize p0 ++ [46] = p1 at *
        generalize p1 ++ v = p2 at *
        go_wp2_with fail
        refine (HN.out _).mono ?_
        rintro e w2 ⟨rfl, hb2⟩
        have HB2 : Hid (_ : Prop) := HB.out.trans (hb2.mono HB.out.size)
        clear hb2
        go_wp2
        exact ⟨⟨k + 1, by go_num, by omega, by rw [show pj xs [46] (k + 1) = p2 from HP.out], HB2.out⟩, by simp [intOf]; omega⟩
    · obtain rfl : k = 4 := by omega
      have HZ2 : Hid (_ = _) := HZ.out
      rw [HZ.out]
      clear HX HY HL
      go_wp2
      go_ret2
      exact ⟨rfl, HB.out⟩
set_option maxHeartbeats 600000 in
theorem raddr16 (s : ByteArray) (hs : s.size = 16) (w : World) : Calls Tryz.prog 86 #[.string s] w fun e w' => e = .returned (.tuple #[.string ⟨(adT s).toArray⟩, .int .i64 0]) ∧ Below w.heap.size w w' := by
  have HA : Hid (adT s = Lib.join ((nums16 s).map (·.data.toList)) [58]) := by unfold Hid adT; rw [hs]; rfl
  have HX : Hid (∀ k, k < 8 → ((nums16 s).map (·.data.toList))[k]? = some _) := fun k hk => by rw [List.getElem?_map, at_last8 s k hk]; rfl
  have HL : Hid (∀ k, (pj ((nums16 s).map (·.data.toList)) [58] k).length ≤ 40) := fun k => Nat.le_trans (pj_len _ _ k 4 8 (n16_len s) (by simp [nums16])) (by decide)
  have HZ : Hid (pj ((nums16 s).map (·.data.toList)) [58] 8 = adT s) := by unfold Hid; rw [pj_all _ _ _ (by simp [nums16]), ← HA.out]
  have HY : Hid (∀ x ∈ (nums16 s).map (·.data.toList), x.length ≤ 4) := n16_len s
  have hsz : (s.size : Int) = 16 := by omega
  generalize adT s = r at *
  generalize (nums16 s).map (·.data.toList) = xs at *
  go_enter Tryz.func86, Tryz.ntmps86
  go_wp2_with fail
  go_loopw [4, 6] (fun x4 x5 wr => ∃ (k : Nat), x5 = .int .i64 (k : Int) ∧ k ≤ 8 ∧ x4 = .string ⟨(pj xs [58] k).toArray⟩ ∧ Below w.heap.size w wr) (fun _ x5 _ => 8 - (intOf x5).toNat)
  case atStart => exact ⟨0, rfl, Nat.zero_le _, by rw [pj_zero], Below.refl _ _⟩
  case round =>
    obtain ⟨k, rfl, hk, rfl, hb0⟩ := hrel
    have HB : Hid (_ : Prop) := hb0
    clear hb0
    by_cases hlt : k < 8
    · have hlt' : (k : Int) < 8 := by omega
      have HQ := HX.out k hlt
      have hwk : IntKind.i64.wrap (2 * (k : Int)) = ((2 * k : Nat) : Int) := by rw [IntKind.wrap_i64]; omega
      have hj16 : 2 * k + 1 < 16 := by omega
      generalize 2 * k = j at *
      have hks : j + 1 < s.size := by omega
      have hj0 : j < s.size := by omega
      have hj1 : (j : Int) < 16 := by omega
      have hj2 : (j : Int) + 1 < 16 := by omega
      rw [getD_at s j hj0, getD_at s (j + 1) hks] at HQ
      have hb : s[j].toNat < 256 := UInt8.toNat_lt _
      have hd : s[j + 1].toNat < 256 := UInt8.toNat_lt _
      obtain ⟨b, eb⟩ : ∃ b, s[j].toNat = b := ⟨_, rfl⟩
      obtain ⟨d, ed⟩ : ∃ d, s[j + 1].toNat = d := ⟨_, rfl⟩
      rw [eb] at hb HQ
      rw [ed] at hd HQ
      have hw : IntKind.u64.wrap (b : Int) = b := by rw [IntKind.wrap_u64]; omega
      have hx : IntKind.u64.wrap (d : Int) = d := by rw [IntKind.wrap_u64]; omega
      have hy : IntKind.u64.wrap ((b : Int) * 256) = (b : Int) * 256 := by rw [IntKind.wrap_u64]; omega
      have hm : bits BinOp.or IntKind.u64 ((b : Int) * 256) (d : Int) = ((b * 256 + d : Nat) : Int) := or_hi b d hb hd
      have HM : b * 256 + d < 65536 := by omega
      have HN : Hid (∀ W, Calls Tryz.prog 131 #[.int .u64 ((b * 256 + d : Nat) : Int), .int .u64 16] W fun e w' => e = .returned (.string ⟨(hexD (b * 256 + d)).toArray⟩) ∧ ∃ m, w' = W.drewN m) := fun W => rnumD16 _ (by omega) W
      have hvl : (hexD (b * 256 + d)).length ≤ 4 := HY.out _ (List.mem_of_getElem? HQ)
      have HQ2 : Hid (xs[k]? = some (hexD (b * 256 + d))) := HQ
      generalize hexD (b * 256 + d) = v at *
      generalize b * 256 + d = m at *
      have hl0 := HL.out k
      clear HQ HX
      by_cases h0 : k = 0
      · have HP : Hid (pj xs [58] (k + 1) = v) := by
          have q := HQ2.out
          rw [h0] at q ⊢
          exact pj_one xs [58] v q
        have h0' : ¬ (0 : Int) < (k : Int) := by omega
        rw [show pj xs [58] k = [] by rw [h0, pj_zero]]
        clear h0
        have ha := add_l [] v (by simp; omega)
        simp only [List.nil_append] at ha
        go_wp2_with fail
        go_quiet ((go_at_call 131; exact Calls.quiet_of (HN.out _)))
        have HB2 : Hid (_ : Prop) := below_dr HB.out nq
        go_wp2
        exact ⟨⟨k + 1, by go_num, by omega, by rw [HP.out], HB2.out⟩, by simp [intOf]; omega⟩
      · have h0' : (0 : Int) < (k : Int) := by omega
        have HP : Hid (pj xs [58] (k + 1) = pj xs [58] k ++ [58] ++ v) := pj_succ xs [58] k v (by omega) HQ2.out
        have ha := add_l (pj xs [58] k) [58] (by simp; omega)
        have hc := add_l (pj xs [58] k ++ [58]) v (by simp; omega)
        generalize pj xs [58] k = p0 at *
        generalize p0 ++ [58] = p1 at *
        generalize p1 ++ v = p2 at *
        go_wp2_with fail
        go_quiet ((go_at_call 131; exact Calls.quiet_of (HN.out _)))
        have HB2 : Hid (_ : Prop) := below_dr HB.out nq
        go_wp2
        exact ⟨⟨k + 1, by go_num, by omega, by rw [show pj xs [58] (k + 1) = p2 from HP.out], HB2.out⟩, by simp [intOf]; omega⟩
    · obtain rfl : k = 8 := by omega
      have HZ2 : Hid (_ = _) := HZ.out
      rw [HZ.out]
      clear HX HY HL
      go_wp2
      go_ret2
      exact ⟨rfl, HB.out⟩
set_option maxHeartbeats 600000 in
theorem rct1 (nt : Bool) (v : List UInt8) (n : Int) (hl : v.length ≤ 16) (w : World) : Calls Tryz.prog 46 #[.agg #[.int .i64 1, .bool nt, .string ⟨v.toArray⟩, .int .i64 n]] w fun e w' => e = .returned (.string ⟨((if nt then [110, 111, 116, 32] else []) ++ ([112, 114, 101, 102, 105, 120, 32] ++ v)).toArray⟩) ∧ Below w.heap.size w w' := by
  have a1 : ∀ W, (Op.stringOp .add (⟨#[112, 114, 101, 102, 105, 120, 32]⟩ : ByteArray) ⟨v.toArray⟩).run Tryz.prog W = .ok (.string ⟨([112, 114, 101, 102, 105, 120, 32] ++ v).toArray⟩) W := fun W => add_l [112, 114, 101, 102, 105, 120, 32] v (by simp; omega) W
  have hxl : ([112, 114, 101, 102, 105, 120, 32] ++ v).length ≤ 30 := by simp; omega
  generalize [112, 114, 101, 102, 105, 120, 32] ++ v = x at *
  have a3 : ∀ W, (Op.stringOp .add (⟨#[110, 111, 116, 32]⟩ : ByteArray) ⟨x.toArray⟩).run Tryz.prog W = .ok (.string ⟨([110, 111, 116, 32] ++ x).toArray⟩) W := fun W => add_l [110, 111, 116, 32] x (by simp; omega) W
  have HB : Hid (Below _ _ _) := below_box w (.cells #[.int .i64 1, .bool nt, .string ⟨v.toArray⟩, .int .i64 n] 37)
  have q1 : (w.alloc (.cells #[.int .i64 1, .bool nt, .string ⟨v.toArray⟩, .int .i64 n] 37)).cell? ⟨w.heap.size, 1, none⟩ = some (.bool nt) := by rw [World.cell?_alloc_new]; rfl
  go_enter Tryz.func46, Tryz.ntmps46
  cases nt
  · go_wp2
    go_ret
    exact ⟨rfl, HB.out⟩
  · go_wp2
    go_ret
    exact ⟨rfl, HB.out⟩
set_option maxHeartbeats 600000 in
theorem rct2 (nt : Bool) (v : List UInt8) (n : Int) (hl : v.length ≤ 16) (w : World) : Calls Tryz.prog 46 #[.agg #[.int .i64 2, .bool nt, .string ⟨v.toArray⟩, .int .i64 n]] w fun e w' => e = .returned (.string ⟨((if nt then [110, 111, 116, 32] else []) ++ ([99, 111, 109, 109, 32] ++ v)).toArray⟩) ∧ Below w.heap.size w w' := by
  have a1 : ∀ W, (Op.stringOp .add (⟨#[99, 111, 109, 109, 32]⟩ : ByteArray) ⟨v.toArray⟩).run Tryz.prog W = .ok (.string ⟨([99, 111, 109, 109, 32] ++ v).toArray⟩) W := fun W => add_l [99, 111, 109, 109, 32] v (by simp; omega) W
  have hxl : ([99, 111, 109, 109, 32] ++ v).length ≤ 30 := by simp; omega
  generalize [99, 111, 109, 109, 32] ++ v = x at *
  have a3 : ∀ W, (Op.stringOp .add (⟨#[110, 111, 116, 32]⟩ : ByteArray) ⟨x.toArray⟩).run Tryz.prog W = .ok (.string ⟨([110, 111, 116, 32] ++ x).toArray⟩) W := fun W => add_l [110, 111, 116, 32] x (by simp; omega) W
  have HB : Hid (Below _ _ _) := below_box w (.cells #[.int .i64 2, .bool nt, .string ⟨v.toArray⟩, .int .i64 n] 37)
  have q1 : (w.alloc (.cells #[.int .i64 2, .bool nt, .string ⟨v.toArray⟩, .int .i64 n] 37)).cell? ⟨w.heap.size, 1, none⟩ = some (.bool nt) := by rw [World.cell?_alloc_new]; rfl
  go_enter Tryz.func46, Tryz.ntmps46
  cases nt
  · go_wp2
    go_ret
    exact ⟨rfl, HB.out⟩
  · go_wp2
    go_ret
    exact ⟨rfl, HB.out⟩
set_option maxHeartbeats 600000 in
theorem rct3 (nt : Bool) (v : List UInt8) (n : Int) (hl : v.length ≤ 16) (w : World) : Calls Tryz.prog 46 #[.agg #[.int .i64 3, .bool nt, .string ⟨v.toArray⟩, .int .i64 n]] w fun e w' => e = .returned (.string ⟨((if nt then [110, 111, 116, 32] else []) ++ ([112, 97, 116, 104, 32] ++ v)).toArray⟩) ∧ Below w.heap.size w w' := by
  have a1 : ∀ W, (Op.stringOp .add (⟨#[112, 97, 116, 104, 32]⟩ : ByteArray) ⟨v.toArray⟩).run Tryz.prog W = .ok (.string ⟨([112, 97, 116, 104, 32] ++ v).toArray⟩) W := fun W => add_l [112, 97, 116, 104, 32] v (by simp; omega) W
  have hxl : ([112, 97, 116, 104, 32] ++ v).length ≤ 30 := by simp; omega
  generalize [112, 97, 116, 104, 32] ++ v = x at *
  have a3 : ∀ W, (Op.stringOp .add (⟨#[110, 111, 116, 32]⟩ : ByteArray) ⟨x.toArray⟩).run Tryz.prog W = .ok (.string ⟨([110, 111, 116, 32] ++ x).toArray⟩) W := fun W => add_l [110, 111, 116, 32] x (by simp; omega) W
  have HB : Hid (Below _ _ _) := below_box w (.cells #[.int .i64 3, .bool nt, .string ⟨v.toArray⟩, .int .i64 n] 37)
  have q1 : (w.alloc (.cells #[.int .i64 3, .bool nt, .string ⟨v.toArray⟩, .int .i64 n] 37)).cell? ⟨w.heap.size, 1, none⟩ = some (.bool nt) := by rw [World.cell?_alloc_new]; rfl
  go_enter Tryz.func46, Tryz.ntmps46
  cases nt
  · go_wp2
    go_ret
    exact ⟨rfl, HB.out⟩
  · go_wp2
    go_ret
    exact ⟨rfl, HB.out⟩
set_option maxHeartbeats 600000 in
theorem rct4 (nt : Bool) (v : List UInt8) (n : Int) (hl : v.length ≤ 16) (w : World) : Calls Tryz.prog 46 #[.agg #[.int .i64 4, .bool nt, .string ⟨v.toArray⟩, .int .i64 n]] w fun e w' => e = .returned (.string ⟨((if nt then [110, 111, 116, 32] else []) ++ ([112, 101, 101, 114, 32] ++ v)).toArray⟩) ∧ Below w.heap.size w w' := by
  have a1 : ∀ W, (Op.stringOp .add (⟨#[112, 101, 101, 114, 32]⟩ : ByteArray) ⟨v.toArray⟩).run Tryz.prog W = .ok (.string ⟨([112, 101, 101, 114, 32] ++ v).toArray⟩) W := fun W => add_l [112, 101, 101, 114, 32] v (by simp; omega) W
  have hxl : ([112, 101, 101, 114, 32] ++ v).length ≤ 30 := by simp; omega
  generalize [112, 101, 101, 114, 32] ++ v = x at *
  have a3 : ∀ W, (Op.stringOp .add (⟨#[110, 111, 116, 32]⟩ : ByteArray) ⟨x.toArray⟩).run Tryz.prog W = .ok (.string ⟨([110, 111, 116, 32] ++ x).toArray⟩) W := fun W => add_l [110, 111, 116, 32] x (by simp; omega) W
  have HB : Hid (Below _ _ _) := below_box w (.cells #[.int .i64 4, .bool nt, .string ⟨v.toArray⟩, .int .i64 n] 37)
  have q1 : (w.alloc (.cells #[.int .i64 4, .bool nt, .string ⟨v.toArray⟩, .int .i64 n] 37)).cell? ⟨w.heap.size, 1, none⟩ = some (.bool nt) := by rw [World.cell?_alloc_new]; rfl
  go_enter Tryz.func46, Tryz.ntmps46
  cases nt
  · go_wp2
    go_ret
    exact ⟨rfl, HB.out⟩
  · go_wp2
    go_ret
    exact ⟨rfl, HB.out⟩
set_option maxHeartbeats 600000 in
theorem rct5 (nt : Bool) (v : List UInt8) (nm : ByteArray) (n : Int) (hl : v.length ≤ 16) (w : World) (HV : Hid (∀ X, Below w.heap.size w X → Calls Tryz.prog 81 #[.int .i64 n] X fun e w' => e = .returned (.string ⟨v.toArray⟩) ∧ Below X.heap.size X w')) : Calls Tryz.prog 46 #[.agg #[.int .i64 5, .bool nt, .string nm, .int .i64 n]] w fun e w' => e = .returned (.string ⟨((if nt then [110, 111, 116, 32] else []) ++ ([111, 114, 105, 103, 105, 110, 32] ++ v)).toArray⟩) ∧ Below w.heap.size w w' := by
  have a1 : ∀ W, (Op.stringOp .add (⟨#[111, 114, 105, 103, 105, 110, 32]⟩ : ByteArray) ⟨v.toArray⟩).run Tryz.prog W = .ok (.string ⟨([111, 114, 105, 103, 105, 110, 32] ++ v).toArray⟩) W := fun W => add_l [111, 114, 105, 103, 105, 110, 32] v (by simp; omega) W
  have hxl : ([111, 114, 105, 103, 105, 110, 32] ++ v).length ≤ 30 := by simp; omega
  generalize [111, 114, 105, 103, 105, 110, 32] ++ v = x at *
  have a3 : ∀ W, (Op.stringOp .add (⟨#[110, 111, 116, 32]⟩ : ByteArray) ⟨x.toArray⟩).run Tryz.prog W = .ok (.string ⟨([110, 111, 116, 32] ++ x).toArray⟩) W := fun W => add_l [110, 111, 116, 32] x (by simp; omega) W
  have HB : Hid (Below _ _ _) := below_box w (.cells #[.int .i64 5, .bool nt, .string nm, .int .i64 n] 37)
  have q1 : (w.alloc (.cells #[.int .i64 5, .bool nt, .string nm, .int .i64 n] 37)).cell? ⟨w.heap.size, 1, none⟩ = some (.bool nt) := by rw [World.cell?_alloc_new]; rfl
  go_enter Tryz.func46, Tryz.ntmps46
  go_wp2_with fail
  refine (HV.out _ HB.out).mono ?_
  rintro e w5 ⟨rfl, hb5⟩
  have p1 := below_cell hb5 q1
  have HB5 : Hid (Below w.heap.size w w5) := HB.out.trans (hb5.mono HB.out.size)
  clear hb5 q1
  cases nt
  · go_wp2
    go_ret
    exact ⟨rfl, HB5.out⟩
  · go_wp2
    go_ret
    exact ⟨rfl, HB5.out⟩
set_option maxHeartbeats 600000 in
theorem rct6 (nt : Bool) (v : List UInt8) (nm : ByteArray) (n : Int) (hl : v.length ≤ 16) (w : World) (HV : Hid (∀ X, Below w.heap.size w X → Calls Tryz.prog 82 #[.int .i64 n] X fun e w' => e = .returned (.string ⟨v.toArray⟩) ∧ Below X.heap.size X w')) : Calls Tryz.prog 46 #[.agg #[.int .i64 6, .bool nt, .string nm, .int .i64 n]] w fun e w' => e = .returned (.string ⟨((if nt then [110, 111, 116, 32] else []) ++ ([108, 101, 110, 103, 116, 104, 32] ++ v)).toArray⟩) ∧ Below w.heap.size w w' := by
  have a1 : ∀ W, (Op.stringOp .add (⟨#[108, 101, 110, 103, 116, 104, 32]⟩ : ByteArray) ⟨v.toArray⟩).run Tryz.prog W = .ok (.string ⟨([108, 101, 110, 103, 116, 104, 32] ++ v).toArray⟩) W := fun W => add_l [108, 101, 110, 103, 116, 104, 32] v (by simp; omega) W
  have hxl : ([108, 101, 110, 103, 116, 104, 32] ++ v).length ≤ 30 := by simp; omega
  generalize [108, 101, 110, 103, 116, 104, 32] ++ v = x at *
  have a3 : ∀ W, (Op.stringOp .add (⟨#[110, 111, 116, 32]⟩ : ByteArray) ⟨x.toArray⟩).run Tryz.prog W = .ok (.string ⟨([110, 111, 116, 32] ++ x).toArray⟩) W := fun W => add_l [110, 111, 116, 32] x (by simp; omega) W
  have HB : Hid (Below _ _ _) := below_box w (.cells #[.int .i64 6, .bool nt, .string nm, .int .i64 n] 37)
  have q1 : (w.alloc (.cells #[.int .i64 6, .bool nt, .string nm, .int .i64 n] 37)).cell? ⟨w.heap.size, 1, none⟩ = some (.bool nt) := by rw [World.cell?_alloc_new]; rfl
  go_enter Tryz.func46, Tryz.ntmps46
  go_wp2_with fail
  refine (HV.out _ HB.out).mono ?_
  rintro e w5 ⟨rfl, hb5⟩
  have p1 := below_cell hb5 q1
  have HB5 : Hid (Below w.heap.size w w5) := HB.out.trans (hb5.mono HB.out.size)
  clear hb5 q1
  cases nt
  · go_wp2
    go_ret
    exact ⟨rfl, HB5.out⟩
  · go_wp2
    go_ret
    exact ⟨rfl, HB5.out⟩
set_option maxHeartbeats 600000 in
theorem rct7 (nt : Bool) (v : List UInt8) (nm : ByteArray) (n : Int) (hl : v.length ≤ 16) (w : World) (HV : Hid (∀ X, Below w.heap.size w X → Calls Tryz.prog 83 #[.int .i64 n] X fun e w' => e = .returned (.string ⟨v.toArray⟩) ∧ Below X.heap.size X w')) : Calls Tryz.prog 46 #[.agg #[.int .i64 7, .bool nt, .string nm, .int .i64 n]] w fun e w' => e = .returned (.string ⟨((if nt then [110, 111, 116, 32] else []) ++ ([102, 97, 109, 32] ++ v)).toArray⟩) ∧ Below w.heap.size w w' := by
  have a1 : ∀ W, (Op.stringOp .add (⟨#[102, 97, 109, 32]⟩ : ByteArray) ⟨v.toArray⟩).run Tryz.prog W = .ok (.string ⟨([102, 97, 109, 32] ++ v).toArray⟩) W := fun W => add_l [102, 97, 109, 32] v (by simp; omega) W
  have hxl : ([102, 97, 109, 32] ++ v).length ≤ 30 := by simp; omega
  generalize [102, 97, 109, 32] ++ v = x at *
  have a3 : ∀ W, (Op.stringOp .add (⟨#[110, 111, 116, 32]⟩ : ByteArray) ⟨x.toArray⟩).run Tryz.prog W = .ok (.string ⟨([110, 111, 116, 32] ++ x).toArray⟩) W := fun W => add_l [110, 111, 116, 32] x (by simp; omega) W
  have HB : Hid (Below _ _ _) := below_box w (.cells #[.int .i64 7, .bool nt, .string nm, .int .i64 n] 37)
  have q1 : (w.alloc (.cells #[.int .i64 7, .bool nt, .string nm, .int .i64 n] 37)).cell? ⟨w.heap.size, 1, none⟩ = some (.bool nt) := by rw [World.cell?_alloc_new]; rfl
  go_enter Tryz.func46, Tryz.ntmps46
  go_wp2_with fail
  refine (HV.out _ HB.out).mono ?_
  rintro e w5 ⟨rfl, hb5⟩
  have p1 := below_cell hb5 q1
  have HB5 : Hid (Below w.heap.size w w5) := HB.out.trans (hb5.mono HB.out.size)
  clear hb5 q1
  cases nt
  · go_wp2
    go_ret
    exact ⟨rfl, HB5.out⟩
  · go_wp2
    go_ret
    exact ⟨rfl, HB5.out⟩
theorem rcondText_any (c : Cd) (hok : okC c = true) (w : World) (he : EnvX w) : Calls Tryz.prog 46 #[cdV c] w fun e w' => e = .returned (.string ⟨(cT c).toArray⟩) ∧ Below w.heap.size w w' := by
  have hvl := cvT_len c hok
  have hk := ok_kinds hok
  obtain ⟨k, nt, nm, n⟩ := c
  dsimp only at hk
  obtain ⟨l, rfl⟩ : ∃ l : List UInt8, nm = ⟨l.toArray⟩ := ⟨nm.data.toList, (bytes_eta nm).symm⟩
  rcases hk with ⟨hk, hn, rfl⟩ | ⟨rfl, hn, h0, h1⟩ | ⟨rfl, hn, h0, h1⟩ | ⟨rfl, hn, h0, h1⟩
  · have hl : l.length ≤ 16 := name_len hn
    rcases hk with rfl | rfl | rfl | rfl
    · exact (rct1 nt l 0 hl w).mono fun _ _ h => h
    · exact (rct2 nt l 0 hl w).mono fun _ _ h => h
    · exact (rct3 nt l 0 hl w).mono fun _ _ h => h
    · exact (rct4 nt l 0 hl w).mono fun _ _ h => h
  · obtain ⟨m, rfl⟩ : ∃ m : Nat, n = m := ⟨n.toNat, by omega⟩
    exact (rct5 nt _ ⟨l.toArray⟩ m hvl w (fun X hX => rorigin m (by omega) X)).mono fun _ _ h => h
  · obtain ⟨m, rfl⟩ : ∃ m : Nat, n = m := ⟨n.toNat, by omega⟩
    exact (rct6 nt _ ⟨l.toArray⟩ m hvl w (fun X hX => itoa_any m (by omega) X (he.below hX).e.p)).mono fun _ _ h => h
  · obtain ⟨m, rfl⟩ : ∃ m : Nat, n = m := ⟨n.toNat, by omega⟩
    exact (rct7 nt _ ⟨l.toArray⟩ m hvl w (fun X hX => (rnameF m (by omega) (by omega) X).mono fun _ _ ⟨h, h2⟩ => ⟨h, by rw [h2]; exact Below.refl _ _⟩)).mono fun _ _ h => h
set_option maxHeartbeats 600000 in
theorem rat1 (nm : ByteArray) (n : Nat) (ad : ByteArray) (hn : n < 4294967296) (w : World) (he : EnvX w) : Calls Tryz.prog 47 #[.agg #[.int .i64 1, .string nm, .int .u32 (n : Int), .string ad]] w fun e w' => e = .returned (.string ⟨([97, 99, 99, 101, 112, 116]).toArray⟩) ∧ Below w.heap.size w w' := by
  have hdl : (Lib.decDigits n).length ≤ 10 := dig_ten n hn
  have HF : Hid (∀ X, PowAt X → Calls Tryz.prog 84 #[.int .u64 (n : Int), .int .i64 10] X fun e w' => e = .returned (.string ⟨(Lib.decDigits n).toArray⟩) ∧ Below X.heap.size X w') := fun X hp => fmt_any n (by omega) X hp
  have hw : IntKind.u64.wrap (n : Int) = n := by rw [IntKind.wrap_u64]; omega
  have hwi : IntKind.i64.wrap (n : Int) = n := by rw [IntKind.wrap_i64]; omega
  generalize Lib.decDigits n = d at *
  have HB : Hid (Below _ _ _) := below_box w (.cells #[.int .i64 1, .string nm, .int .u32 (n : Int), .string ad] 40)
  have HP : Hid (PowAt (w.alloc (.cells #[.int .i64 1, .string nm, .int .u32 (n : Int), .string ad] 40))) := (he.below HB.out).e.p
  have q0 : (w.alloc (.cells #[.int .i64 1, .string nm, .int .u32 (n : Int), .string ad] 40)).cell? ⟨w.heap.size, 0, none⟩ = some (.int .i64 1) := by rw [World.cell?_alloc_new]; rfl
  have q1 : (w.alloc (.cells #[.int .i64 1, .string nm, .int .u32 (n : Int), .string ad] 40)).cell? ⟨w.heap.size, 1, none⟩ = some (.string nm) := by rw [World.cell?_alloc_new]; rfl
  have q2 : (w.alloc (.cells #[.int .i64 1, .string nm, .int .u32 (n : Int), .string ad] 40)).cell? ⟨w.heap.size, 2, none⟩ = some (.int .u32 (n : Int)) := by rw [World.cell?_alloc_new]; rfl
  have q3 : (w.alloc (.cells #[.int .i64 1, .string nm, .int .u32 (n : Int), .string ad] 40)).cell? ⟨w.heap.size, 3, none⟩ = some (.string ad) := by rw [World.cell?_alloc_new]; rfl
  clear he
  go_enter Tryz.func47, Tryz.ntmps47
  go_wp2_with fail
  refine (HF.out _ HP.out).mono ?_
  rintro e w5 ⟨rfl, hb5⟩
  have p0 := below_cell hb5 q0
  have p1 := below_cell hb5 q1
  have p2 := below_cell hb5 q2
  have p3 := below_cell hb5 q3
  have HB5 : Hid (Below w.heap.size w w5) := HB.out.trans (hb5.mono HB.out.size)
  clear hb5 q0 q1 q2 q3 HB HP HF
  go_wp2
  go_ret
  exact ⟨rfl, HB5.out⟩
set_option maxHeartbeats 600000 in
theorem rat2 (nm : ByteArray) (n : Nat) (ad : ByteArray) (hn : n < 4294967296) (w : World) (he : EnvX w) : Calls Tryz.prog 47 #[.agg #[.int .i64 2, .string nm, .int .u32 (n : Int), .string ad]] w fun e w' => e = .returned (.string ⟨([114, 101, 106, 101, 99, 116]).toArray⟩) ∧ Below w.heap.size w w' := by
  have hdl : (Lib.decDigits n).length ≤ 10 := dig_ten n hn
  have HF : Hid (∀ X, PowAt X → Calls Tryz.prog 84 #[.int .u64 (n : Int), .int .i64 10] X fun e w' => e = .returned (.string ⟨(Lib.decDigits n).toArray⟩) ∧ Below X.heap.size X w') := fun X hp => fmt_any n (by omega) X hp
  have hw : IntKind.u64.wrap (n : Int) = n := by rw [IntKind.wrap_u64]; omega
  have hwi : IntKind.i64.wrap (n : Int) = n := by rw [IntKind.wrap_i64]; omega
  generalize Lib.decDigits n = d at *
  have HB : Hid (Below _ _ _) := below_box w (.cells #[.int .i64 2, .string nm, .int .u32 (n : Int), .string ad] 40)
  have HP : Hid (PowAt (w.alloc (.cells #[.int .i64 2, .string nm, .int .u32 (n : Int), .string ad] 40))) := (he.below HB.out).e.p
  have q0 : (w.alloc (.cells #[.int .i64 2, .string nm, .int .u32 (n : Int), .string ad] 40)).cell? ⟨w.heap.size, 0, none⟩ = some (.int .i64 2) := by rw [World.cell?_alloc_new]; rfl
  have q1 : (w.alloc (.cells #[.int .i64 2, .string nm, .int .u32 (n : Int), .string ad] 40)).cell? ⟨w.heap.size, 1, none⟩ = some (.string nm) := by rw [World.cell?_alloc_new]; rfl
  have q2 : (w.alloc (.cells #[.int .i64 2, .string nm, .int .u32 (n : Int), .string ad] 40)).cell? ⟨w.heap.size, 2, none⟩ = some (.int .u32 (n : Int)) := by rw [World.cell?_alloc_new]; rfl
  have q3 : (w.alloc (.cells #[.int .i64 2, .string nm, .int .u32 (n : Int), .string ad] 40)).cell? ⟨w.heap.size, 3, none⟩ = some (.string ad) := by rw [World.cell?_alloc_new]; rfl
  clear he
  go_enter Tryz.func47, Tryz.ntmps47
  go_wp2_with fail
  refine (HF.out _ HP.out).mono ?_
  rintro e w5 ⟨rfl, hb5⟩
  have p0 := below_cell hb5 q0
  have p1 := below_cell hb5 q1
  have p2 := below_cell hb5 q2
  have p3 := below_cell hb5 q3
  have HB5 : Hid (Below w.heap.size w w5) := HB.out.trans (hb5.mono HB.out.size)
  clear hb5 q0 q1 q2 q3 HB HP HF
  go_wp2
  go_ret
  exact ⟨rfl, HB5.out⟩
set_option maxHeartbeats 600000 in
theorem rat5 (nm : ByteArray) (n : Nat) (ad : ByteArray) (hn : n < 4294967296) (w : World) (he : EnvX w) : Calls Tryz.prog 47 #[.agg #[.int .i64 5, .string nm, .int .u32 (n : Int), .string ad]] w fun e w' => e = .returned (.string ⟨([110, 111, 45, 109, 101, 100]).toArray⟩) ∧ Below w.heap.size w w' := by
  have hdl : (Lib.decDigits n).length ≤ 10 := dig_ten n hn
  have HF : Hid (∀ X, PowAt X → Calls Tryz.prog 84 #[.int .u64 (n : Int), .int .i64 10] X fun e w' => e = .returned (.string ⟨(Lib.decDigits n).toArray⟩) ∧ Below X.heap.size X w') := fun X hp => fmt_any n (by omega) X hp
  have hw : IntKind.u64.wrap (n : Int) = n := by rw [IntKind.wrap_u64]; omega
  have hwi : IntKind.i64.wrap (n : Int) = n := by rw [IntKind.wrap_i64]; omega
  generalize Lib.decDigits n = d at *
  have HB : Hid (Below _ _ _) := below_box w (.cells #[.int .i64 5, .string nm, .int .u32 (n : Int), .string ad] 40)
  have HP : Hid (PowAt (w.alloc (.cells #[.int .i64 5, .string nm, .int .u32 (n : Int), .string ad] 40))) := (he.below HB.out).e.p
  have q0 : (w.alloc (.cells #[.int .i64 5, .string nm, .int .u32 (n : Int), .string ad] 40)).cell? ⟨w.heap.size, 0, none⟩ = some (.int .i64 5) := by rw [World.cell?_alloc_new]; rfl
  have q1 : (w.alloc (.cells #[.int .i64 5, .string nm, .int .u32 (n : Int), .string ad] 40)).cell? ⟨w.heap.size, 1, none⟩ = some (.string nm) := by rw [World.cell?_alloc_new]; rfl
  have q2 : (w.alloc (.cells #[.int .i64 5, .string nm, .int .u32 (n : Int), .string ad] 40)).cell? ⟨w.heap.size, 2, none⟩ = some (.int .u32 (n : Int)) := by rw [World.cell?_alloc_new]; rfl
  have q3 : (w.alloc (.cells #[.int .i64 5, .string nm, .int .u32 (n : Int), .string ad] 40)).cell? ⟨w.heap.size, 3, none⟩ = some (.string ad) := by rw [World.cell?_alloc_new]; rfl
  clear he
  go_enter Tryz.func47, Tryz.ntmps47
  go_wp2_with fail
  refine (HF.out _ HP.out).mono ?_
  rintro e w5 ⟨rfl, hb5⟩
  have p0 := below_cell hb5 q0
  have p1 := below_cell hb5 q1
  have p2 := below_cell hb5 q2
  have p3 := below_cell hb5 q3
  have HB5 : Hid (Below w.heap.size w w5) := HB.out.trans (hb5.mono HB.out.size)
  clear hb5 q0 q1 q2 q3 HB HP HF
  go_wp2
  go_ret
  exact ⟨rfl, HB5.out⟩
set_option maxHeartbeats 600000 in
theorem rat3 (nm : ByteArray) (n : Nat) (ad : ByteArray) (hn : n < 4294967296) (w : World) (he : EnvX w) : Calls Tryz.prog 47 #[.agg #[.int .i64 3, .string nm, .int .u32 (n : Int), .string ad]] w fun e w' => e = .returned (.string ⟨([112, 114, 101, 102, 32] ++ Lib.decDigits n).toArray⟩) ∧ Below w.heap.size w w' := by
  have hdl : (Lib.decDigits n).length ≤ 10 := dig_ten n hn
  have HF : Hid (∀ X, PowAt X → Calls Tryz.prog 84 #[.int .u64 (n : Int), .int .i64 10] X fun e w' => e = .returned (.string ⟨(Lib.decDigits n).toArray⟩) ∧ Below X.heap.size X w') := fun X hp => fmt_any n (by omega) X hp
  have hw : IntKind.u64.wrap (n : Int) = n := by rw [IntKind.wrap_u64]; omega
  have hwi : IntKind.i64.wrap (n : Int) = n := by rw [IntKind.wrap_i64]; omega
  generalize Lib.decDigits n = d at *
  have a1 : ∀ W, (Op.stringOp .add (⟨#[112, 114, 101, 102, 32]⟩ : ByteArray) ⟨d.toArray⟩).run Tryz.prog W = .ok (.string ⟨([112, 114, 101, 102, 32] ++ d).toArray⟩) W := fun W => add_l [112, 114, 101, 102, 32] d (by simp; omega) W
  generalize [112, 114, 101, 102, 32] ++ d = x at *
  have HB : Hid (Below _ _ _) := below_box w (.cells #[.int .i64 3, .string nm, .int .u32 (n : Int), .string ad] 40)
  have HP : Hid (PowAt (w.alloc (.cells #[.int .i64 3, .string nm, .int .u32 (n : Int), .string ad] 40))) := (he.below HB.out).e.p
  have q0 : (w.alloc (.cells #[.int .i64 3, .string nm, .int .u32 (n : Int), .string ad] 40)).cell? ⟨w.heap.size, 0, none⟩ = some (.int .i64 3) := by rw [World.cell?_alloc_new]; rfl
  have q1 : (w.alloc (.cells #[.int .i64 3, .string nm, .int .u32 (n : Int), .string ad] 40)).cell? ⟨w.heap.size, 1, none⟩ = some (.string nm) := by rw [World.cell?_alloc_new]; rfl
  have q2 : (w.alloc (.cells #[.int .i64 3, .string nm, .int .u32 (n : Int), .string ad] 40)).cell? ⟨w.heap.size, 2, none⟩ = some (.int .u32 (n : Int)) := by rw [World.cell?_alloc_new]; rfl
  have q3 : (w.alloc (.cells #[.int .i64 3, .string nm, .int .u32 (n : Int), .string ad] 40)).cell? ⟨w.heap.size, 3, none⟩ = some (.string ad) := by rw [World.cell?_alloc_new]; rfl
  clear he
  go_enter Tryz.func47, Tryz.ntmps47
  go_wp2_with fail
  refine (HF.out _ HP.out).mono ?_
  rintro e w5 ⟨rfl, hb5⟩
  have p0 := below_cell hb5 q0
  have p1 := below_cell hb5 q1
  have p2 := below_cell hb5 q2
  have p3 := below_cell hb5 q3
  have HB5 : Hid (Below w.heap.size w w5) := HB.out.trans (hb5.mono HB.out.size)
  clear hb5 q0 q1 q2 q3 HB HP HF
  go_wp2
  go_ret
  exact ⟨rfl, HB5.out⟩
set_option maxHeartbeats 600000 in
theorem rat4 (nm : ByteArray) (n : Nat) (ad : ByteArray) (hn : n < 4294967296) (w : World) (he : EnvX w) : Calls Tryz.prog 47 #[.agg #[.int .i64 4, .string nm, .int .u32 (n : Int), .string ad]] w fun e w' => e = .returned (.string ⟨([109, 101, 100, 32] ++ Lib.decDigits n).toArray⟩) ∧ Below w.heap.size w w' := by
  have hdl : (Lib.decDigits n).length ≤ 10 := dig_ten n hn
  have HF : Hid (∀ X, PowAt X → Calls Tryz.prog 84 #[.int .u64 (n : Int), .int .i64 10] X fun e w' => e = .returned (.string ⟨(Lib.decDigits n).toArray⟩) ∧ Below X.heap.size X w') := fun X hp => fmt_any n (by omega) X hp
  have hw : IntKind.u64.wrap (n : Int) = n := by rw [IntKind.wrap_u64]; omega
  have hwi : IntKind.i64.wrap (n : Int) = n := by rw [IntKind.wrap_i64]; omega
  generalize Lib.decDigits n = d at *
  have a1 : ∀ W, (Op.stringOp .add (⟨#[109, 101, 100, 32]⟩ : ByteArray) ⟨d.toArray⟩).run Tryz.prog W = .ok (.string ⟨([109, 101, 100, 32] ++ d).toArray⟩) W := fun W => add_l [109, 101, 100, 32] d (by simp; omega) W
  generalize [109, 101, 100, 32] ++ d = x at *
  have HB : Hid (Below _ _ _) := below_box w (.cells #[.int .i64 4, .string nm, .int .u32 (n : Int), .string ad] 40)
  have HP : Hid (PowAt (w.alloc (.cells #[.int .i64 4, .string nm, .int .u32 (n : Int), .string ad] 40))) := (he.below HB.out).e.p
  have q0 : (w.alloc (.cells #[.int .i64 4, .string nm, .int .u32 (n : Int), .string ad] 40)).cell? ⟨w.heap.size, 0, none⟩ = some (.int .i64 4) := by rw [World.cell?_alloc_new]; rfl
  have q1 : (w.alloc (.cells #[.int .i64 4, .string nm, .int .u32 (n : Int), .string ad] 40)).cell? ⟨w.heap.size, 1, none⟩ = some (.string nm) := by rw [World.cell?_alloc_new]; rfl
  have q2 : (w.alloc (.cells #[.int .i64 4, .string nm, .int .u32 (n : Int), .string ad] 40)).cell? ⟨w.heap.size, 2, none⟩ = some (.int .u32 (n : Int)) := by rw [World.cell?_alloc_new]; rfl
  have q3 : (w.alloc (.cells #[.int .i64 4, .string nm, .int .u32 (n : Int), .string ad] 40)).cell? ⟨w.heap.size, 3, none⟩ = some (.string ad) := by rw [World.cell?_alloc_new]; rfl
  clear he
  go_enter Tryz.func47, Tryz.ntmps47
  go_wp2_with fail
  refine (HF.out _ HP.out).mono ?_
  rintro e w5 ⟨rfl, hb5⟩
  have p0 := below_cell hb5 q0
  have p1 := below_cell hb5 q1
  have p2 := below_cell hb5 q2
  have p3 := below_cell hb5 q3
  have HB5 : Hid (Below w.heap.size w w5) := HB.out.trans (hb5.mono HB.out.size)
  clear hb5 q0 q1 q2 q3 HB HP HF
  go_wp2
  go_ret
  exact ⟨rfl, HB5.out⟩
set_option maxHeartbeats 600000 in
theorem rat8 (nm : ByteArray) (n : Nat) (ad : ByteArray) (hn : n < 4294967296) (w : World) (he : EnvX w) : Calls Tryz.prog 47 #[.agg #[.int .i64 8, .string nm, .int .u32 (n : Int), .string ad]] w fun e w' => e = .returned (.string ⟨([112, 114, 101, 112, 101, 110, 100, 32] ++ Lib.decDigits n).toArray⟩) ∧ Below w.heap.size w w' := by
  have hdl : (Lib.decDigits n).length ≤ 10 := dig_ten n hn
  have HF : Hid (∀ X, PowAt X → Calls Tryz.prog 84 #[.int .u64 (n : Int), .int .i64 10] X fun e w' => e = .returned (.string ⟨(Lib.decDigits n).toArray⟩) ∧ Below X.heap.size X w') := fun X hp => fmt_any n (by omega) X hp
  have hw : IntKind.u64.wrap (n : Int) = n := by rw [IntKind.wrap_u64]; omega
  have hwi : IntKind.i64.wrap (n : Int) = n := by rw [IntKind.wrap_i64]; omega
  generalize Lib.decDigits n = d at *
  have a1 : ∀ W, (Op.stringOp .add (⟨#[112, 114, 101, 112, 101, 110, 100, 32]⟩ : ByteArray) ⟨d.toArray⟩).run Tryz.prog W = .ok (.string ⟨([112, 114, 101, 112, 101, 110, 100, 32] ++ d).toArray⟩) W := fun W => add_l [112, 114, 101, 112, 101, 110, 100, 32] d (by simp; omega) W
  generalize [112, 114, 101, 112, 101, 110, 100, 32] ++ d = x at *
  have HB : Hid (Below _ _ _) := below_box w (.cells #[.int .i64 8, .string nm, .int .u32 (n : Int), .string ad] 40)
  have HP : Hid (PowAt (w.alloc (.cells #[.int .i64 8, .string nm, .int .u32 (n : Int), .string ad] 40))) := (he.below HB.out).e.p
  have q0 : (w.alloc (.cells #[.int .i64 8, .string nm, .int .u32 (n : Int), .string ad] 40)).cell? ⟨w.heap.size, 0, none⟩ = some (.int .i64 8) := by rw [World.cell?_alloc_new]; rfl
  have q1 : (w.alloc (.cells #[.int .i64 8, .string nm, .int .u32 (n : Int), .string ad] 40)).cell? ⟨w.heap.size, 1, none⟩ = some (.string nm) := by rw [World.cell?_alloc_new]; rfl
  have q2 : (w.alloc (.cells #[.int .i64 8, .string nm, .int .u32 (n : Int), .string ad] 40)).cell? ⟨w.heap.size, 2, none⟩ = some (.int .u32 (n : Int)) := by rw [World.cell?_alloc_new]; rfl
  have q3 : (w.alloc (.cells #[.int .i64 8, .string nm, .int .u32 (n : Int), .string ad] 40)).cell? ⟨w.heap.size, 3, none⟩ = some (.string ad) := by rw [World.cell?_alloc_new]; rfl
  clear he
  go_enter Tryz.func47, Tryz.ntmps47
  go_wp2_with fail
  refine (HF.out _ HP.out).mono ?_
  rintro e w5 ⟨rfl, hb5⟩
  have p0 := below_cell hb5 q0
  have p1 := below_cell hb5 q1
  have p2 := below_cell hb5 q2
  have p3 := below_cell hb5 q3
  have HB5 : Hid (Below w.heap.size w w5) := HB.out.trans (hb5.mono HB.out.size)
  clear hb5 q0 q1 q2 q3 HB HP HF
  go_wp2
  go_ret
  exact ⟨rfl, HB5.out⟩
set_option maxHeartbeats 600000 in
theorem rat7 (n : Nat) (ad : ByteArray) (v : List UInt8) (hl : v.length ≤ 40) (hn : n < 4294967296) (w : World) (he : EnvX w) : Calls Tryz.prog 47 #[.agg #[.int .i64 7, .string ⟨v.toArray⟩, .int .u32 (n : Int), .string ad]] w fun e w' => e = .returned (.string ⟨([100, 101, 108, 32] ++ v).toArray⟩) ∧ Below w.heap.size w w' := by
  have hdl : (Lib.decDigits n).length ≤ 10 := dig_ten n hn
  have HF : Hid (∀ X, PowAt X → Calls Tryz.prog 84 #[.int .u64 (n : Int), .int .i64 10] X fun e w' => e = .returned (.string ⟨(Lib.decDigits n).toArray⟩) ∧ Below X.heap.size X w') := fun X hp => fmt_any n (by omega) X hp
  have hw : IntKind.u64.wrap (n : Int) = n := by rw [IntKind.wrap_u64]; omega
  have hwi : IntKind.i64.wrap (n : Int) = n := by rw [IntKind.wrap_i64]; omega
  generalize Lib.decDigits n = d at *
  have a1 : ∀ W, (Op.stringOp .add (⟨#[100, 101, 108, 32]⟩ : ByteArray) ⟨v.toArray⟩).run Tryz.prog W = .ok (.string ⟨([100, 101, 108, 32] ++ v).toArray⟩) W := fun W => add_l [100, 101, 108, 32] v (by simp; omega) W
  generalize [100, 101, 108, 32] ++ v = x at *
  have HB : Hid (Below _ _ _) := below_box w (.cells #[.int .i64 7, .string ⟨v.toArray⟩, .int .u32 (n : Int), .string ad] 40)
  have HP : Hid (PowAt (w.alloc (.cells #[.int .i64 7, .string ⟨v.toArray⟩, .int .u32 (n : Int), .string ad] 40))) := (he.below HB.out).e.p
  have q0 : (w.alloc (.cells #[.int .i64 7, .string ⟨v.toArray⟩, .int .u32 (n : Int), .string ad] 40)).cell? ⟨w.heap.size, 0, none⟩ = some (.int .i64 7) := by rw [World.cell?_alloc_new]; rfl
  have q1 : (w.alloc (.cells #[.int .i64 7, .string ⟨v.toArray⟩, .int .u32 (n : Int), .string ad] 40)).cell? ⟨w.heap.size, 1, none⟩ = some (.string ⟨v.toArray⟩) := by rw [World.cell?_alloc_new]; rfl
  have q2 : (w.alloc (.cells #[.int .i64 7, .string ⟨v.toArray⟩, .int .u32 (n : Int), .string ad] 40)).cell? ⟨w.heap.size, 2, none⟩ = some (.int .u32 (n : Int)) := by rw [World.cell?_alloc_new]; rfl
  have q3 : (w.alloc (.cells #[.int .i64 7, .string ⟨v.toArray⟩, .int .u32 (n : Int), .string ad] 40)).cell? ⟨w.heap.size, 3, none⟩ = some (.string ad) := by rw [World.cell?_alloc_new]; rfl
  clear he
  go_enter Tryz.func47, Tryz.ntmps47
  go_wp2_with fail
  refine (HF.out _ HP.out).mono ?_
  rintro e w5 ⟨rfl, hb5⟩
  have p0 := below_cell hb5 q0
  have p1 := below_cell hb5 q1
  have p2 := below_cell hb5 q2
  have p3 := below_cell hb5 q3
  have HB5 : Hid (Below w.heap.size w w5) := HB.out.trans (hb5.mono HB.out.size)
  clear hb5 q0 q1 q2 q3 HB HP HF
  go_wp2
  go_ret
  exact ⟨rfl, HB5.out⟩
set_option maxHeartbeats 600000 in
theorem rat6 (nm : ByteArray) (n : Nat) (ad : ByteArray) (v : List UInt8) (hl : v.length ≤ 40) (hn : n < 4294967296) (w : World) (he : EnvX w) (HV : Hid (∀ X, Calls Tryz.prog 85 #[.int .u32 (n : Int)] X fun e w' => e = .returned (.string ⟨v.toArray⟩) ∧ Below X.heap.size X w')) : Calls Tryz.prog 47 #[.agg #[.int .i64 6, .string nm, .int .u32 (n : Int), .string ad]] w fun e w' => e = .returned (.string ⟨([97, 100, 100, 32] ++ v).toArray⟩) ∧ Below w.heap.size w w' := by
  have hdl : (Lib.decDigits n).length ≤ 10 := dig_ten n hn
  have HF : Hid (∀ X, PowAt X → Calls Tryz.prog 84 #[.int .u64 (n : Int), .int .i64 10] X fun e w' => e = .returned (.string ⟨(Lib.decDigits n).toArray⟩) ∧ Below X.heap.size X w') := fun X hp => fmt_any n (by omega) X hp
  have hw : IntKind.u64.wrap (n : Int) = n := by rw [IntKind.wrap_u64]; omega
  have hwi : IntKind.i64.wrap (n : Int) = n := by rw [IntKind.wrap_i64]; omega
  generalize Lib.decDigits n = d at *
  have a1 : ∀ W, (Op.stringOp .add (⟨#[97, 100, 100, 32]⟩ : ByteArray) ⟨v.toArray⟩).run Tryz.prog W = .ok (.string ⟨([97, 100, 100, 32] ++ v).toArray⟩) W := fun W => add_l [97, 100, 100, 32] v (by simp; omega) W
  generalize [97, 100, 100, 32] ++ v = x at *
  have HB : Hid (Below _ _ _) := below_box w (.cells #[.int .i64 6, .string nm, .int .u32 (n : Int), .string ad] 40)
  have HP : Hid (PowAt (w.alloc (.cells #[.int .i64 6, .string nm, .int .u32 (n : Int), .string ad] 40))) := (he.below HB.out).e.p
  have q0 : (w.alloc (.cells #[.int .i64 6, .string nm, .int .u32 (n : Int), .string ad] 40)).cell? ⟨w.heap.size, 0, none⟩ = some (.int .i64 6) := by rw [World.cell?_alloc_new]; rfl
  have q1 : (w.alloc (.cells #[.int .i64 6, .string nm, .int .u32 (n : Int), .string ad] 40)).cell? ⟨w.heap.size, 1, none⟩ = some (.string nm) := by rw [World.cell?_alloc_new]; rfl
  have q2 : (w.alloc (.cells #[.int .i64 6, .string nm, .int .u32 (n : Int), .string ad] 40)).cell? ⟨w.heap.size, 2, none⟩ = some (.int .u32 (n : Int)) := by rw [World.cell?_alloc_new]; rfl
  have q3 : (w.alloc (.cells #[.int .i64 6, .string nm, .int .u32 (n : Int), .string ad] 40)).cell? ⟨w.heap.size, 3, none⟩ = some (.string ad) := by rw [World.cell?_alloc_new]; rfl
  clear he
  go_enter Tryz.func47, Tryz.ntmps47
  go_wp2_with fail
  refine (HF.out _ HP.out).mono ?_
  rintro e w5 ⟨rfl, hb5⟩
  have p0 := below_cell hb5 q0
  have p1 := below_cell hb5 q1
  have p2 := below_cell hb5 q2
  have p3 := below_cell hb5 q3
  have HB5 : Hid (Below w.heap.size w w5) := HB.out.trans (hb5.mono HB.out.size)
  clear hb5 q0 q1 q2 q3 HB HP HF
  go_wp2_with fail
  refine (HV.out _).mono ?_
  rintro e w6 ⟨rfl, hb6⟩
  have HB6 : Hid (Below w.heap.size w w6) := HB5.out.trans (hb6.mono HB5.out.size)
  clear hb6
  go_wp2
  go_ret
  exact ⟨rfl, HB6.out⟩
set_option maxHeartbeats 600000 in
theorem rat9 (nm : ByteArray) (n : Nat) (ad : ByteArray) (v : List UInt8) (hl : v.length ≤ 40) (hn : n < 4294967296) (w : World) (he : EnvX w) (HV : Hid (∀ X, Calls Tryz.prog 86 #[.string ad] X fun e w' => e = .returned (.tuple #[.string ⟨v.toArray⟩, .int .i64 0]) ∧ Below X.heap.size X w')) : Calls Tryz.prog 47 #[.agg #[.int .i64 9, .string nm, .int .u32 (n : Int), .string ad]] w fun e w' => e = .returned (.string ⟨([110, 101, 120, 116, 32] ++ v).toArray⟩) ∧ Below w.heap.size w w' := by
  have hdl : (Lib.decDigits n).length ≤ 10 := dig_ten n hn
  have HF : Hid (∀ X, PowAt X → Calls Tryz.prog 84 #[.int .u64 (n : Int), .int .i64 10] X fun e w' => e = .returned (.string ⟨(Lib.decDigits n).toArray⟩) ∧ Below X.heap.size X w') := fun X hp => fmt_any n (by omega) X hp
  have hw : IntKind.u64.wrap (n : Int) = n := by rw [IntKind.wrap_u64]; omega
  have hwi : IntKind.i64.wrap (n : Int) = n := by rw [IntKind.wrap_i64]; omega
  generalize Lib.decDigits n = d at *
  have a1 : ∀ W, (Op.stringOp .add (⟨#[110, 101, 120, 116, 32]⟩ : ByteArray) ⟨v.toArray⟩).run Tryz.prog W = .ok (.string ⟨([110, 101, 120, 116, 32] ++ v).toArray⟩) W := fun W => add_l [110, 101, 120, 116, 32] v (by simp; omega) W
  generalize [110, 101, 120, 116, 32] ++ v = x at *
  have HB : Hid (Below _ _ _) := below_box w (.cells #[.int .i64 9, .string nm, .int .u32 (n : Int), .string ad] 40)
  have HP : Hid (PowAt (w.alloc (.cells #[.int .i64 9, .string nm, .int .u32 (n : Int), .string ad] 40))) := (he.below HB.out).e.p
  have q0 : (w.alloc (.cells #[.int .i64 9, .string nm, .int .u32 (n : Int), .string ad] 40)).cell? ⟨w.heap.size, 0, none⟩ = some (.int .i64 9) := by rw [World.cell?_alloc_new]; rfl
  have q1 : (w.alloc (.cells #[.int .i64 9, .string nm, .int .u32 (n : Int), .string ad] 40)).cell? ⟨w.heap.size, 1, none⟩ = some (.string nm) := by rw [World.cell?_alloc_new]; rfl
  have q2 : (w.alloc (.cells #[.int .i64 9, .string nm, .int .u32 (n : Int), .string ad] 40)).cell? ⟨w.heap.size, 2, none⟩ = some (.int .u32 (n : Int)) := by rw [World.cell?_alloc_new]; rfl
  have q3 : (w.alloc (.cells #[.int .i64 9, .string nm, .int .u32 (n : Int), .string ad] 40)).cell? ⟨w.heap.size, 3, none⟩ = some (.string ad) := by rw [World.cell?_alloc_new]; rfl
  clear he
  go_enter Tryz.func47, Tryz.ntmps47
  go_wp2_with fail
  refine (HF.out _ HP.out).mono ?_
  rintro e w5 ⟨rfl, hb5⟩
  have p0 := below_cell hb5 q0
  have p1 := below_cell hb5 q1
  have p2 := below_cell hb5 q2
  have p3 := below_cell hb5 q3
  have HB5 : Hid (Below w.heap.size w w5) := HB.out.trans (hb5.mono HB.out.size)
  clear hb5 q0 q1 q2 q3 HB HP HF
  go_wp2_with fail
  refine (HV.out _).mono ?_
  rintro e w6 ⟨rfl, hb6⟩
  have HB6 : Hid (Below w.heap.size w w6) := HB5.out.trans (hb6.mono HB5.out.size)
  clear hb6
  go_wp2
  go_ret
  exact ⟨rfl, HB6.out⟩
set_option maxHeartbeats 600000 in
theorem rat10 (nm : ByteArray) (n : Nat) (ad : ByteArray) (v : List UInt8) (hl : v.length ≤ 40) (hn : n < 4294967296) (w : World) (he : EnvX w) (HV : Hid (∀ X, Calls Tryz.prog 81 #[.int .i64 (n : Int)] X fun e w' => e = .returned (.string ⟨v.toArray⟩) ∧ Below X.heap.size X w')) : Calls Tryz.prog 47 #[.agg #[.int .i64 10, .string nm, .int .u32 (n : Int), .string ad]] w fun e w' => e = .returned (.string ⟨([111, 114, 105, 103, 105, 110, 32] ++ v).toArray⟩) ∧ Below w.heap.size w w' := by
  have hdl : (Lib.decDigits n).length ≤ 10 := dig_ten n hn
  have HF : Hid (∀ X, PowAt X → Calls Tryz.prog 84 #[.int .u64 (n : Int), .int .i64 10] X fun e w' => e = .returned (.string ⟨(Lib.decDigits n).toArray⟩) ∧ Below X.heap.size X w') := fun X hp => fmt_any n (by omega) X hp
  have hw : IntKind.u64.wrap (n : Int) = n := by rw [IntKind.wrap_u64]; omega
  have hwi : IntKind.i64.wrap (n : Int) = n := by rw [IntKind.wrap_i64]; omega
  generalize Lib.decDigits n = d at *
  have a1 : ∀ W, (Op.stringOp .add (⟨#[111, 114, 105, 103, 105, 110, 32]⟩ : ByteArray) ⟨v.toArray⟩).run Tryz.prog W = .ok (.string ⟨([111, 114, 105, 103, 105, 110, 32] ++ v).toArray⟩) W := fun W => add_l [111, 114, 105, 103, 105, 110, 32] v (by simp; omega) W
  generalize [111, 114, 105, 103, 105, 110, 32] ++ v = x at *
  have HB : Hid (Below _ _ _) := below_box w (.cells #[.int .i64 10, .string nm, .int .u32 (n : Int), .string ad] 40)
  have HP : Hid (PowAt (w.alloc (.cells #[.int .i64 10, .string nm, .int .u32 (n : Int), .string ad] 40))) := (he.below HB.out).e.p
  have q0 : (w.alloc (.cells #[.int .i64 10, .string nm, .int .u32 (n : Int), .string ad] 40)).cell? ⟨w.heap.size, 0, none⟩ = some (.int .i64 10) := by rw [World.cell?_alloc_new]; rfl
  have q1 : (w.alloc (.cells #[.int .i64 10, .string nm, .int .u32 (n : Int), .string ad] 40)).cell? ⟨w.heap.size, 1, none⟩ = some (.string nm) := by rw [World.cell?_alloc_new]; rfl
  have q2 : (w.alloc (.cells #[.int .i64 10, .string nm, .int .u32 (n : Int), .string ad] 40)).cell? ⟨w.heap.size, 2, none⟩ = some (.int .u32 (n : Int)) := by rw [World.cell?_alloc_new]; rfl
  have q3 : (w.alloc (.cells #[.int .i64 10, .string nm, .int .u32 (n : Int), .string ad] 40)).cell? ⟨w.heap.size, 3, none⟩ = some (.string ad) := by rw [World.cell?_alloc_new]; rfl
  clear he
  go_enter Tryz.func47, Tryz.ntmps47
  go_wp2_with fail
  refine (HF.out _ HP.out).mono ?_
  rintro e w5 ⟨rfl, hb5⟩
  have p0 := below_cell hb5 q0
  have p1 := below_cell hb5 q1
  have p2 := below_cell hb5 q2
  have p3 := below_cell hb5 q3
  have HB5 : Hid (Below w.heap.size w w5) := HB.out.trans (hb5.mono HB.out.size)
  clear hb5 q0 q1 q2 q3 HB HP HF
  go_wp2_with fail
  refine (HV.out _).mono ?_
  rintro e w6 ⟨rfl, hb6⟩
  have HB6 : Hid (Below w.heap.size w w6) := HB5.out.trans (hb6.mono HB5.out.size)
  clear hb6
  go_wp2
  go_ret
  exact ⟨rfl, HB6.out⟩
theorem dec_ne (u : Nat) : Lib.decDigits u ≠ [] := by rw [Lib.decDigits]; split <;> simp
theorem comT_ne (c : Nat) : comT c ≠ [] := by
  unfold comT
  split
  · simp
  split
  · simp
  split
  · simp
  · simp
theorem adT_ne (s : ByteArray) (h : s.size = 4 ∨ s.size = 16) : adT s ≠ [] := by
  intro e
  have hl : (adT s).length = 0 := by rw [e]; rfl
  unfold adT at hl
  rcases h with h | h
  · rw [if_pos h] at hl
    have h4 : ∃ x y r, (nums4 s).map (·.data.toList) = x :: y :: r := ⟨_, _, _, rfl⟩
    obtain ⟨x, y, r, hx⟩ := h4
    rw [hx, Lib.join_length] at hl
    simp at hl
  · rw [if_neg (by omega), if_pos h] at hl
    have h4 : ∃ x y r, (nums16 s).map (·.data.toList) = x :: y :: r := ⟨_, _, _, rfl⟩
    obtain ⟨x, y, r, hx⟩ := h4
    rw [hx, Lib.join_length] at hl
    simp at hl
theorem aT_with (a : Ac) (v : List UInt8) (hv : avT a = v) (hne : v ≠ []) : aT a = awL.getD a.k.toNat [] ++ ([32] ++ v) := by
  unfold aT; rw [hv, if_neg hne]
theorem aT_bare (a : Ac) (hv : avT a = []) : aT a = awL.getD a.k.toNat [] := by
  unfold aT; rw [hv, if_pos rfl, List.append_nil]
theorem ow_ne (m : Nat) (h : m ≤ 2) : owL.getD m [] ≠ [] := by
  rcases (show m = 0 ∨ m = 1 ∨ m = 2 by omega) with rfl | rfl | rfl <;> simp [owL]
theorem name_ne {s : ByteArray} (h : nameB s = true) : s.data.toList ≠ [] := by
  intro e
  have hz : s.size = 0 := by
    show s.data.size = 0
    rw [← Array.length_toList, e]; rfl
  unfold nameB at h
  simp [hz] at h
theorem ractionText_any (a : Ac) (hok : okA' a = true) (hn : a.n < 4294967296) (w : World) (he : EnvX w) : Calls Tryz.prog 47 #[acV a] w fun e w' => e = .returned (.string ⟨(aT a).toArray⟩) ∧ Below w.heap.size w w' := by
  have hvl := avT_len a hok hn
  have hk := ok_acts hok
  obtain ⟨k, nm, n, ad⟩ := a
  dsimp only at hk hn
  rcases hk with ⟨h, h1, h2, h3⟩ | ⟨h, h1, h2⟩ | ⟨rfl, h1, h2, h3⟩ | ⟨rfl, h1, h2, h3, h4⟩ | ⟨rfl, h1, h2, h3⟩ | ⟨rfl, h1, h2, h3⟩
  · rcases h with rfl | rfl | rfl
    · rw [aT_bare ⟨1, nm, n, ad⟩ h1]; exact (rat1 nm n ad hn w he).mono fun _ _ h => h
    · rw [aT_bare ⟨2, nm, n, ad⟩ h1]; exact (rat2 nm n ad hn w he).mono fun _ _ h => h
    · rw [aT_bare ⟨5, nm, n, ad⟩ h1]; exact (rat5 nm n ad hn w he).mono fun _ _ h => h
  · rcases h with rfl | rfl | rfl
    · rw [aT_with ⟨3, nm, n, ad⟩ _ rfl (dec_ne n)]; exact (rat3 nm n ad hn w he).mono fun _ _ h => h
    · rw [aT_with ⟨4, nm, n, ad⟩ _ rfl (dec_ne n)]; exact (rat4 nm n ad hn w he).mono fun _ _ h => h
    · rw [aT_with ⟨6, nm, n, ad⟩ _ rfl (comT_ne n)]; exact (rat6 nm n ad _ hvl hn w he (fun X => rcom_any n hn X)).mono fun _ _ h => h
  · obtain ⟨l, rfl⟩ : ∃ l : List UInt8, nm = ⟨l.toArray⟩ := ⟨nm.data.toList, (bytes_eta nm).symm⟩
    rw [aT_with ⟨7, ⟨l.toArray⟩, n, ad⟩ l rfl (name_ne h3)]; exact (rat7 n ad l hvl hn w he).mono fun _ _ h => h
  · rw [aT_with ⟨8, nm, n, ad⟩ _ rfl (dec_ne n)]; exact (rat8 nm n ad hn w he).mono fun _ _ h => h
  · have hs : ad.size = 4 ∨ ad.size = 16 := by unfold isAd at h3; exact of_decide_eq_true h3
    rw [aT_with ⟨9, nm, n, ad⟩ _ rfl (adT_ne ad hs)]
    exact (rat9 nm n ad _ hvl hn w he (fun X => by rcases hs with h | h; exact raddr4 ad h X; exact raddr16 ad h X)).mono fun _ _ h => h
  · rw [aT_with ⟨10, nm, n, ad⟩ _ rfl (ow_ne n h3)]; exact (rat10 nm n ad _ hvl hn w he (fun X => rorigin n h3 X)).mono fun _ _ h => h
/-- Do all actions from the k-th on serve? -/
def gnL (L : List Ac) : Bool := L.all okA' && L.dropLast.all goB
theorem gnL_last (a : Ac) : gnL [a] = okA' a := by unfold gnL; simp
theorem gnL_cons (a b : Ac) (L : List Ac) : gnL (a :: b :: L) = (okA' a && goB a && gnL (b :: L)) := by
  unfold gnL
  rw [List.all_cons, List.dropLast_cons_cons, List.all_cons]
  cases okA' a <;> cases hg : goB a <;> simp [hg]
theorem gnL_step (L : List Ac) (k : Nat) (h : k < L.length) : gnL (L.drop k) = (okA' L[k] && (decide (k = L.length - 1) || (goB L[k] && gnL (L.drop (k + 1))))) := by
  rw [List.drop_eq_getElem_cons h]
  by_cases hl : k = L.length - 1
  · rw [List.drop_eq_nil_of_le (by omega), gnL_last, decide_eq_true hl]; simp
  · rw [decide_eq_false hl]
    have h2 : k + 1 < L.length := by omega
    rw [List.drop_eq_getElem_cons h2, gnL_cons]
    simp [Bool.and_assoc]
set_option maxHeartbeats 2000000 in
theorem rmayTerm_any (v : Value) (T : Tm) (w : World) (hv : TmAt w v T) (hs : SmT T) : Calls Tryz.prog 45 #[v] w fun e w' => e = .returned (.bool (okT T)) ∧ Below w.heap.size w w' := by
  obtain ⟨vc, va, rfl, hc, ha⟩ := hv
  obtain ⟨cs, acs⟩ := T
  dsimp only at hc ha
  have HREF : Hid (okT ⟨cs, acs⟩ = (decide (cs.length ≤ 64 ∧ 1 ≤ acs.length ∧ acs.length ≤ 64) && (cs.all okC && (acs.all okA' && acs.dropLast.all goB)))) := rfl
  obtain ⟨adc, bc, oc, capc, rfl, hadc, hcapc, hrc⟩ := hc
  obtain ⟨ada, ba, oa, capa, rfl, hada, hcapa, hra⟩ := ha
  have HB : Hid (Below _ _ _) := below_box w (.cells #[.slice adc cs.length capc, .slice ada acs.length capa] 63)
  have HX : Hid (∀ X, Below (w.alloc (.cells #[.slice adc cs.length capc, .slice ada acs.length capa] 63)).heap.size (w.alloc (.cells #[.slice adc cs.length capc, .slice ada acs.length capa] 63)) X → X.cell? ⟨w.heap.size, 0, none⟩ = some (.slice adc cs.length capc) ∧ X.cell? ⟨w.heap.size, 1, none⟩ = some (.slice ada acs.length capa)) := fun X hX => ⟨below_cell hX (by rw [World.cell?_alloc_new]; rfl), below_cell hX (by rw [World.cell?_alloc_new]; rfl)⟩
  generalize okT ⟨cs, acs⟩ = r at *
  have l1 := hs.lc
  have l2 := hs.la
  dsimp only at l1 l2
  by_cases h : cs.length ≤ 64 ∧ 1 ≤ acs.length ∧ acs.length ≤ 64
  · rw [decide_eq_true h, Bool.true_and] at HREF
    have HK : Hid (∀ k (hk : k < cs.length) X, Calls Tryz.prog 79 #[.agg #[.int .i64 cs[k].k, .bool cs[k].nt, .string cs[k].nm, .int .i64 cs[k].n]] X fun e w' => e = .returned (.bool (okC cs[k])) ∧ Below X.heap.size X w') := fun k hk X => rcond_any cs[k] X (hs.c _ (List.getElem_mem hk))
    have HL : Hid (∀ k (hk : k < acs.length) X, Calls Tryz.prog 80 #[.agg #[.int .i64 acs[k].k, .string acs[k].nm, .int .u32 (acs[k].n : Int), .string acs[k].ad]] X fun e w' => e = .returned (.bool (okA' acs[k])) ∧ Below X.heap.size X w') := fun k hk X => raction_any acs[k] X (hs.a _ (List.getElem_mem hk)).1 (hs.a _ (List.getElem_mem hk)).2
    have HREF2 : Hid (r = (cs.all okC && gnL acs)) := HREF.out
    have HRC : Hid (_ : Prop) := hrc
    have HRA : Hid (_ : Prop) := hra
    obtain ⟨j, hj⟩ : ∃ j, acs.length = j + 1 := ⟨acs.length - 1, by omega⟩
    obtain ⟨n, hn⟩ : ∃ n, cs.length = n := ⟨_, rfl⟩
    have HJ : Hid (acs.length = j + 1) := hj
    have HN : Hid (cs.length = n) := hn
    have HST : Hid (∀ k (hk : k < acs.length), gnL (acs.drop k) = (okA' acs[k] && (decide (k = acs.length - 1) || (goB acs[k] && gnL (acs.drop (k + 1)))))) := fun k hk => gnL_step acs k hk
    have HZ : Hid (∃ z, gnL acs = z) := ⟨_, rfl⟩
    rw [hj] at HB HX hada hcapa h ⊢
    rw [hn] at HB HX hadc hcapc h ⊢
    clear hrc hra hs HREF l1 l2 hj hn
    have q1 : ¬ (64 : Int) < (n : Int) := by omega
    have q2 : ¬ (64 : Int) < (j : Int) + 1 := by omega
    have q3 : ¬ (j : Int) + 1 < 1 := by omega
    have q4 : (j : Int) < 64 := by omega
    have q5 : (n : Int) ≤ 64 := by omega
    have hj64 : j < 64 := by omega
    have hn64 : n ≤ 64 := by omega
    clear h
    go_enter Tryz.func45, Tryz.ntmps45
    go_wp2
    generalize w.alloc (.cells #[.slice adc n capc, .slice ada (j + 1) capa] 63) = W1 at *
    go_loopw [3] (fun i wr => ∃ (k : Nat), k ≤ n ∧ i = .int .i64 k ∧ Below W1.heap.size W1 wr ∧ r = ((cs.drop k).all okC && gnL acs)) (fun i _ => n - (intOf i).toNat)
    case atStart => exact ⟨0, Nat.zero_le _, rfl, Below.refl _ _, HREF2.out⟩
    case round =>
      obtain ⟨k, hk, rfl, hbw, hr⟩ := hrel
      have HBW : Hid (Below W1.heap.size W1 wr) := hbw
      have HWw : Hid (Below w.heap.size w wr) := HB.out.trans (hbw.mono HB.out.size)
      have HR : Hid (r = _) := hr
      obtain ⟨p0, p1⟩ := HX.out wr hbw
      clear hbw hr HREF2
      by_cases hlt : k < n
      · obtain rfl : adc = some ⟨bc, oc, none⟩ := by
          rcases hadc with h | h
          · exact h
          · omega
        have hlt' : (k : Int) < (n : Int) := by omega
        have k1 : k < cs.length := by rw [HN.out]; exact hlt
        have c0 := below_cell HWw.out (HRC.out k k1).1
        have c1 := below_cell HWw.out (HRC.out k k1).2.1
        have c2 := below_cell HWw.out (HRC.out k k1).2.2.1
        have c3 := below_cell HWw.out (HRC.out k k1).2.2.2
        have HKk : Hid (_ : Prop) := HK.out k k1
        have HR2 : Hid (r = (okC cs[k] && ((cs.drop (k + 1)).all okC && gnL acs))) := by
          unfold Hid
          rw [HR.out, List.drop_eq_getElem_cons k1, List.all_cons, Bool.and_assoc]
        clear HR
        generalize okC cs[k] = q at *
        generalize cs[k].k = xk at *
        generalize cs[k].nt = xnt at *
        generalize cs[k].nm = xnm at *
        generalize cs[k].n = xn at *
        clear k1
        cases q
        · go_wp2_with fail
          refine Calls.mono (HKk.out _) ?_
          rintro e w2 ⟨rfl, hb2⟩
          go_wp2
          go_ret
          exact ⟨ret_bool HR2.out.symm, HWw.out.trans (hb2.mono HWw.out.size)⟩
        · go_wp2_with fail
          refine Calls.mono (HKk.out _) ?_
          rintro e w2 ⟨rfl, hb2⟩
          go_wp2
          exact ⟨⟨k + 1, by omega, by go_num, HBW.out.trans (hb2.mono HBW.out.size), HR2.out⟩, by simp [intOf]; omega⟩
      · obtain rfl : k = n := by omega
        have HR2 : Hid (r = gnL acs) := by
          unfold Hid
          rw [HR.out, List.drop_eq_nil_of_le (by rw [HN.out]; exact Nat.le_refl _)]; rfl
        clear HR HRC HK hlt
        go_wp2
        go_loopw [4] (fun i wx => ∃ (k : Nat), k ≤ j + 1 ∧ i = .int .i64 k ∧ Below W1.heap.size W1 wx ∧ r = (decide (k = j + 1) || gnL (acs.drop k))) (fun i _ => j + 1 - (intOf i).toNat)
        case atStart => exact ⟨0, Nat.zero_le _, rfl, HBW.out, by rw [HR2.out]; simp⟩
        case round =>
          obtain ⟨i, hi, rfl, hbx, hr⟩ := hrel
          have HBX : Hid (Below W1.heap.size W1 wr) := hbx
          have HWx : Hid (Below w.heap.size w wr) := HB.out.trans (hbx.mono HB.out.size)
          have HR : Hid (r = _) := hr
          clear p0 p1
          obtain ⟨p0, p1⟩ := HX.out wr hbx
          clear hbx hr HR2
          by_cases hlt : i < j + 1
          · obtain rfl : ada = some ⟨ba, oa, none⟩ := by
              rcases hada with h | h
              · exact h
              · omega
            have hlt' : (i : Int) < (j : Int) + 1 := by omega
            have k1 : i < acs.length := by rw [HJ.out]; exact hlt
            have c0 := below_cell HWx.out (HRA.out i k1).1
            have c1 := below_cell HWx.out (HRA.out i k1).2.1
            have c2 := below_cell HWx.out (HRA.out i k1).2.2.1
            have c3 := below_cell HWx.out (HRA.out i k1).2.2.2
            have HLk : Hid (_ : Prop) := HL.out i k1
            have HR3 : Hid (r = (okA' acs[i] && (decide (i = j) || (goB acs[i] && gnL (acs.drop (i + 1)))))) := by
              unfold Hid
              rw [HR.out, decide_eq_false (by omega), Bool.false_or, HST.out i k1, HJ.out, Nat.add_sub_cancel]
            have HG : Hid (goB acs[i] = (!(acs[i].k == 1) && !(acs[i].k == 2))) := rfl
            clear HR
            generalize goB acs[i] = g at *
            generalize okA' acs[i] = q at *
            generalize acs[i].k = xk at *
            generalize acs[i].nm = xnm at *
            generalize acs[i].n = xn at *
            generalize acs[i].ad = xad at *
            have HA : Hid (∀ A, Below wr.heap.size wr (wr.alloc (.cells A 40))) := fun A => (Below.refl _ _).alloc (Nat.le_refl _) _
            have HC : Hid (∀ X, Below (wr.alloc (.cells #[.int .i64 xk, .string xnm, .int .u32 (xn : Int), .string xad] 40)).heap.size (wr.alloc (.cells #[.int .i64 xk, .string xnm, .int .u32 (xn : Int), .string xad] 40)) X → X.cell? ⟨wr.heap.size, 0, none⟩ = some (.int .i64 xk)) := fun X hX => below_cell hX (by rw [World.cell?_alloc_new]; rfl)
            have p2 : (wr.alloc (.cells #[.int .i64 xk, .string xnm, .int .u32 (xn : Int), .string xad] 40)).cell? ⟨w.heap.size, 1, none⟩ = some (.slice (some ⟨ba, oa, none⟩) (j + 1) capa) := below_cell (HA.out _) p1
            clear k1
            cases q
            · go_wp2_with fail
              refine Calls.mono (HLk.out _) ?_
              rintro e w2 ⟨rfl, hb2⟩
              have e0 := HC.out _ hb2
              have HB2 : Hid (Below w.heap.size w w2) := (HWx.out.trans ((HA.out _).mono HWx.out.size)).trans (hb2.mono (Nat.le_trans HWx.out.size (HA.out _).size))
              have HB3 : Hid (Below W1.heap.size W1 w2) := (HBX.out.trans ((HA.out _).mono HBX.out.size)).trans (hb2.mono (Nat.le_trans HBX.out.size (HA.out _).size))
              clear hb2
              go_wp2
              go_ret
              exact ⟨ret_bool HR3.out.symm, HB2.out⟩
            · by_cases hl : i = j
              · have hl' : ((i : Int) == (j : Int)) = true := by simp; omega
                rw [decide_eq_true hl] at HR3
                have HLJ : Hid (i = j) := hl
                clear hl
                go_wp2_with fail
                refine Calls.mono (HLk.out _) ?_
                rintro e w2 ⟨rfl, hb2⟩
                have e0 := HC.out _ hb2
                have HB2 : Hid (Below w.heap.size w w2) := (HWx.out.trans ((HA.out _).mono HWx.out.size)).trans (hb2.mono (Nat.le_trans HWx.out.size (HA.out _).size))
                have HB3 : Hid (Below W1.heap.size W1 w2) := (HBX.out.trans ((HA.out _).mono HBX.out.size)).trans (hb2.mono (Nat.le_trans HBX.out.size (HA.out _).size))
                clear hb2
                go_wp2
                exact ⟨⟨i + 1, by omega, by go_num, HB3.out, by rw [decide_eq_true (by rw [HLJ.out])]; exact HR3.out⟩, by simp [intOf]; omega⟩
              · have hl' : ((i : Int) == (j : Int)) = false := by simp; omega
                rw [decide_eq_false hl, Bool.false_or, Bool.true_and] at HR3
                cases b1 : (xk == 1)
                · cases b2 : (xk == 2)
                  · rw [b1, b2] at HG
                    go_wp2_with fail
                    refine Calls.mono (HLk.out _) ?_
                    rintro e w2 ⟨rfl, hb2⟩
                    have e0 := HC.out _ hb2
                    have HB2 : Hid (Below w.heap.size w w2) := (HWx.out.trans ((HA.out _).mono HWx.out.size)).trans (hb2.mono (Nat.le_trans HWx.out.size (HA.out _).size))
                    have HB3 : Hid (Below W1.heap.size W1 w2) := (HBX.out.trans ((HA.out _).mono HBX.out.size)).trans (hb2.mono (Nat.le_trans HBX.out.size (HA.out _).size))
                    clear hb2
                    go_wp2
                    exact ⟨⟨i + 1, by omega, by go_num, HB3.out, by rw [decide_eq_false (by omega), HR3.out, HG.out]; rfl⟩, by simp [intOf]; omega⟩
                  · rw [b1, b2] at HG
                    go_wp2_with fail
                    refine Calls.mono (HLk.out _) ?_
                    rintro e w2 ⟨rfl, hb2⟩
                    have e0 := HC.out _ hb2
                    have HB2 : Hid (Below w.heap.size w w2) := (HWx.out.trans ((HA.out _).mono HWx.out.size)).trans (hb2.mono (Nat.le_trans HWx.out.size (HA.out _).size))
                    have HB3 : Hid (Below W1.heap.size W1 w2) := (HBX.out.trans ((HA.out _).mono HBX.out.size)).trans (hb2.mono (Nat.le_trans HBX.out.size (HA.out _).size))
                    clear hb2
                    go_wp2
                    go_ret
                    exact ⟨ret_bool (by rw [HR3.out, HG.out]; rfl), HB2.out⟩
                · rw [b1] at HG
                  go_wp2_with fail
                  refine Calls.mono (HLk.out _) ?_
                  rintro e w2 ⟨rfl, hb2⟩
                  have e0 := HC.out _ hb2
                  have HB2 : Hid (Below w.heap.size w w2) := (HWx.out.trans ((HA.out _).mono HWx.out.size)).trans (hb2.mono (Nat.le_trans HWx.out.size (HA.out _).size))
                  have HB3 : Hid (Below W1.heap.size W1 w2) := (HBX.out.trans ((HA.out _).mono HBX.out.size)).trans (hb2.mono (Nat.le_trans HBX.out.size (HA.out _).size))
                  clear hb2
                  go_wp2
                  go_ret
                  exact ⟨ret_bool (by rw [HR3.out, HG.out]; rfl), HB2.out⟩
          · obtain rfl : i = j + 1 := by omega
            have HR3 : Hid (r = true) := by
              unfold Hid
              rw [HR.out, decide_eq_true rfl]; rfl
            go_wp2
            go_ret
            exact ⟨ret_bool HR3.out.symm, HWx.out⟩
  · rw [decide_eq_false h, Bool.false_and] at HREF
    clear hrc hra hs HX
    generalize cs.length = n at *
    generalize acs.length = m at *
    by_cases g1 : (64 : Int) < (n : Int)
    · go_enter Tryz.func45, Tryz.ntmps45
      go_wp2
      go_ret
      exact ⟨ret_bool HREF.out.symm, HB.out⟩
    · by_cases g2 : m = 0
      · subst g2
        go_enter Tryz.func45, Tryz.ntmps45
        go_wp2
        go_ret
        exact ⟨ret_bool HREF.out.symm, HB.out⟩
      · have g3 : (64 : Int) < (m : Int) := by omega
        have g4 : ¬ (m : Int) < 1 := by omega
        clear h g2
        go_enter Tryz.func45, Tryz.ntmps45
        go_wp2
        go_ret
        exact ⟨ret_bool HREF.out.symm, HB.out⟩
/-- The text of the first k conditions. -/
def tcT (xs : List (List UInt8)) (k : Nat) : List UInt8 := if k = 0 then [] else [105, 102, 32] ++ (pj xs andT k ++ [32])
theorem tc_first (xs : List (List UInt8)) (x : List UInt8) (h : xs[0]? = some x) : tcT xs (0 + 1) = [105, 102, 32] ++ x ++ [32] := by
  unfold tcT; rw [if_neg (by omega), pj_one xs andT x h]; simp
theorem tc_next (xs : List (List UInt8)) (x : List UInt8) (k : Nat) (hk : 1 ≤ k) (h : xs[k]? = some x) : tcT xs (k + 1) = tcT xs k ++ [97, 110, 100, 32] ++ x ++ [32] := by
  unfold tcT; rw [if_neg (by omega), if_neg (by omega), pj_succ xs andT k x hk h]; simp [andT, List.append_assoc]
theorem tc_len (xs : List (List UInt8)) (k : Nat) (h : ∀ x ∈ xs, x.length ≤ 48) (hl : xs.length ≤ 64) : (tcT xs k).length ≤ 5000 := by
  have := pj_len xs andT k 48 64 h hl
  unfold tcT
  split
  · simp
  · simp [andT] at this ⊢; omega
/-- .. and of the first k actions behind it. -/
def taT (P : List UInt8) (xs : List (List UInt8)) (k : Nat) : List UInt8 := if k = 0 then P else P ++ ([116, 104, 101, 110, 32] ++ pj xs andT k)
theorem ta_first (P : List UInt8) (xs : List (List UInt8)) (x : List UInt8) (h : xs[0]? = some x) : taT P xs (0 + 1) = P ++ [116, 104, 101, 110, 32] ++ x := by
  unfold taT; rw [if_neg (by omega), pj_one xs andT x h]; simp
theorem ta_next (P : List UInt8) (xs : List (List UInt8)) (x : List UInt8) (k : Nat) (hk : 1 ≤ k) (h : xs[k]? = some x) : taT P xs (k + 1) = taT P xs k ++ [32, 97, 110, 100, 32] ++ x := by
  unfold taT; rw [if_neg (by omega), if_neg (by omega), pj_succ xs andT k x hk h]; simp [andT, List.append_assoc]
theorem ta_len (P : List UInt8) (xs : List (List UInt8)) (k : Nat) (hP : P.length ≤ 5000) (h : ∀ x ∈ xs, x.length ≤ 48) (hl : xs.length ≤ 64) : (taT P xs k).length ≤ 10000 := by
  have := pj_len xs andT k 48 64 h hl
  unfold taT
  split
  · omega
  · simp [andT] at this ⊢; omega
theorem tT_is (T : Tm) (hm : 1 ≤ T.acs.length) : taT (tcT (T.cs.map cT) T.cs.length) (T.acs.map aT) T.acs.length = tT T := by
  unfold taT tT
  rw [if_neg (by omega), pj_all _ _ _ (by simp)]
  congr 1
  unfold tcT
  by_cases h : T.cs = []
  · rw [h]; simp
  · have := List.length_pos_iff.2 h
    rw [if_neg (by omega), if_neg h, pj_all _ _ _ (by simp)]
set_option maxHeartbeats 2000000 in
theorem rtermText_any (v : Value) (T : Tm) (w : World) (he : EnvX w) (hv : TmAt w v T) (hs : SmT T) (hna : ∀ a ∈ T.acs, a.n < 4294967296) : Calls Tryz.prog 21 #[v] w fun e w' => e = .returned (.tuple #[.string ⟨(ttS T).toArray⟩, .int .i64 (ttE T)]) ∧ Below w.heap.size w w' := by
  have HM : Hid (∀ X, Below w.heap.size w X → Calls Tryz.prog 45 #[v] X fun e w' => e = .returned (.bool (okT T)) ∧ Below X.heap.size X w') := fun X hX => rmayTerm_any v T X (hv.below hX) hs
  have HE1 : Hid (ttE T = if okT T then 0 else 2) := rfl
  have HE2 : Hid (ttS T = if okT T then tT T else []) := rfl
  have HO : Hid (okT T = true → _) := ok_term
  have HT : Hid (1 ≤ T.acs.length → taT (tcT (T.cs.map cT) T.cs.length) (T.acs.map aT) T.acs.length = tT T) := tT_is T
  obtain ⟨vc, va, rfl, hc, ha⟩ := hv
  obtain ⟨cs, acs⟩ := T
  dsimp only at hc ha HO HT hna
  obtain ⟨adc, bc, oc, capc, rfl, hadc, hcapc, hrc⟩ := hc
  obtain ⟨ada, ba, oa, capa, rfl, hada, hcapa, hra⟩ := ha
  have HB : Hid (Below _ _ _) := below_box w (.cells #[.slice adc cs.length capc, .slice ada acs.length capa] 63)
  have HX : Hid (∀ X, Below (w.alloc (.cells #[.slice adc cs.length capc, .slice ada acs.length capa] 63)).heap.size (w.alloc (.cells #[.slice adc cs.length capc, .slice ada acs.length capa] 63)) X → X.cell? ⟨w.heap.size, 0, none⟩ = some (.slice adc cs.length capc) ∧ X.cell? ⟨w.heap.size, 1, none⟩ = some (.slice ada acs.length capa)) := fun X hX => ⟨below_cell hX (by rw [World.cell?_alloc_new]; rfl), below_cell hX (by rw [World.cell?_alloc_new]; rfl)⟩
  generalize ttE ⟨cs, acs⟩ = re at *
  generalize ttS ⟨cs, acs⟩ = rs at *
  generalize tT ⟨cs, acs⟩ = tx at *
  cases hz : okT ⟨cs, acs⟩
  · rw [hz] at HM HE1 HE2
    clear hrc hra hs he HO HT hna HX
    generalize cs.length = n1 at *
    generalize acs.length = n2 at *
    go_enter Tryz.func21, Tryz.ntmps21
    go_wp2_with (go_at_call 45; refine Calls.mono (HM.out _ HB.out) ?_; rintro e w2 ⟨rfl, hb2⟩)
    go_ret2
    exact ⟨by rw [HE1.out, HE2.out]; rfl, HB.out.trans (hb2.mono HB.out.size)⟩
  · obtain ⟨o1, o2, o3, o4, o5, _⟩ := HO.out hz
    rw [hz] at HM
    have HE1 : Hid (re = 0) := HE1.out.trans (by rw [hz]; rfl)
    have HE2 : Hid (rs = tx) := HE2.out.trans (by rw [hz]; rfl)
    have HK : Hid (∀ k (hk : k < cs.length) X, Below w.heap.size w X → Calls Tryz.prog 46 #[.agg #[.int .i64 cs[k].k, .bool cs[k].nt, .string cs[k].nm, .int .i64 cs[k].n]] X fun e w' => e = .returned (.string ⟨(cT cs[k]).toArray⟩) ∧ Below X.heap.size X w') := fun k hk X hX => rcondText_any cs[k] (o4 _ (List.getElem_mem hk)) X (he.below hX)
    have HL : Hid (∀ k (hk : k < acs.length) X, Below w.heap.size w X → Calls Tryz.prog 47 #[.agg #[.int .i64 acs[k].k, .string acs[k].nm, .int .u32 (acs[k].n : Int), .string acs[k].ad]] X fun e w' => e = .returned (.string ⟨(aT acs[k]).toArray⟩) ∧ Below X.heap.size X w') := fun k hk X hX => ractionText_any acs[k] (o5 _ (List.getElem_mem hk)) (hna _ (List.getElem_mem hk)) X (he.below hX)
    have HXC : Hid (∀ k (hk : k < cs.length), (cs.map cT)[k]? = some (cT cs[k])) := fun k hk => by rw [List.getElem?_map, List.getElem?_eq_getElem hk]; rfl
    have HXA : Hid (∀ k (hk : k < acs.length), (acs.map aT)[k]? = some (aT acs[k])) := fun k hk => by rw [List.getElem?_map, List.getElem?_eq_getElem hk]; rfl
    have HCL : Hid (∀ c ∈ cs, (cT c).length ≤ 48) := fun c h => Nat.le_trans (cT_len c (o4 c h)) (by decide)
    have HAL : Hid (∀ a ∈ acs, (aT a).length ≤ 48) := fun a h => aT_len a (o5 a h) (hna a h)
    have HC5 : Hid (∀ k, (tcT (cs.map cT) k).length ≤ 5000) := fun k => tc_len _ k (fun x hx => by obtain ⟨a, ha, rfl⟩ := List.mem_map.1 hx; exact HCL.out a ha) (by rw [List.length_map]; exact o1)
    have HA5 : Hid (∀ k, (taT (tcT (cs.map cT) cs.length) (acs.map aT) k).length ≤ 10000) := fun k => ta_len _ _ k (HC5.out _) (fun x hx => by obtain ⟨a, ha, rfl⟩ := List.mem_map.1 hx; exact HAL.out a ha) (by rw [List.length_map]; exact o3)
    have HTT := HT.out o2
    have HRC : Hid (_ : Prop) := hrc
    have HRA : Hid (_ : Prop) := hra
    have HTx : Hid (_ = tx) := HTT
    obtain ⟨m, hm⟩ : ∃ m, acs.length = m := ⟨_, rfl⟩
    obtain ⟨n, hn⟩ : ∃ n, cs.length = n := ⟨_, rfl⟩
    have HJ : Hid (acs.length = m) := hm
    have HN : Hid (cs.length = n) := hn
    rw [hm] at HM HB HX hada hcapa o2 o3 HTx ⊢
    rw [hn] at HM HB HX hadc hcapc o1 HTx HA5 ⊢
    clear hrc hra hs he HO HT hna o4 o5 hz HTT hm hn
    obtain ⟨xs, hxs⟩ : ∃ xs, cs.map cT = xs := ⟨_, rfl⟩
    obtain ⟨ys, hys⟩ : ∃ ys, acs.map aT = ys := ⟨_, rfl⟩
    rw [hxs] at HXC HC5 HA5 HTx
    rw [hys] at HXA HA5 HTx
    clear hxs hys
    go_enter Tryz.func21, Tryz.ntmps21
    go_wp2_with (go_at_call 45; refine Calls.mono (HM.out _ HB.out) ?_; rintro e w2 ⟨rfl, hb2⟩; have HS2 : Hid (Below _ _ w2) := hb2)
    generalize w.alloc (.cells #[.slice adc n capc, .slice ada m capa] 63) = W1 at *
    clear hb2
    go_loopw [4, 5] (fun x4 i wr => ∃ (k : Nat), k ≤ n ∧ i = .int .i64 k ∧ x4 = .string ⟨(tcT xs k).toArray⟩ ∧ Below W1.heap.size W1 wr) (fun _ i _ => n - (intOf i).toNat)
    case atStart => exact ⟨0, Nat.zero_le _, rfl, rfl, HS2.out⟩
    case round =>
      obtain ⟨k, hk, rfl, rfl, hbw⟩ := hrel
      have HBW : Hid (Below W1.heap.size W1 wr) := hbw
      have HWw : Hid (Below w.heap.size w wr) := HB.out.trans (hbw.mono HB.out.size)
      obtain ⟨p0, p1⟩ := HX.out wr hbw
      clear hbw
      by_cases hlt : k < n
      · obtain rfl : adc = some ⟨bc, oc, none⟩ := by
          rcases hadc with h | h
          · exact h
          · omega
        have hlt' : (k : Int) < (n : Int) := by omega
        have k1 : k < cs.length := by rw [HN.out]; exact hlt
        have c0 := below_cell HWw.out (HRC.out k k1).1
        have c1 := below_cell HWw.out (HRC.out k k1).2.1
        have c2 := below_cell HWw.out (HRC.out k k1).2.2.1
        have c3 := below_cell HWw.out (HRC.out k k1).2.2.2
        have HKk : Hid (_ : Prop) := HK.out k k1
        have HQ : Hid (xs[k]? = some (cT cs[k])) := HXC.out k k1
        have hql : (cT cs[k]).length ≤ 48 := HCL.out _ (List.getElem_mem k1)
        have hpl := HC5.out k
        generalize cT cs[k] = x at *
        generalize cs[k].k = xk at *
        generalize cs[k].nt = xnt at *
        generalize cs[k].nm = xnm at *
        generalize cs[k].n = xn at *
        clear k1
        by_cases h0 : k = 0
        · have HP : Hid (tcT xs (k + 1) = [105, 102, 32] ++ x ++ [32]) := by
            have q := HQ.out
            rw [h0] at q ⊢
            exact tc_first xs x q
          have h0' : ((k : Int) == 0) = true := by simp; omega
          clear h0
          have a1 : ∀ W, (Op.stringOp .add (⟨#[105, 102, 32]⟩ : ByteArray) ⟨x.toArray⟩).run Tryz.prog W = .ok (.string ⟨([105, 102, 32] ++ x).toArray⟩) W := fun W => add_l [105, 102, 32] x (by simp; omega) W
          have hl1 : ([105, 102, 32] ++ x).length ≤ 100 := by simp; omega
          generalize [105, 102, 32] ++ x = y at *
          have a2 : ∀ W, (Op.stringOp .add (⟨y.toArray⟩ : ByteArray) ⟨#[32]⟩).run Tryz.prog W = .ok (.string ⟨(y ++ [32]).toArray⟩) W := fun W => add_l y [32] (by simp; omega) W
          generalize y ++ [32] = z at *
          go_wp2_with fail
          refine Calls.mono (HKk.out _ HWw.out) ?_
          rintro e w3 ⟨rfl, hb3⟩
          go_wp2
          exact ⟨⟨k + 1, by omega, by go_num, by rw [HP.out], HBW.out.trans (hb3.mono HBW.out.size)⟩, by simp [intOf]; omega⟩
        · have HP : Hid (tcT xs (k + 1) = tcT xs k ++ [97, 110, 100, 32] ++ x ++ [32]) := tc_next xs x k (by omega) HQ.out
          have h0' : ((k : Int) == 0) = false := by simp; omega
          generalize tcT xs k = t at *
          have a1 : ∀ W, (Op.stringOp .add (⟨t.toArray⟩ : ByteArray) ⟨#[97, 110, 100, 32]⟩).run Tryz.prog W = .ok (.string ⟨(t ++ [97, 110, 100, 32]).toArray⟩) W := fun W => add_l t [97, 110, 100, 32] (by simp; omega) W
          have hl1 : (t ++ [97, 110, 100, 32]).length ≤ 6000 := by simp; omega
          generalize t ++ [97, 110, 100, 32] = y at *
          have a2 := add_l y x (by omega)
          have hl2 : (y ++ x).length ≤ 7000 := by simp; omega
          generalize y ++ x = z at *
          have a3 : ∀ W, (Op.stringOp .add (⟨z.toArray⟩ : ByteArray) ⟨#[32]⟩).run Tryz.prog W = .ok (.string ⟨(z ++ [32]).toArray⟩) W := fun W => add_l z [32] (by simp; omega) W
          generalize z ++ [32] = z2 at *
          go_wp2_with fail
          refine Calls.mono (HKk.out _ HWw.out) ?_
          rintro e w3 ⟨rfl, hb3⟩
          go_wp2
          exact ⟨⟨k + 1, by omega, by go_num, by rw [HP.out], HBW.out.trans (hb3.mono HBW.out.size)⟩, by simp [intOf]; omega⟩
      · obtain rfl : k = n := by omega
        clear HRC HK HXC HCL HC5 hlt
        generalize tcT xs k = P at *
        go_wp2
        go_loopw [4, 6] (fun x4 i wr => ∃ (k : Nat), k ≤ m ∧ i = .int .i64 k ∧ x4 = .string ⟨(taT P ys k).toArray⟩ ∧ Below W1.heap.size W1 wr) (fun _ i _ => m - (intOf i).toNat)
        case atStart => exact ⟨0, Nat.zero_le _, rfl, rfl, HBW.out⟩
        case round =>
          obtain ⟨i, hi, rfl, rfl, hbx⟩ := hrel
          have HBX : Hid (Below W1.heap.size W1 wr) := hbx
          have HWx : Hid (Below w.heap.size w wr) := HB.out.trans (hbx.mono HB.out.size)
          clear p0 p1
          obtain ⟨p0, p1⟩ := HX.out wr hbx
          clear hbx
          by_cases hlt : i < m
          · obtain rfl : ada = some ⟨ba, oa, none⟩ := by
              rcases hada with h | h
              · exact h
              · omega
            have hlt' : (i : Int) < (m : Int) := by omega
            have k1 : i < acs.length := by rw [HJ.out]; exact hlt
            have c0 := below_cell HWx.out (HRA.out i k1).1
            have c1 := below_cell HWx.out (HRA.out i k1).2.1
            have c2 := below_cell HWx.out (HRA.out i k1).2.2.1
            have c3 := below_cell HWx.out (HRA.out i k1).2.2.2
            have HLk : Hid (_ : Prop) := HL.out i k1
            have HQ : Hid (ys[i]? = some (aT acs[i])) := HXA.out i k1
            have hql : (aT acs[i]).length ≤ 48 := HAL.out _ (List.getElem_mem k1)
            have hpl := HA5.out i
            generalize aT acs[i] = x at *
            generalize acs[i].k = xk at *
            generalize acs[i].nm = xnm at *
            generalize acs[i].n = xn at *
            generalize acs[i].ad = xad at *
            clear k1
            by_cases h0 : i = 0
            · have HP : Hid (taT P ys (i + 1) = taT P ys i ++ [116, 104, 101, 110, 32] ++ x) := by
                have q := HQ.out
                rw [h0] at q ⊢
                exact ta_first P ys x q
              have h0' : ((i : Int) == 0) = true := by simp; omega
              clear h0
              generalize taT P ys i = t at *
              have a1 : ∀ W, (Op.stringOp .add (⟨t.toArray⟩ : ByteArray) ⟨#[116, 104, 101, 110, 32]⟩).run Tryz.prog W = .ok (.string ⟨(t ++ [116, 104, 101, 110, 32]).toArray⟩) W := fun W => add_l t [116, 104, 101, 110, 32] (by simp; omega) W
              have hl1 : (t ++ [116, 104, 101, 110, 32]).length ≤ 11000 := by simp; omega
              generalize t ++ [116, 104, 101, 110, 32] = y at *
              have a2 := add_l y x (by omega)
              generalize y ++ x = z at *
              go_wp2_with fail
              refine Calls.mono (HLk.out _ HWx.out) ?_
              rintro e w3 ⟨rfl, hb3⟩
              go_wp2
              exact ⟨⟨i + 1, by omega, by go_num, by rw [HP.out], HBX.out.trans (hb3.mono HBX.out.size)⟩, by simp [intOf]; omega⟩
            · have HP : Hid (taT P ys (i + 1) = taT P ys i ++ [32, 97, 110, 100, 32] ++ x) := ta_next P ys x i (by omega) HQ.out
              have h0' : ((i : Int) == 0) = false := by simp; omega
              generalize taT P ys i = t at *
              have a1 : ∀ W, (Op.stringOp .add (⟨t.toArray⟩ : ByteArray) ⟨#[32, 97, 110, 100, 32]⟩).run Tryz.prog W = .ok (.string ⟨(t ++ [32, 97, 110, 100, 32]).toArray⟩) W := fun W => add_l t [32, 97, 110, 100, 32] (by simp; omega) W
              have hl1 : (t ++ [32, 97, 110, 100, 32]).length ≤ 11000 := by simp; omega
              generalize t ++ [32, 97, 110, 100, 32] = y at *
              have a2 := add_l y x (by omega)
              generalize y ++ x = z at *
              go_wp2_with fail
              refine Calls.mono (HLk.out _ HWx.out) ?_
              rintro e w3 ⟨rfl, hb3⟩
              go_wp2
              exact ⟨⟨i + 1, by omega, by go_num, by rw [HP.out], HBX.out.trans (hb3.mono HBX.out.size)⟩, by simp [intOf]; omega⟩
          · obtain rfl : i = m := by omega
            rw [HTx.out]
            go_wp2
            go_ret2
            exact ⟨by rw [HE1.out, HE2.out]; rfl, HWx.out⟩
end Go.Proofs.YthaebbmekonacaaGreatDoor
