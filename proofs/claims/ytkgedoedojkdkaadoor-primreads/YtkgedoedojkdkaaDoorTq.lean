/-
  The reference's numbers, names and addresses as texts.
-/
import Derived.Test.YtkgedoedojkdkaaDoorTa
import Derived.Deep.RegionHeld
import Derived.BigQuiet
set_option linter.unusedVariables false
set_option linter.unusedSimpArgs false
set_option maxRecDepth 100000
namespace Go.Proofs.YtkgedoedojkdkaaDoor
open Go.RowKit
theorem ret_str {a b : ByteArray} (h : a = b) : Ending.returned (.string a) = .returned (.string b) := by rw [h]
theorem str_app (a b : List UInt8) : (⟨a.toArray⟩ : ByteArray) ++ ⟨b.toArray⟩ = ⟨(a ++ b).toArray⟩ := by
  apply ByteArray.ext; simp
theorem add_l (a b : List UInt8) (h : a.length + b.length ≤ 1000000) (W : World) : (Op.stringOp .add (⟨a.toArray⟩ : ByteArray) ⟨b.toArray⟩).run Tryd.prog W = .ok (.string ⟨(a ++ b).toArray⟩) W := by
  rw [run_string_add_sum W _ _ (by rw [show (ByteArray.mk a.toArray).size = a.length from List.size_toArray .., show (ByteArray.mk b.toArray).size = b.length from List.size_toArray ..]; omega), str_app]
theorem below_dr {B : Nat} {a w : World} (h : Below B a w) (n : Nat) : Below B a (w.drewN n) := ⟨h.os, h.tape, h.output, h.size, h.block⟩
def fwL : List (List UInt8) := [[], [118, 52], [118, 54], [108, 52], [118, 112, 110, 52], [118, 112, 110, 54]]
def hexS : ByteArray := ⟨#[48, 49, 50, 51, 52, 53, 54, 55, 56, 57, 97, 98, 99, 100, 101, 102]⟩
theorem hexS_at (d : Nat) (h : d < 16) : hexS.extract d (d + 1) = ⟨#[dg d]⟩ := by
  rcases (show d = 0 ∨ d = 1 ∨ d = 2 ∨ d = 3 ∨ d = 4 ∨ d = 5 ∨ d = 6 ∨ d = 7 ∨ d = 8 ∨ d = 9 ∨ d = 10 ∨ d = 11 ∨ d = 12 ∨ d = 13 ∨ d = 14 ∨ d = 15 by omega) with rfl | rfl | rfl | rfl | rfl | rfl | rfl | rfl | rfl | rfl | rfl | rfl | rfl | rfl | rfl | rfl <;> decide +kernel
/-- A number's digits to the base b, as the reference puts them. -/
structure Digs (b : Nat) (D : Nat → List UInt8) : Prop where
  low : ∀ u, u < b → D u = [dg u]
  high : ∀ u, ¬ u < b → D u = D (u / b) ++ [dg (u % b)]
theorem digs10 : Digs 10 Lib.decDigits := by
  refine ⟨fun u h => ?_, fun u h => ?_⟩
  · rw [Lib.decDigits, dif_pos h]; unfold dg; rw [if_pos h]
  · rw [Lib.decDigits, dif_neg h]; unfold dg; rw [if_pos (Nat.mod_lt _ (by omega))]
theorem digs16 : Digs 16 hexD := by
  refine ⟨fun u h => ?_, fun u h => ?_⟩
  · rw [hexD, dif_pos h]
  · rw [hexD, dif_neg h]
theorem Digs.len {b : Nat} {D : Nat → List UInt8} (h : Digs b D) (hb : 2 ≤ b) : ∀ (k u : Nat), u < 2 ^ (k + 1) → (D u).length ≤ k + 1
  | 0, u, hu => by rw [h.low u (by omega)]; simp
  | k + 1, u, hu => by
    by_cases hl : u < b
    · rw [h.low u hl]; simp
    · rw [h.high u hl, List.length_append]
      have hd : u / b ≤ u / 2 := Nat.div_le_div_left hb (by omega)
      have := Digs.len h hb k (u / b) (by rw [Nat.pow_succ] at hu; omega)
      simp; omega
set_option maxHeartbeats 2000000 in
theorem rnumD10 (u : Nat) (hu : u < 18446744073709551616) (w : World) :
    Calls Tryd.prog 46 #[.int .u64 (u : Int), .int .u64 10] w fun e w' => e = .returned (.string ⟨(Lib.decDigits u).toArray⟩) ∧ ∃ m, w' = w.drewN m := by
  induction u using Nat.strongRecOn generalizing w with
  | _ u ih =>
    have hsl : ∀ W, (Instr.slice 9 (.string ⟨#[48, 49, 50, 51, 52, 53, 54, 55, 56, 57, 97, 98, 99, 100, 101, 102]⟩) (some (.int .u64 ((u : Int) % 10))) (some (.int .u64 ((u : Int) % 10 + 1))) none).run Tryd.prog W = .ok (.string ⟨#[dg (u % 10)]⟩) W := fun W => by
      rw [run_slice_string W 9 _ .u64 .u64 ((u : Int) % 10) ((u : Int) % 10 + 1) Tryd.underlying9 (by omega) (by omega) (by show _ ≤ (16 : Int); omega), show ((u : Int) % 10).toNat = u % 10 by omega, show ((u : Int) % 10 + 1).toNat = u % 10 + 1 by omega]
      rw [show (⟨#[48, 49, 50, 51, 52, 53, 54, 55, 56, 57, 97, 98, 99, 100, 101, 102]⟩ : ByteArray) = hexS from rfl, hexS_at _ (by omega)]
    by_cases h10 : u < 10
    · have HE : Hid ((⟨#[dg (u % 10)]⟩ : ByteArray) = ⟨(Lib.decDigits u).toArray⟩) := by unfold Hid; rw [digs10.low u h10, Nat.mod_eq_of_lt h10]
      have h10i : (u : Int) < 10 := by omega
      clear ih
      generalize (⟨#[dg (u % 10)]⟩ : ByteArray) = one at *
      generalize Lib.decDigits u = all at *
      go_enter Tryd.func46, Tryd.ntmps46
      go_wp2
      go_quiet (fail)
      go_wp2
      go_ret
      exact ⟨ret_str HE.out, _, rfl⟩
    · have h10i : ¬ ((u : Int) < 10) := by omega
      have HE : Hid ((⟨(Lib.decDigits (u / 10)).toArray⟩ : ByteArray) ++ ⟨#[dg (u % 10)]⟩ = ⟨(Lib.decDigits u).toArray⟩) := by
        unfold Hid; rw [digs10.high u h10]; exact str_app _ [dg (u % 10)]
      have HI : Hid (∀ W, Calls Tryd.prog 46 #[.int .u64 ((u : Int) / 10), .int .u64 10] W fun e w' => e = .returned (.string ⟨(Lib.decDigits (u / 10)).toArray⟩) ∧ ∃ m, w' = W.drewN m) := fun W => by
        have := ih (u / 10) (by omega) (by omega) W
        rw [show ((u / 10 : Nat) : Int) = (u : Int) / 10 by omega] at this
        exact this
      have hsz : (⟨(Lib.decDigits (u / 10)).toArray⟩ : ByteArray).size ≤ 64 := by
        show (Lib.decDigits (u / 10)).toArray.size ≤ 64
        have := digs10.len (by omega) 63 (u / 10) (by omega)
        simpa using this
      have ha : ∀ W, (Op.stringOp .add (⟨(Lib.decDigits (u / 10)).toArray⟩ : ByteArray) ⟨#[dg (u % 10)]⟩).run Tryd.prog W = .ok (.string ((⟨(Lib.decDigits (u / 10)).toArray⟩ : ByteArray) ++ ⟨#[dg (u % 10)]⟩)) W := fun W => run_string_add_sum W _ _ (by rw [show (ByteArray.mk #[dg (u % 10)]).size = 1 from rfl]; omega)
      clear ih
      generalize (⟨(Lib.decDigits (u / 10)).toArray⟩ : ByteArray) ++ ⟨#[dg (u % 10)]⟩ = res at *
      generalize (⟨(Lib.decDigits (u / 10)).toArray⟩ : ByteArray) = s1 at *
      generalize (⟨#[dg (u % 10)]⟩ : ByteArray) = one at *
      generalize Lib.decDigits u = all at *
      go_enter Tryd.func46, Tryd.ntmps46
      go_wp2
      go_quiet (fail)
      go_wp2_with fail
      refine (HI.out _).mono ?_
      rintro e w1 ⟨rfl, m, rfl⟩
      go_wp2
      go_ret
      exact ⟨ret_str HE.out, _, rfl⟩
theorem rnum10 (u : Nat) (hu : u < 18446744073709551616) (w : World) :
    Calls Tryd.prog 46 #[.int .u64 (u : Int), .int .u64 10] w fun e w' => e = .returned (.string ⟨(Lib.decDigits u).toArray⟩) ∧ Below w.heap.size w w' :=
  (rnumD10 u hu w).mono fun _ _ ⟨h, m, hm⟩ => ⟨h, by rw [hm]; exact below_drewN' (Below.refl _ _) _⟩
set_option maxHeartbeats 2000000 in
theorem rnumD16 (u : Nat) (hu : u < 18446744073709551616) (w : World) :
    Calls Tryd.prog 46 #[.int .u64 (u : Int), .int .u64 16] w fun e w' => e = .returned (.string ⟨(hexD u).toArray⟩) ∧ ∃ m, w' = w.drewN m := by
  induction u using Nat.strongRecOn generalizing w with
  | _ u ih =>
    have hsl : ∀ W, (Instr.slice 9 (.string ⟨#[48, 49, 50, 51, 52, 53, 54, 55, 56, 57, 97, 98, 99, 100, 101, 102]⟩) (some (.int .u64 ((u : Int) % 16))) (some (.int .u64 ((u : Int) % 16 + 1))) none).run Tryd.prog W = .ok (.string ⟨#[dg (u % 16)]⟩) W := fun W => by
      rw [run_slice_string W 9 _ .u64 .u64 ((u : Int) % 16) ((u : Int) % 16 + 1) Tryd.underlying9 (by omega) (by omega) (by show _ ≤ (16 : Int); omega), show ((u : Int) % 16).toNat = u % 16 by omega, show ((u : Int) % 16 + 1).toNat = u % 16 + 1 by omega]
      rw [show (⟨#[48, 49, 50, 51, 52, 53, 54, 55, 56, 57, 97, 98, 99, 100, 101, 102]⟩ : ByteArray) = hexS from rfl, hexS_at _ (by omega)]
    by_cases h10 : u < 16
    · have HE : Hid ((⟨#[dg (u % 16)]⟩ : ByteArray) = ⟨(hexD u).toArray⟩) := by unfold Hid; rw [digs16.low u h10, Nat.mod_eq_of_lt h10]
      have h10i : (u : Int) < 16 := by omega
      clear ih
      generalize (⟨#[dg (u % 16)]⟩ : ByteArray) = one at *
      generalize hexD u = all at *
      go_enter Tryd.func46, Tryd.ntmps46
      go_wp2
      go_quiet (fail)
      go_wp2
      go_ret
      exact ⟨ret_str HE.out, _, rfl⟩
    · have h10i : ¬ ((u : Int) < 16) := by omega
      have HE : Hid ((⟨(hexD (u / 16)).toArray⟩ : ByteArray) ++ ⟨#[dg (u % 16)]⟩ = ⟨(hexD u).toArray⟩) := by
        unfold Hid; rw [digs16.high u h10]; exact str_app _ [dg (u % 16)]
      have HI : Hid (∀ W, Calls Tryd.prog 46 #[.int .u64 ((u : Int) / 16), .int .u64 16] W fun e w' => e = .returned (.string ⟨(hexD (u / 16)).toArray⟩) ∧ ∃ m, w' = W.drewN m) := fun W => by
        have := ih (u / 16) (by omega) (by omega) W
        rw [show ((u / 16 : Nat) : Int) = (u : Int) / 16 by omega] at this
        exact this
      have hsz : (⟨(hexD (u / 16)).toArray⟩ : ByteArray).size ≤ 64 := by
        show (hexD (u / 16)).toArray.size ≤ 64
        have := digs16.len (by omega) 63 (u / 16) (by omega)
        simpa using this
      have ha : ∀ W, (Op.stringOp .add (⟨(hexD (u / 16)).toArray⟩ : ByteArray) ⟨#[dg (u % 16)]⟩).run Tryd.prog W = .ok (.string ((⟨(hexD (u / 16)).toArray⟩ : ByteArray) ++ ⟨#[dg (u % 16)]⟩)) W := fun W => run_string_add_sum W _ _ (by rw [show (ByteArray.mk #[dg (u % 16)]).size = 1 from rfl]; omega)
      clear ih
      generalize (⟨(hexD (u / 16)).toArray⟩ : ByteArray) ++ ⟨#[dg (u % 16)]⟩ = res at *
      generalize (⟨(hexD (u / 16)).toArray⟩ : ByteArray) = s1 at *
      generalize (⟨#[dg (u % 16)]⟩ : ByteArray) = one at *
      generalize hexD u = all at *
      go_enter Tryd.func46, Tryd.ntmps46
      go_wp2
      go_quiet (fail)
      go_wp2_with fail
      refine (HI.out _).mono ?_
      rintro e w1 ⟨rfl, m, rfl⟩
      go_wp2
      go_ret
      exact ⟨ret_str HE.out, _, rfl⟩
theorem rnum16 (u : Nat) (hu : u < 18446744073709551616) (w : World) :
    Calls Tryd.prog 46 #[.int .u64 (u : Int), .int .u64 16] w fun e w' => e = .returned (.string ⟨(hexD u).toArray⟩) ∧ Below w.heap.size w w' :=
  (rnumD16 u hu w).mono fun _ _ ⟨h, m, hm⟩ => ⟨h, by rw [hm]; exact below_drewN' (Below.refl _ _) _⟩
theorem rnameF (n : Nat) (h1 : 1 ≤ n) (h2 : n ≤ 5) (w : World) : Calls Tryd.prog 44 #[.int .i64 (n : Int)] w fun e w' => e = .returned (.string ⟨(fwL.getD n []).toArray⟩) ∧ w' = w := by
  rcases (show n = 1 ∨ n = 2 ∨ n = 3 ∨ n = 4 ∨ n = 5 by omega) with rfl | rfl | rfl | rfl | rfl
  all_goals
    go_enter Tryd.func44, Tryd.ntmps44
    go_wp2
    go_ret
    exact ⟨rfl, rfl⟩
/-- The first k of some texts, joined. -/
def pj (xs : List (List UInt8)) (sep : List UInt8) (k : Nat) : List UInt8 := Lib.join (xs.take k) sep
theorem pj_zero (xs : List (List UInt8)) (sep : List UInt8) : pj xs sep 0 = [] := by unfold pj; rw [List.take_zero, Lib.join_nil]
theorem pj_one (xs : List (List UInt8)) (sep : List UInt8) (x : List UInt8) (h : xs[0]? = some x) : pj xs sep 1 = x := by
  cases xs with
  | nil => simp at h
  | cons a r => simp at h; subst h; unfold pj; simp [Lib.join_one]
theorem pj_succ (xs : List (List UInt8)) (sep : List UInt8) (k : Nat) (x : List UInt8) (h1 : 1 ≤ k) (h : xs[k]? = some x) : pj xs sep (k + 1) = pj xs sep k ++ sep ++ x := by
  cases xs with
  | nil => simp at h
  | cons a r =>
    obtain ⟨j, rfl⟩ : ∃ j, k = j + 1 := ⟨k - 1, by omega⟩
    unfold pj
    rw [List.take_succ_cons, List.take_succ_cons, Lib.join_cons, Lib.join_cons, Lib.joinTail_take_succ sep r j x (by simpa using h)]
    simp [List.append_assoc]
theorem pj_all (xs : List (List UInt8)) (sep : List UInt8) (k : Nat) (h : xs.length ≤ k) : pj xs sep k = Lib.join xs sep := by unfold pj; rw [List.take_of_length_le h]
theorem pj_len (xs : List (List UInt8)) (sep : List UInt8) (k m n : Nat) (h : ∀ x ∈ xs, x.length ≤ m) (hl : xs.length ≤ n) : (pj xs sep k).length ≤ n * (m + sep.length) := by
  refine Nat.le_trans (join_le _ _ m fun y hy => h y (List.mem_of_mem_take hy)) (Nat.mul_le_mul_right _ ?_)
  rw [List.length_take]; omega
theorem n4_len (s : ByteArray) : ∀ x ∈ (nums4 s).map (·.data.toList), x.length ≤ 4 := by
  intro y hy
  simp only [nums4, List.map_map, List.mem_map, List.mem_range, Function.comp] at hy
  obtain ⟨i, _, rfl⟩ := hy
  exact Nat.le_trans (dig_pow 2 _ (Nat.lt_trans (UInt8.toNat_lt _) (by decide))) (by decide)
theorem n16_len (s : ByteArray) : ∀ x ∈ (nums16 s).map (·.data.toList), x.length ≤ 4 := by
  intro y hy
  simp only [nums16, List.map_map, List.mem_map, List.mem_range, Function.comp] at hy
  obtain ⟨i, _, rfl⟩ := hy
  refine hexD_len _ 3 ?_
  have h1 : (s.data.toList.getD (2 * i) 0).toNat < 256 := UInt8.toNat_lt _
  have h2 : (s.data.toList.getD (2 * i + 1) 0).toNat < 256 := UInt8.toNat_lt _
  show _ < 65536
  omega
set_option maxHeartbeats 600000 in
theorem raddr4 (s : ByteArray) (hs : s.size = 4) (w : World) : Calls Tryd.prog 29 #[.string s] w fun e w' => e = .returned (.tuple #[.string ⟨(adT s).toArray⟩, .int .i64 0]) ∧ Below w.heap.size w w' := by
  have HA : Hid (adT s = Lib.join ((nums4 s).map (·.data.toList)) [46]) := by unfold Hid adT; rw [hs]; rfl
  have HX : Hid (∀ k, k < 4 → ((nums4 s).map (·.data.toList))[k]? = some _) := fun k hk => by rw [List.getElem?_map, at_last4 s k hk]; rfl
  have HL : Hid (∀ k, (pj ((nums4 s).map (·.data.toList)) [46] k).length ≤ 40) := fun k => Nat.le_trans (pj_len _ _ k 4 4 (n4_len s) (by simp [nums4])) (by decide)
  have HZ : Hid (pj ((nums4 s).map (·.data.toList)) [46] 4 = adT s) := by unfold Hid; rw [pj_all _ _ _ (by simp [nums4]), ← HA.out]
  have HY : Hid (∀ x ∈ (nums4 s).map (·.data.toList), x.length ≤ 4) := n4_len s
  have hsz : (s.size : Int) = 4 := by omega
  generalize adT s = r at *
  generalize (nums4 s).map (·.data.toList) = xs at *
  go_enter Tryd.func29, Tryd.ntmps29
  go_wp2_with fail
  go_loopw [4, 5] (fun x4 x5 wr => ∃ (k : Nat), x5 = .int .i64 (k : Int) ∧ k ≤ 4 ∧ x4 = .string ⟨(pj xs [46] k).toArray⟩ ∧ Below w.heap.size w wr) (fun _ x5 _ => 4 - (intOf x5).toNat)
  case atStart => exact ⟨0, rfl, Nat.zero_le _, by rw [pj_zero], Below.refl _ _⟩
  case round =>
    obtain ⟨k, rfl, hk, rfl, hb0⟩ := hrel
    have HB : Hid (_ : Prop) := hb0
    clear hb0
    by_cases hlt : k < 4
    · have hlt' : (k : Int) < 4 := by omega
      have HQ := HX.out k hlt
      have hks : k < s.size := by omega
      rw [getDT s k hks] at HQ
      have hb : s[k].toNat < 256 := UInt8.toNat_lt _
      obtain ⟨b, eb⟩ : ∃ b, s[k].toNat = b := ⟨_, rfl⟩
      rw [eb] at hb HQ
      have hw : IntKind.u64.wrap (b : Int) = b := by rw [IntKind.wrap_u64]; omega
      have HN : Hid (∀ W, Calls Tryd.prog 46 #[.int .u64 (b : Int), .int .u64 10] W fun e w' => e = .returned (.string ⟨(Lib.decDigits b).toArray⟩) ∧ Below W.heap.size W w') := fun W => rnum10 b (by omega) W
      have hvl : (Lib.decDigits b).length ≤ 4 := HY.out _ (List.mem_of_getElem? HQ)
      have HQ2 : Hid (xs[k]? = some (Lib.decDigits b)) := HQ
      generalize Lib.decDigits b = v at *
      have hl0 := HL.out k
      clear HQ HX
      by_cases h0 : k = 0
      · have HP : Hid (pj xs [46] (k + 1) = v) := by
          have q := HQ2.out
          rw [h0] at q ⊢
          exact pj_one xs [46] v q
        have h0' : ¬ (0 : Int) < (k : Int) := by omega
        rw [show pj xs [46] k = [] by rw [h0, pj_zero]]
        clear h0
        have ha := add_l [] v (by simp; omega)
        simp only [List.nil_append] at ha
        go_wp2_with fail
        refine (HN.out _).mono ?_
        rintro e w2 ⟨rfl, hb2⟩
        have HB2 : Hid (_ : Prop) := HB.out.trans (hb2.mono HB.out.size)
        clear hb2
        go_wp2
        exact ⟨⟨k + 1, by go_num, by omega, by rw [HP.out], HB2.out⟩, by simp [intOf]; omega⟩
      · have h0' : (0 : Int) < (k : Int) := by omega
        have HP : Hid (pj xs [46] (k + 1) = pj xs [46] k ++ [46] ++ v) := pj_succ xs [46] k v (by omega) HQ2.out
        have ha := add_l (pj xs [46] k) [46] (by simp; omega)
        have hc := add_l (pj xs [46] k ++ [46]) v (by simp; omega)
        generalize pj xs [46] k = p0 at *
        generalize p0 ++ [46] = p1 at *
        generalize p1 ++ v = p2 at *
        go_wp2_with fail
        refine (HN.out _).mono ?_
        rintro e w2 ⟨rfl, hb2⟩
        have HB2 : Hid (_ : Prop) := HB.out.trans (hb2.mono HB.out.size)
        clear hb2
        go_wp2
        exact ⟨⟨k + 1, by go_num, by omega, by rw [show pj xs [46] (k + 1) = p2 from HP.out], HB2.out⟩, by simp [intOf]; omega⟩
    · obtain rfl : k = 4 := by omega
      have HZ2 : Hid (_ = _) := HZ.out
      rw [HZ.out]
      clear HX HY HL
      go_wp2
      go_ret2
      exact ⟨rfl, HB.out⟩
set_option maxHeartbeats 600000 in
theorem raddr16 (s : ByteArray) (hs : s.size = 16) (w : World) : Calls Tryd.prog 29 #[.string s] w fun e w' => e = .returned (.tuple #[.string ⟨(adT s).toArray⟩, .int .i64 0]) ∧ Below w.heap.size w w' := by
  have HA : Hid (adT s = Lib.join ((nums16 s).map (·.data.toList)) [58]) := by unfold Hid adT; rw [hs]; rfl
  have HX : Hid (∀ k, k < 8 → ((nums16 s).map (·.data.toList))[k]? = some _) := fun k hk => by rw [List.getElem?_map, at_last8 s k hk]; rfl
  have HL : Hid (∀ k, (pj ((nums16 s).map (·.data.toList)) [58] k).length ≤ 40) := fun k => Nat.le_trans (pj_len _ _ k 4 8 (n16_len s) (by simp [nums16])) (by decide)
  have HZ : Hid (pj ((nums16 s).map (·.data.toList)) [58] 8 = adT s) := by unfold Hid; rw [pj_all _ _ _ (by simp [nums16]), ← HA.out]
  have HY : Hid (∀ x ∈ (nums16 s).map (·.data.toList), x.length ≤ 4) := n16_len s
  have hsz : (s.size : Int) = 16 := by omega
  generalize adT s = r at *
  generalize (nums16 s).map (·.data.toList) = xs at *
  go_enter Tryd.func29, Tryd.ntmps29
  go_wp2_with fail
  go_loopw [4, 6] (fun x4 x5 wr => ∃ (k : Nat), x5 = .int .i64 (k : Int) ∧ k ≤ 8 ∧ x4 = .string ⟨(pj xs [58] k).toArray⟩ ∧ Below w.heap.size w wr) (fun _ x5 _ => 8 - (intOf x5).toNat)
  case atStart => exact ⟨0, rfl, Nat.zero_le _, by rw [pj_zero], Below.refl _ _⟩
  case round =>
    obtain ⟨k, rfl, hk, rfl, hb0⟩ := hrel
    have HB : Hid (_ : Prop) := hb0
    clear hb0
    by_cases hlt : k < 8
    · have hlt' : (k : Int) < 8 := by omega
      have HQ := HX.out k hlt
      have hwk : IntKind.i64.wrap (2 * (k : Int)) = ((2 * k : Nat) : Int) := by rw [IntKind.wrap_i64]; omega
      have hj16 : 2 * k + 1 < 16 := by omega
      generalize 2 * k = j at *
      have hks : j + 1 < s.size := by omega
      have hj0 : j < s.size := by omega
      have hj1 : (j : Int) < 16 := by omega
      have hj2 : (j : Int) + 1 < 16 := by omega
      rw [getDT s j hj0, getDT s (j + 1) hks] at HQ
      have hb : s[j].toNat < 256 := UInt8.toNat_lt _
      have hd : s[j + 1].toNat < 256 := UInt8.toNat_lt _
      obtain ⟨b, eb⟩ : ∃ b, s[j].toNat = b := ⟨_, rfl⟩
      obtain ⟨d, ed⟩ : ∃ d, s[j + 1].toNat = d := ⟨_, rfl⟩
      rw [eb] at hb HQ
      rw [ed] at hd HQ
      have hw : IntKind.u64.wrap (b : Int) = b := by rw [IntKind.wrap_u64]; omega
      have hx : IntKind.u64.wrap (d : Int) = d := by rw [IntKind.wrap_u64]; omega
      have hy : IntKind.u64.wrap ((b : Int) * 256) = (b : Int) * 256 := by rw [IntKind.wrap_u64]; omega
      have hm : bits BinOp.or IntKind.u64 ((b : Int) * 256) (d : Int) = ((b * 256 + d : Nat) : Int) := or_hi b d hb hd
      have HM : b * 256 + d < 65536 := by omega
      have HN : Hid (∀ W, Calls Tryd.prog 46 #[.int .u64 ((b * 256 + d : Nat) : Int), .int .u64 16] W fun e w' => e = .returned (.string ⟨(hexD (b * 256 + d)).toArray⟩) ∧ ∃ m, w' = W.drewN m) := fun W => rnumD16 _ (by omega) W
      have hvl : (hexD (b * 256 + d)).length ≤ 4 := HY.out _ (List.mem_of_getElem? HQ)
      have HQ2 : Hid (xs[k]? = some (hexD (b * 256 + d))) := HQ
      generalize hexD (b * 256 + d) = v at *
      generalize b * 256 + d = m at *
      have hl0 := HL.out k
      clear HQ HX
      by_cases h0 : k = 0
      · have HP : Hid (pj xs [58] (k + 1) = v) := by
          have q := HQ2.out
          rw [h0] at q ⊢
          exact pj_one xs [58] v q
        have h0' : ¬ (0 : Int) < (k : Int) := by omega
        rw [show pj xs [58] k = [] by rw [h0, pj_zero]]
        clear h0
        have ha := add_l [] v (by simp; omega)
        simp only [List.nil_append] at ha
        go_wp2_with fail
        go_quiet ((go_at_call 46; exact Calls.quiet_of (HN.out _)))
        have HB2 : Hid (_ : Prop) := below_dr HB.out nq
        go_wp2
        exact ⟨⟨k + 1, by go_num, by omega, by rw [HP.out], HB2.out⟩, by simp [intOf]; omega⟩
      · have h0' : (0 : Int) < (k : Int) := by omega
        have HP : Hid (pj xs [58] (k + 1) = pj xs [58] k ++ [58] ++ v) := pj_succ xs [58] k v (by omega) HQ2.out
        have ha := add_l (pj xs [58] k) [58] (by simp; omega)
        have hc := add_l (pj xs [58] k ++ [58]) v (by simp; omega)
        generalize pj xs [58] k = p0 at *
        generalize p0 ++ [58] = p1 at *
        generalize p1 ++ v = p2 at *
        go_wp2_with fail
        go_quiet ((go_at_call 46; exact Calls.quiet_of (HN.out _)))
        have HB2 : Hid (_ : Prop) := below_dr HB.out nq
        go_wp2
        exact ⟨⟨k + 1, by go_num, by omega, by rw [show pj xs [58] (k + 1) = p2 from HP.out], HB2.out⟩, by simp [intOf]; omega⟩
    · obtain rfl : k = 8 := by omega
      have HZ2 : Hid (_ = _) := HZ.out
      rw [HZ.out]
      clear HX HY HL
      go_wp2
      go_ret2
      exact ⟨rfl, HB.out⟩
end Go.Proofs.YtkgedoedojkdkaaDoor
