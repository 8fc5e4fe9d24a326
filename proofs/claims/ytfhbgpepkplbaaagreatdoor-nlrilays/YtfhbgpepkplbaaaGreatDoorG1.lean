/-
  The reference's small functions: who has labels and distinguishers, how many bits stand ahead, a number of four bytes.
-/
import Derived.Test.YtfhbgpepkplbaaaGreatDoorN8
import Derived.Test.YtfhbgpepkplbaaaGreatDoorE3
namespace Go.Proofs.YtfhbgpepkplbaaaGreatDoor
open Go.RowKit
theorem rdst_any (f : Int) (w : World) : Calls Tryz.prog 52 #[.int .i64 f] w fun e w' => e = .returned (.bool (dst f)) ∧ w' = w := by
  by_cases h : f = 4
  · subst h
    go_enter Tryz.func52, Tryz.ntmps52
    go_wp2
    go_ret
    exact ⟨rfl, rfl⟩
  · have h' : (f == 4) = false := by simpa using h
    go_enter Tryz.func52, Tryz.ntmps52
    go_wp2
    go_ret
    exact ⟨ret_bool (by simp [dst, h']), rfl⟩
theorem rlab_any (f : Int) (w : World) : Calls Tryz.prog 49 #[.int .i64 f] w fun e w' => e = .returned (.bool (lab f)) ∧ w' = w := by
  by_cases h : f = 3
  · subst h
    go_enter Tryz.func49, Tryz.ntmps49
    go_wp2
    go_ret
    exact ⟨rfl, rfl⟩
  · have h' : (f == 3) = false := by simpa using h
    go_enter Tryz.func49, Tryz.ntmps49
    go_wp2_with (go_at_call 52; refine (rdst_any f _).mono ?_; rintro e w' ⟨rfl, rfl⟩)
    go_ret
    exact ⟨ret_bool (by simp [lab, h']), rfl⟩
theorem ahead_any (f : Int) (w : World) : Calls Tryz.prog 51 #[.int .i64 f] w fun e w' => e = .returned (.int .i64 (exN f : Nat)) ∧ w' = w := by
  have KL : Hid (∀ w, Calls Tryz.prog 49 #[.int .i64 f] w fun e w' => e = .returned (.bool (lab f)) ∧ w' = w) := rlab_any f
  have KD : Hid (∀ w, Calls Tryz.prog 52 #[.int .i64 f] w fun e w' => e = .returned (.bool (dst f)) ∧ w' = w) := rdst_any f
  unfold exN lbN rdN
  cases hl : lab f <;> cases hd : dst f
  all_goals
    rw [hl] at KL
    rw [hd] at KD
    go_enter Tryz.func51, Tryz.ntmps51
    go_wp2_with (first | (go_at_call 49; refine Calls.mono (KL.out _) ?_; rintro e w' ⟨rfl, rfl⟩) | (go_at_call 52; refine Calls.mono (KD.out _) ?_; rintro e w' ⟨rfl, rfl⟩))
    go_ret
    exact ⟨rfl, rfl⟩
theorem or_u32 (a b : Nat) (ha : a < 4294967296) (hb : b < 4294967296) : bits .or .u32 (a : Int) (b : Int) = ((a ||| b : Nat) : Int) := u32_or_nat a b ha hb
theorem worth4 (a b c d : UInt8) : worth [a, b, c, d] = a.toNat * 16777216 + b.toNat * 65536 + c.toNat * 256 + d.toNat := by
  simp only [worth, List.foldl_cons, List.foldl_nil]
  omega
theorem ors (A B C D : Nat) (ha : A < 256) (hb : B < 256) (hc : C < 256) (hd : D < 256) : bits .or .u32 (bits .or .u32 (bits .or .u32 ((A : Int) * 16777216) ((B : Int) * 65536)) ((C : Int) * 256)) (D : Int) = ((A * 16777216 + B * 65536 + C * 256 + D : Nat) : Int) := by
  have h1 : A * 16777216 ||| B * 65536 = A * 16777216 + B * 65536 := by
    rw [Nat.mul_comm A, show 16777216 = 2 ^ 24 from rfl, ← Nat.two_pow_add_eq_or_of_lt (by omega) A]
  have h2 : (A * 16777216 + B * 65536) ||| C * 256 = A * 16777216 + B * 65536 + C * 256 := by
    rw [show A * 16777216 + B * 65536 = 2 ^ 16 * (A * 256 + B) by omega, ← Nat.two_pow_add_eq_or_of_lt (by omega) (A * 256 + B)]
  have h3 : (A * 16777216 + B * 65536 + C * 256) ||| D = A * 16777216 + B * 65536 + C * 256 + D := by
    rw [show A * 16777216 + B * 65536 + C * 256 = 2 ^ 8 * (A * 65536 + B * 256 + C) by omega, ← Nat.two_pow_add_eq_or_of_lt (by omega) (A * 65536 + B * 256 + C)]
  have e1 := or_u32 (A * 16777216) (B * 65536) (by omega) (by omega)
  have e2 := or_u32 (A * 16777216 + B * 65536) (C * 256) (by omega) (by omega)
  have e3 := or_u32 (A * 16777216 + B * 65536 + C * 256) D (by omega) (by omega)
  rw [h1] at e1
  rw [h2] at e2
  rw [h3] at e3
  simp only [Int.natCast_mul, Int.cast_ofNat_Int] at e1 e2
  rw [e1, e2, e3]
theorem md24 (x : Int) (h0 : 0 ≤ x) (h1 : x < 256) : x % 4294967296 * 16777216 % 4294967296 = x * 16777216 := by omega
theorem md16 (x : Int) (h0 : 0 ≤ x) (h1 : x < 256) : x % 4294967296 * 65536 % 4294967296 = x * 65536 := by omega
theorem md8 (x : Int) (h0 : 0 ≤ x) (h1 : x < 256) : x % 4294967296 * 256 % 4294967296 = x * 256 := by omega
theorem md0 (x : Int) (h0 : 0 ≤ x) (h1 : x < 256) : x % 4294967296 = x := by omega
theorem num4_any (s : ByteArray) (w : World) (h : 4 ≤ s.size) (hm : s.size ≤ 1000000) : Calls Tryz.prog 77 #[.string s] w fun e w' => e = .returned (.int .u32 (worth (s.data.toList.take 4) : Nat)) ∧ Below w.heap.size w w' := by
  have h0 : (0 : Int) < s.size := by omega
  have h1 : (1 : Int) < s.size := by omega
  have h2 : (2 : Int) < s.size := by omega
  have h3 : (3 : Int) < s.size := by omega
  have n0 : 0 < s.size := by omega
  have n1 : 1 < s.size := by omega
  have n2 : 2 < s.size := by omega
  have n3 : 3 < s.size := by omega
  have HW : Hid (s.data.toList.take 4 = [s[0], s[1], s[2], s[3]]) := by
    unfold Hid
    apply List.ext_getElem
    · simp; omega
    · intro i hi _
      have : i < 4 := by simp at hi; omega
      match i, this with
      | 0, _ => simp; rfl
      | 1, _ => simp; rfl
      | 2, _ => simp; rfl
      | 3, _ => simp; rfl
  go_enter Tryz.func77, Tryz.ntmps77
  go_wp2
  go_quiet (fail)
  go_wp2
  go_ret
  refine ⟨ret_int ?_, below_drewN (Below.refl _ _) _⟩
  have g0 := s[0].toNat_lt
  have g1 := s[1].toNat_lt
  have g2 := s[2].toNat_lt
  have g3 := s[3].toNat_lt
  rw [HW.out, worth4, ← ors _ _ _ _ g0 g1 g2 g3]
  rw [md24 _ (by omega) (by omega), md16 _ (by omega) (by omega), md8 _ (by omega) (by omega), md0 _ (by omega) (by omega)]
end Go.Proofs.YtfhbgpepkplbaaaGreatDoor
