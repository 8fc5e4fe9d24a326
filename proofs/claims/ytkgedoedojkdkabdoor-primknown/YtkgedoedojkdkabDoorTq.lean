/-
  The reference's numbers, names and addresses as texts.
-/
import Derived.Test.YtkgedoedojkdkabDoorTa
import Derived.Deep.RegionHeld
import Derived.BigQuiet
set_option linter.unusedVariables false
set_option linter.unusedSimpArgs false
set_option maxRecDepth 100000
namespace Go.Proofs.YtkgedoedojkdkabDoor
open Go.RowKit
theorem ret_str {a b : ByteArray} (h : a = b) : Ending.returned (.string a) = .returned (.string b) := by rw [h]
theorem str_app (a b : List UInt8) : (⟨a.toArray⟩ : ByteArray) ++ ⟨b.toArray⟩ = ⟨(a ++ b).toArray⟩ := by
  apply ByteArray.ext; simp
theorem add_l (a b : List UInt8) (h : a.length + b.length ≤ 1000000) (W : World) : (Op.stringOp .add (⟨a.toArray⟩ : ByteArray) ⟨b.toArray⟩).run Tryd.prog W = .ok (.string ⟨(a ++ b).toArray⟩) W := by
  rw [run_string_add_sum W _ _ (by rw [show (ByteArray.mk a.toArray).size = a.length from List.size_toArray .., show (ByteArray.mk b.toArray).size = b.length from List.size_toArray ..]; omega), str_app]
theorem below_dr {B : Nat} {a w : World} (h : Below B a w) (n : Nat) : Below B a (w.drewN n) := ⟨h.os, h.tape, h.output, h.size, h.block⟩
def fwL : List (List UInt8) := [[], [118, 52], [118, 54], [108, 52], [118, 112, 110, 52], [118, 112, 110, 54]]
def hexS : ByteArray := ⟨#[48, 49, 50, 51, 52, 53, 54, 55, 56, 57, 97, 98, 99, 100, 101, 102]⟩
theorem hexS_at (d : Nat) (h : d < 16) : hexS.extract d (d + 1) = ⟨#[dg d]⟩ := by
  rcases (show d = 0 ∨ d = 1 ∨ d = 2 ∨ d = 3 ∨ d = 4 ∨ d = 5 ∨ d = 6 ∨ d = 7 ∨ d = 8 ∨ d = 9 ∨ d = 10 ∨ d = 11 ∨ d = 12 ∨ d = 13 ∨ d = 14 ∨ d = 15 by omega) with rfl | rfl | rfl | rfl | rfl | rfl | rfl | rfl | rfl | rfl | rfl | rfl | rfl | rfl | rfl | rfl <;> decide +kernel
/-- A number's digits to the base b, as the reference puts them. -/
structure Digs (b : Nat) (D : Nat → List UInt8) : Prop where
  low : ∀ u, u < b → D u = [dg u]
  high : ∀ u, ¬ u < b → D u = D (u / b) ++ [dg (u % b)]
theorem digs10 : Digs 10 Lib.decDigits := by
  refine ⟨fun u h => ?_, fun u h => ?_⟩
  · rw [Lib.decDigits, dif_pos h]; unfold dg; rw [if_pos h]
  · rw [Lib.decDigits, dif_neg h]; unfold dg; rw [if_pos (Nat.mod_lt _ (by omega))]
theorem digs16 : Digs 16 hexD := by
  refine ⟨fun u h => ?_, fun u h => ?_⟩
  · rw [hexD, dif_pos h]
  · rw [hexD, dif_neg h]
theorem Digs.len {b : Nat} {D : Nat → List UInt8} (h : Digs b D) (hb : 2 ≤ b) : ∀ (k u : Nat), u < 2 ^ (k + 1) → (D u).length ≤ k + 1
  | 0, u, hu => by rw [h.low u (by omega)]; simp
  | k + 1, u, hu => by
    by_cases hl : u < b
    · rw [h.low u hl]; simp
    · rw [h.high u hl, List.length_append]
      have hd : u / b ≤ u / 2 := Nat.div_le_div_left hb (by omega)
      have := Digs.len h hb k (u / b) (by rw [Nat.pow_succ] at hu; omega)
      simp; omega
/-- The first k of some texts, joined. -/
def pj (xs : List (List UInt8)) (sep : List UInt8) (k : Nat) : List UInt8 := Lib.join (xs.take k) sep
theorem pj_zero (xs : List (List UInt8)) (sep : List UInt8) : pj xs sep 0 = [] := by unfold pj; rw [List.take_zero, Lib.join_nil]
theorem pj_one (xs : List (List UInt8)) (sep : List UInt8) (x : List UInt8) (h : xs[0]? = some x) : pj xs sep 1 = x := by
  cases xs with
  | nil => simp at h
  | cons a r => simp at h; subst h; unfold pj; simp [Lib.join_one]
theorem pj_succ (xs : List (List UInt8)) (sep : List UInt8) (k : Nat) (x : List UInt8) (h1 : 1 ≤ k) (h : xs[k]? = some x) : pj xs sep (k + 1) = pj xs sep k ++ sep ++ x := by
  cases xs with
  | nil => simp at h
  | cons a r =>
    obtain ⟨j, rfl⟩ : ∃ j, k = j + 1 := ⟨k - 1, by omega⟩
    unfold pj
    rw [List.take_succ_cons, List.take_succ_cons, Lib.join_cons, Lib.join_cons, Lib.joinTail_take_succ sep r j x (by simpa using h)]
    simp [List.append_assoc]
theorem pj_all (xs : List (List UInt8)) (sep : List UInt8) (k : Nat) (h : xs.length ≤ k) : pj xs sep k = Lib.join xs sep := by unfold pj; rw [List.take_of_length_le h]
theorem pj_len (xs : List (List UInt8)) (sep : List UInt8) (k m n : Nat) (h : ∀ x ∈ xs, x.length ≤ m) (hl : xs.length ≤ n) : (pj xs sep k).length ≤ n * (m + sep.length) := by
  refine Nat.le_trans (join_le _ _ m fun y hy => h y (List.mem_of_mem_take hy)) (Nat.mul_le_mul_right _ ?_)
  rw [List.length_take]; omega
theorem n4_len (s : ByteArray) : ∀ x ∈ (nums4 s).map (·.data.toList), x.length ≤ 4 := by
  intro y hy
  simp only [nums4, List.map_map, List.mem_map, List.mem_range, Function.comp] at hy
  obtain ⟨i, _, rfl⟩ := hy
  exact Nat.le_trans (dig_pow 2 _ (Nat.lt_trans (UInt8.toNat_lt _) (by decide))) (by decide)
theorem n16_len (s : ByteArray) : ∀ x ∈ (nums16 s).map (·.data.toList), x.length ≤ 4 := by
  intro y hy
  simp only [nums16, List.map_map, List.mem_map, List.mem_range, Function.comp] at hy
  obtain ⟨i, _, rfl⟩ := hy
  refine hexD_len _ 3 ?_
  have h1 : (s.data.toList.getD (2 * i) 0).toNat < 256 := UInt8.toNat_lt _
  have h2 : (s.data.toList.getD (2 * i + 1) 0).toNat < 256 := UInt8.toNat_lt _
  show _ < 65536
  omega
end Go.Proofs.YtkgedoedojkdkabDoor
