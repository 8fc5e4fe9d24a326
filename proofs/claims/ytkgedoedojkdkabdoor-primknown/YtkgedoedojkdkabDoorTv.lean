/-
  A number read by the reference, to the bases 10 and 16.
-/
import Derived.Test.YtkgedoedojkdkabDoorTq
set_option linter.unusedVariables false
set_option linter.unusedSimpArgs false
set_option maxRecDepth 100000
namespace Go.Proofs.YtkgedoedojkdkabDoor
open Go.RowKit
/-- The value of a sign, as the reference takes it. -/
def dq (c : UInt8) : Nat := if 48 ≤ c.toNat ∧ c.toNat ≤ 57 then c.toNat - 48 else if 97 ≤ c.toNat ∧ c.toNat ≤ 102 then c.toNat - 87 else 99
def vl (b : Nat) (l : List UInt8) (i : Nat) : Nat := (l.take i).foldl (fun a c => a * b + dq c) 0
theorem vl_succ (b : Nat) (l : List UInt8) (i : Nat) (h : i < l.length) : vl b l (i + 1) = vl b l i * b + dq l[i] := by
  unfold vl; rw [List.take_succ_eq_append_getElem h, List.foldl_append]; rfl
theorem vl_le (b : Nat) (l : List UInt8) (i : Nat) (h : i ≤ l.length) (hb : 1 ≤ b) : vl b l i ≤ vl b l l.length := by
  induction hn : l.length - i generalizing i with
  | zero =>
    obtain rfl : i = l.length := by omega
    exact Nat.le_refl _
  | succ n ih =>
    have h2 := ih (i + 1) (by omega) (by omega)
    rw [vl_succ b l i (by omega)] at h2
    have : vl b l i * 1 ≤ vl b l i * b := Nat.mul_le_mul_left _ hb
    omega
theorem dq_dg (d : Nat) (h : d < 16) : dq (dg d) = d := by
  rcases (show d = 0 ∨ d = 1 ∨ d = 2 ∨ d = 3 ∨ d = 4 ∨ d = 5 ∨ d = 6 ∨ d = 7 ∨ d = 8 ∨ d = 9 ∨ d = 10 ∨ d = 11 ∨ d = 12 ∨ d = 13 ∨ d = 14 ∨ d = 15 by omega) with rfl | rfl | rfl | rfl | rfl | rfl | rfl | rfl | rfl | rfl | rfl | rfl | rfl | rfl | rfl | rfl <;> decide +kernel
theorem Digs.val {b : Nat} {D : Nat → List UInt8} (h : Digs b D) (hb : 2 ≤ b) (hb2 : b ≤ 16) (u : Nat) : vl b (D u) (D u).length = u ∧ ∀ c ∈ D u, dq c < b := by
  induction u using Nat.strongRecOn with
  | _ u ih =>
    by_cases hl : u < b
    · rw [h.low u hl]
      refine ⟨?_, fun c hc => ?_⟩
      · simp [vl, dq_dg u (by omega)]
      · simp at hc; subst hc; rw [dq_dg u (by omega)]; exact hl
    · have hd : u / b < u := Nat.div_lt_self (by omega) (by omega)
      obtain ⟨h1, h2⟩ := ih (u / b) hd
      have hm : u % b < b := Nat.mod_lt _ (by omega)
      rw [h.high u hl]
      refine ⟨?_, fun c hc => ?_⟩
      · rw [List.length_append, List.length_singleton, vl_succ _ _ _ (by simp), List.getElem_concat_length (by rfl), dq_dg _ (by omega)]
        have : vl b (D (u / b) ++ [dg (u % b)]) (D (u / b)).length = vl b (D (u / b)) (D (u / b)).length := by unfold vl; rw [List.take_left', List.take_length] <;> rfl
        rw [this, h1]
        exact Nat.div_add_mod' u b
      · rcases List.mem_append.1 hc with hc | hc
        · exact h2 c hc
        · simp at hc; subst hc; rw [dq_dg _ (by omega)]; exact hm
theorem Digs.ne {b : Nat} {D : Nat → List UInt8} (h : Digs b D) (hb : 2 ≤ b) (u : Nat) : 0 < (D u).length := by
  by_cases hl : u < b
  · rw [h.low u hl]; simp
  · rw [h.high u hl]; simp
theorem dig_twenty (u : Nat) (h : u < 18446744073709551616) : (Lib.decDigits u).length ≤ 20 := dig_pow 19 u (by omega)
theorem hex_twenty (u : Nat) (h : u < 18446744073709551616) : (hexD u).length ≤ 20 := Nat.le_trans (hexD_len u 15 (by omega)) (by omega)
/-- What Read answers. -/
def RdOk (D : Nat → List UInt8) (M : Nat) (s : ByteArray) (w : World) (e : Ending) (w' : World) : Prop :=
  ∃ (v : Nat) (b : Bool), v < 18446744073709551616 ∧ e = .returned (.tuple #[.int .u64 (v : Int), .bool b]) ∧ Below w.heap.size w w' ∧ (b = true → s.data.toList = D v ∧ v ≤ M) ∧ ∀ u, u ≤ M → s.data.toList = D u → v = u ∧ b = true
theorem eqS (t s : ByteArray) : (t.toList == s.toList) = true → s.data.toList = t.data.toList := fun h => by
  rw [beq_iff_eq, ByteArray.toList_eq, ByteArray.toList_eq] at h; exact h.symm
end Go.Proofs.YtkgedoedojkdkabDoor
