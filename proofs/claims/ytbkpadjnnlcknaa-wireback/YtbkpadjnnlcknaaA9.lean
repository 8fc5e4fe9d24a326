/-
  Numbers laid one behind the other (no program in here).
-/
import Derived.Test.YtbkpadjnnlcknaaA2
namespace Go.Proofs.Ytbkpadjnnlcknaa
/-- In how many bytes a number is laid. -/
def szOf (x : Int) : Nat := 1 + (x % 8).toNat
theorem szOf_bd (x : Int) : 1 ≤ szOf x ∧ szOf x ≤ 8 := by unfold szOf; omega
/-- The bytes of the number at place i. -/
def piece (V : Nat → Nat) (S : Nat → Int) (i : Nat) : List UInt8 := laid (V i % 256 ^ szOf (S i)) (szOf (S i))
/-- The bytes of the first k numbers. -/
def body (V : Nat → Nat) (S : Nat → Int) : Nat → List UInt8
  | 0 => []
  | k + 1 => body V S k ++ piece V S k
theorem piece_length (V : Nat → Nat) (S : Nat → Int) (i : Nat) : (piece V S i).length = szOf (S i) := laid_length _ _
theorem body_length (V : Nat → Nat) (S : Nat → Int) (k : Nat) : (body V S k).length ≤ 8 * k := by
  induction k with
  | zero => simp [body]
  | succ k ih =>
    have := szOf_bd (S k)
    simp only [body, List.length_append, piece_length]
    omega
theorem body_split (V : Nat → Nat) (S : Nat → Int) (k m : Nat) (h : k ≤ m) : ∃ t, body V S m = body V S k ++ t := by
  induction m with
  | zero => exact ⟨[], by rw [show k = 0 from by omega]; simp⟩
  | succ m ih =>
    by_cases e : k = m + 1
    · subst e; exact ⟨[], by simp⟩
    · obtain ⟨t, ht⟩ := ih (by omega)
      exact ⟨t ++ piece V S m, by simp [body, ht]⟩
/-- What is left behind the first k of m numbers. -/
def tail (V : Nat → Nat) (S : Nat → Int) (m k : Nat) : List UInt8 := (body V S m).drop (body V S k).length
theorem tail_zero (V : Nat → Nat) (S : Nat → Int) (m : Nat) : tail V S m 0 = body V S m := by simp [tail, body]
theorem tail_all (V : Nat → Nat) (S : Nat → Int) (m : Nat) : tail V S m m = [] := by simp [tail]
theorem tail_succ (V : Nat → Nat) (S : Nat → Int) (m k : Nat) (h : k < m) : tail V S m k = piece V S k ++ tail V S m (k + 1) := by
  obtain ⟨t, ht⟩ := body_split V S (k + 1) m h
  unfold tail
  rw [ht]
  simp [body]
theorem worth_piece (V : Nat → Nat) (S : Nat → Int) (i : Nat) : worth (piece V S i) = V i % 256 ^ szOf (S i) := by
  unfold piece
  rw [worth_laid, Nat.mod_mod]
theorem shl_form (n : Nat) (h : n < 8) : IntKind.u64.wrap (2 ^ (8 * n)) = ((256 ^ n : Nat) : Int) := by
  have e : (2 : Int) ^ (8 * n) = ((256 ^ n : Nat) : Int) := by rw [show 256 = 2 ^ 8 from rfl, ← Nat.pow_mul]; simp
  rw [e]
  have hb : 256 ^ n < 18446744073709551616 := Nat.lt_of_le_of_lt (Nat.pow_le_pow_right (by omega) (show n ≤ 7 by omega)) (by decide)
  generalize 256 ^ n = M at *
  simp [IntKind.wrap, IntKind.bits, IntKind.signed]
  omega
open Go.RowKit in
/-- The walk's spelling of a size. -/
theorem szOf_form (x : Int) : wrap64 (1 + (wrap64 (x.tmod 8 + 8)).tmod 8) = (szOf x : Int) := by
  have hm := Int.tmod_lt_of_pos x (show (0 : Int) < 8 by omega)
  have hm' := Int.lt_tmod_of_pos x (show (0 : Int) < 8 by omega)
  have e1 : wrap64 (x.tmod 8 + 8) = x.tmod 8 + 8 := by unfold wrap64; omega
  have e2 : (x.tmod 8 + 8).tmod 8 = x % 8 := by
    rw [Int.tmod_eq_emod_of_nonneg (by omega), Int.add_emod_right, Int.tmod_eq_emod]
    split <;> omega
  rw [e1, e2]
  unfold wrap64 szOf
  omega
end Go.Proofs.Ytbkpadjnnlcknaa
