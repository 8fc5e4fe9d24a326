/-
  Bytes of a number, the highest first: laid and read (no program in here).
-/
import Derived.Test.YtbdfigfjoiefiaaDoorW1
namespace Go.Proofs.YtbdfigfjoiefiaaDoor
/-- The byte of v that has k bytes behind it. -/
def byteAt (v k : Nat) : UInt8 := UInt8.ofNat (v / 2 ^ (8 * k))
/-- The n lowest bytes of v, the highest first. -/
def laid (v : Nat) : Nat → List UInt8
  | 0 => []
  | n + 1 => byteAt v n :: laid v n
theorem laid_length (v n : Nat) : (laid v n).length = n := by
  induction n with
  | zero => rfl
  | succ n ih => simp [laid, ih]
theorem laid_at (v n i : Nat) (h : i < (laid v n).length) : (laid v n)[i] = byteAt v (n - 1 - i) := by
  induction n generalizing i with
  | zero => simp [laid] at h
  | succ n ih =>
    cases i with
    | zero => simp [laid]
    | succ i => simp only [laid, List.getElem_cons_succ]; rw [ih]; congr 1; omega
theorem byteAt_toNat (v k : Nat) : ((byteAt v k).toNat : Int) = (v : Int) / 2 ^ (8 * k) % 256 := by
  unfold byteAt
  rw [UInt8.toNat_ofNat']
  simp
/-- The number that bytes lay. -/
def worth (l : List UInt8) : Nat := l.foldl (fun a c => a * 256 + c.toNat) 0
theorem worth_snoc (l : List UInt8) (c : UInt8) : worth (l ++ [c]) = worth l * 256 + c.toNat := by simp [worth]
theorem foldl_worth (l : List UInt8) (a : Nat) : l.foldl (fun a c => a * 256 + c.toNat) a = a * 256 ^ l.length + worth l := by
  induction l generalizing a with
  | nil => simp [worth]
  | cons c l ih =>
    simp only [worth, List.foldl_cons, List.length_cons]
    rw [ih, ih (0 * 256 + c.toNat), Nat.pow_succ]
    rw [Nat.add_mul, Nat.mul_assoc, Nat.mul_comm 256 (256 ^ l.length), Nat.zero_mul, Nat.zero_add, Nat.add_assoc]
theorem worth_cons (c : UInt8) (l : List UInt8) : worth (c :: l) = c.toNat * 256 ^ l.length + worth l := by
  show List.foldl _ (0 * 256 + c.toNat) l = _
  rw [foldl_worth]; simp
theorem worth_lt (l : List UInt8) : worth l < 256 ^ l.length := by
  induction l with
  | nil => simp [worth]
  | cons c l ih =>
    rw [worth_cons, List.length_cons, Nat.pow_succ]
    have := c.toNat_lt
    have h : c.toNat * 256 ^ l.length ≤ 255 * 256 ^ l.length := Nat.mul_le_mul_right _ (by omega)
    omega
theorem worth_laid (v n : Nat) : worth (laid v n) = v % 256 ^ n := by
  induction n with
  | zero => simp [laid, worth, Nat.mod_one]
  | succ n ih =>
    rw [laid, worth_cons, laid_length, ih]
    unfold byteAt
    rw [UInt8.toNat_ofNat', Nat.pow_mul, show 2 ^ 8 = 256 from rfl, Nat.pow_succ, Nat.mod_mul, Nat.add_comm, Nat.mul_comm]
end Go.Proofs.YtbdfigfjoiefiaaDoor
