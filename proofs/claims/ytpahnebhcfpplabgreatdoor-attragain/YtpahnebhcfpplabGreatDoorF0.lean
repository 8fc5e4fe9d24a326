/-
  The text and the bytes of a path, as plain lists of bytes. Nothing of the program is named here.
-/
import Derived.Test.YtpahnebhcfpplabGreatDoorS0
import Derived.Test.YtpahnebhcfpplabGreatDoorW2
namespace Go.Proofs.YtpahnebhcfpplabGreatDoor
/-- The number by which an AS is laid. -/
def fitN (four : Bool) (a : Nat) : Nat := if !four && decide (65535 < a) then 23456 else a
def szN (four : Bool) : Nat := if four then 4 else 2
/-- The bytes of ASs, of a segment, of a path. -/
def asE (four : Bool) (l : List Nat) : List UInt8 := l.flatMap fun a => laid (fitN four a) (szN four)
def segE (four : Bool) (s : Sg) : List UInt8 := laid s.1.toNat 1 ++ laid s.2.length 1 ++ asE four s.2
def encOf (four : Bool) (L : List Sg) : List UInt8 := L.flatMap (segE four)
theorem asE_snoc (four : Bool) (l : List Nat) (a : Nat) : asE four (l ++ [a]) = asE four l ++ laid (fitN four a) (szN four) := by simp [asE]
theorem encOf_snoc (four : Bool) (L : List Sg) (s : Sg) : encOf four (L ++ [s]) = encOf four L ++ segE four s := by simp [encOf]
theorem asE_length (four : Bool) (l : List Nat) : (asE four l).length = l.length * szN four := by
  induction l with
  | nil => simp [asE]
  | cons a l ih => simp only [asE, List.flatMap_cons, List.length_append, laid_length, List.length_cons, Nat.add_mul, Nat.one_mul] at *; omega
theorem segE_length (four : Bool) (s : Sg) : (segE four s).length = 2 + s.2.length * szN four := by
  simp [segE, laid_length, asE_length]; omega
theorem encOf_le (four : Bool) (L : List Sg) (h : ∀ s ∈ L, s.2.length ≤ 255) : (encOf four L).length ≤ L.length * 1022 := by
  induction L with
  | nil => simp [encOf]
  | cons s L ih =>
    have h1 := h s (by simp)
    have h2 := ih (fun t ht => h t (by simp [ht]))
    have h3 := segE_length four s
    have h4 : s.2.length * szN four ≤ 255 * 4 := Nat.mul_le_mul h1 (by unfold szN; split <;> omega)
    simp only [encOf, List.flatMap_cons, List.length_append, List.length_cons, Nat.add_mul] at *
    omega
theorem fitN_lt (four : Bool) (a : Nat) (h : a < 4294967296) : fitN four a < 256 ^ szN four := by
  unfold fitN szN
  cases four with
  | true => simp; omega
  | false => by_cases h1 : 65535 < a <;> simp [h1] <;> omega
end Go.Proofs.YtpahnebhcfpplabGreatDoor
