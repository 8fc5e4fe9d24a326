/-
  The text and the bytes of a path, as plain lists of bytes. Nothing of the program is named here.
-/
import Derived.Test.YtbdfigfjoiefiaaDoorS0
import Derived.Test.YtbdfigfjoiefiaaDoorW2
import Derived.Lib.Join
import Derived.Lib.ItoaNum
namespace Go.Proofs.YtbdfigfjoiefiaaDoor
def opn (k : Nat) : UInt8 := if k = 1 then 123 else if k = 2 then 60 else if k = 3 then 40 else 91
def shut (k : Nat) : UInt8 := if k = 1 then 125 else if k = 2 then 62 else if k = 3 then 41 else 93
/-- The text of a segment. -/
def segT (s : Sg) : List UInt8 := [opn s.1.toNat] ++ Lib.join (s.2.map Lib.decDigits) [32] ++ [shut s.1.toNat]
/-- The text of a path. -/
def textOf (L : List Sg) : List UInt8 := if L = [] then [45] else Lib.join (L.map segT) [32]
/-- The number by which an AS is laid. -/
def fitN (four : Bool) (a : Nat) : Nat := if !four && decide (65535 < a) then 23456 else a
def szN (four : Bool) : Nat := if four then 4 else 2
/-- The bytes of ASs, of a segment, of a path. -/
def asE (four : Bool) (l : List Nat) : List UInt8 := l.flatMap fun a => laid (fitN four a) (szN four)
def segE (four : Bool) (s : Sg) : List UInt8 := laid s.1.toNat 1 ++ laid s.2.length 1 ++ asE four s.2
def encOf (four : Bool) (L : List Sg) : List UInt8 := L.flatMap (segE four)
theorem join_le (xs : List (List UInt8)) (m : Nat) (h : ∀ x ∈ xs, x.length ≤ m) : (Lib.join xs [32]).length ≤ xs.length * (m + 1) := by
  cases xs with
  | nil => simp [Lib.join_nil]
  | cons x r =>
    rw [Lib.join_length]
    have : ∀ (ys : List (List UInt8)), (∀ y ∈ ys, y.length ≤ m) → Lib.lens ys ≤ ys.length * m := by
      intro ys
      induction ys with
      | nil => intro _; simp [Lib.lens]
      | cons y ys ih =>
        intro hy
        have h1 := hy y (by simp)
        have h2 := ih (fun z hz => hy z (by simp [hz]))
        simp only [Lib.lens, List.length_cons, Nat.add_mul, List.map_cons, List.sum_cons] at *
        omega
    have h3 := this (x :: r) h
    simp only [List.length_cons, List.length_nil, Nat.zero_add, Nat.one_mul, Nat.mul_add, Nat.mul_one] at *
    omega
theorem dig_le (n : Nat) (h : n < 18446744073709551616) : (Lib.decDigits n).length ≤ 20 := by
  rw [Lib.decDigits_length]
  by_cases h1 : 1 ≤ n
  · have := Lib.numDigits_eq n h1 h; split at this <;> omega
  · obtain rfl : n = 0 := by omega
    decide +kernel
theorem digs_le (l : List Nat) (h : ∀ x ∈ l, x < 4294967296) (hl : l.length ≤ 255) : (Lib.join (l.map Lib.decDigits) [32]).length ≤ 5355 := by
  have := join_le (l.map Lib.decDigits) 20 (fun x hx => by
    obtain ⟨n, hn, rfl⟩ := List.mem_map.mp hx
    exact dig_le n (by have := h n hn; omega))
  rw [List.length_map] at this
  omega
theorem segT_le (s : Sg) (h : ∀ x ∈ s.2, x < 4294967296) (hl : s.2.length ≤ 255) : (segT s).length ≤ 5357 := by
  have := digs_le s.2 h hl
  simp [segT]; omega
theorem asE_snoc (four : Bool) (l : List Nat) (a : Nat) : asE four (l ++ [a]) = asE four l ++ laid (fitN four a) (szN four) := by simp [asE]
theorem encOf_snoc (four : Bool) (L : List Sg) (s : Sg) : encOf four (L ++ [s]) = encOf four L ++ segE four s := by simp [encOf]
theorem asE_length (four : Bool) (l : List Nat) : (asE four l).length = l.length * szN four := by
  induction l with
  | nil => simp [asE]
  | cons a l ih => simp only [asE, List.flatMap_cons, List.length_append, laid_length, List.length_cons, Nat.add_mul, Nat.one_mul] at *; omega
theorem segE_length (four : Bool) (s : Sg) : (segE four s).length = 2 + s.2.length * szN four := by
  simp [segE, laid_length, asE_length]; omega
theorem encOf_le (four : Bool) (L : List Sg) (h : ∀ s ∈ L, s.2.length ≤ 255) : (encOf four L).length ≤ L.length * 1022 := by
  induction L with
  | nil => simp [encOf]
  | cons s L ih =>
    have h1 := h s (by simp)
    have h2 := ih (fun t ht => h t (by simp [ht]))
    have h3 := segE_length four s
    have h4 : s.2.length * szN four ≤ 255 * 4 := Nat.mul_le_mul h1 (by unfold szN; split <;> omega)
    simp only [encOf, List.flatMap_cons, List.length_append, List.length_cons, Nat.add_mul] at *
    omega
theorem fitN_lt (four : Bool) (a : Nat) (h : a < 4294967296) : fitN four a < 256 ^ szN four := by
  unfold fitN szN
  cases four with
  | true => simp; omega
  | false => by_cases h1 : 65535 < a <;> simp [h1] <;> omega
end Go.Proofs.YtbdfigfjoiefiaaDoor
