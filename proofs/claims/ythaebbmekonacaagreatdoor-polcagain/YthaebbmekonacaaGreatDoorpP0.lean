/-
  Plain facts on bytes, masks and bits: nothing of the program is named here.
-/
import Derived.Laws.BitsAllLaws
import Derived.Lib.RabinKarpLaws
import Derived.RowKit
namespace Go.Proofs.YthaebbmekonacaaGreatDoor.Pr

/-- A byte's first n bits. -/
def mk (n : Int) : UInt8 := if n ≤ 0 then 0 else if 8 ≤ n then 255 else UInt8.ofNat (255 * 2 ^ (8 - n).toNat % 256)
/-- The first n bits of bytes, of the first k bytes alone. -/
def mskTo (l : List UInt8) (n : Int) (k : Nat) : List UInt8 := l.mapIdx (fun i b => if i < k then b &&& mk (n - 8 * i) else b)
/-- The first n bits of bytes. -/
def msk (l : List UInt8) (n : Int) : List UInt8 := l.mapIdx (fun i b => b &&& mk (n - 8 * i))
/-- The bit n of bytes; 0, if there is none. -/
def bitAt (l : List UInt8) (n : Nat) : Nat := (l.getD (n / 8) 0).toNat / 2 ^ (7 - n % 8) % 2

theorem mskTo_zero (l : List UInt8) (n : Int) : mskTo l n 0 = l := by
  apply List.ext_getElem
  · simp [mskTo]
  · intro i h1 h2; simp [mskTo]
theorem mskTo_all (l : List UInt8) (n : Int) (k : Nat) (h : l.length ≤ k) : mskTo l n k = msk l n := by
  apply List.ext_getElem
  · simp [mskTo, msk]
  · intro i h1 h2
    have : i < k := by simp [mskTo] at h1; omega
    simp [mskTo, msk, this]
theorem mskTo_length (l : List UInt8) (n : Int) (k : Nat) : (mskTo l n k).length = l.length := by simp [mskTo]
theorem msk_length (l : List UInt8) (n : Int) : (msk l n).length = l.length := by simp [msk]
theorem mskTo_at (l : List UInt8) (n : Int) (k : Nat) (h : k < (mskTo l n k).length) : (mskTo l n k)[k] = l[k]'(by simpa [mskTo] using h) := by simp [mskTo]
theorem mskTo_succ (l : List UInt8) (n : Int) (k : Nat) (h : k < l.length) : mskTo l n (k + 1) = (mskTo l n k).set k (l[k] &&& mk (n - 8 * k)) := by
  apply List.ext_getElem
  · simp [mskTo]
  · intro i h1 h2
    simp only [mskTo, List.getElem_mapIdx, List.getElem_set]
    by_cases e : k = i
    · subst e; simp
    · by_cases g : i < k
      · simp [e, g, show i < k + 1 by omega]
      · simp [e, g, show ¬ i < k + 1 by omega]
theorem and_u8 (a b : UInt8) : bits .and .u8 (a.toNat : Int) (b.toNat : Int) = ((a &&& b).toNat : Int) := by
  rw [u8_and_nat _ _ a.toNat_lt b.toNat_lt]; simp
theorem mk_toNat (n : Int) (h0 : 0 ≤ n) (h1 : n ≤ 8) : ((mk n).toNat : Int) = 255 * 2 ^ (8 - n).toNat % 256 := by
  have h : n = 0 ∨ n = 1 ∨ n = 2 ∨ n = 3 ∨ n = 4 ∨ n = 5 ∨ n = 6 ∨ n = 7 ∨ n = 8 := by omega
  rcases h with rfl | rfl | rfl | rfl | rfl | rfl | rfl | rfl | rfl <;> decide
theorem mk_neg (n : Int) (h0 : n < 0) : ((mk n).toNat : Int) = 0 := by simp [mk, show n ≤ 0 by omega]
theorem mk_big (n : Int) (h0 : 8 ≤ n) : ((mk n).toNat : Int) = 255 := by simp [mk, show ¬ n ≤ 0 by omega, h0]
theorem mk_all (n : Int) : ((mk n).toNat : Int) = 255 * 2 ^ (8 - min (max n 0) 8).toNat % 256 := by
  by_cases a : n < 0
  · rw [mk_neg n a, show min (max n 0) 8 = 0 by omega]; decide
  · by_cases b : 8 < n
    · rw [mk_big n (by omega), show min (max n 0) 8 = 8 by omega]; decide
    · rw [mk_toNat n (by omega) (by omega), show min (max n 0) 8 = n by omega]
/-- A test of bits: the walk's spelling of a bit. -/
theorem bit_form (x n : Nat) (hx : x < 256) : bits .and .i64 (RowKit.wrap64 ((x : Int) / 2 ^ (7 - n % 8))) 1 = ((x / 2 ^ (7 - n % 8) % 2 : Nat) : Int) := by
  have hle : x / 2 ^ (7 - n % 8) ≤ x := Nat.div_le_self _ _
  have e : ((x : Int) / 2 ^ (7 - n % 8)) = ((x / 2 ^ (7 - n % 8) : Nat) : Int) := by simp
  rw [e]
  generalize x / 2 ^ (7 - n % 8) = y at *
  rw [show RowKit.wrap64 (y : Int) = (y : Int) by unfold RowKit.wrap64; omega]
  exact and_one _ (by omega)
end Go.Proofs.YthaebbmekonacaaGreatDoor.Pr
