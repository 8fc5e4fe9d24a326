/-
  The contract of the reference's Cmp, for every two prefixes.
-/
import Derived.Test.YtjliopclpjeieaaDoorBB
namespace Go.Proofs.YtjliopclpjeieaaDoor
open Go.RowKit
theorem pcmp_f {fa ra : Int} {sa : ByteArray} {la fb rb : Int} {sb : ByteArray} {lb : Int} (h : fa ≠ fb) : pcmp fa ra sa la fb rb sb lb = ord fa fb := by
  unfold pcmp; rw [if_pos (fun e => h (ord_zero.1 e))]
theorem pcmp_r {fa ra : Int} {sa : ByteArray} {la rb : Int} {sb : ByteArray} {lb : Int} (h : ra ≠ rb) : pcmp fa ra sa la fa rb sb lb = ord ra rb := by
  unfold pcmp; rw [if_neg (by rw [ord_zero.2 rfl]; omega), if_pos (fun e => h (ord_zero.1 e))]
theorem pcmp_s {fa ra : Int} {sa : ByteArray} {la : Int} {sb : ByteArray} {lb : Int} (h : ordS sa.toList sb.toList ≠ 0) : pcmp fa ra sa la fa ra sb lb = ordS sa.toList sb.toList := by
  unfold pcmp; rw [if_neg (by rw [ord_zero.2 rfl]; omega), if_neg (by rw [ord_zero.2 rfl]; omega), if_pos h]
theorem pcmp_l {fa ra : Int} {sa : ByteArray} {la : Int} {sb : ByteArray} {lb : Int} (h : ordS sa.toList sb.toList = 0) : pcmp fa ra sa la fa ra sb lb = ord la lb := by
  unfold pcmp; rw [if_neg (by rw [ord_zero.2 rfl]; omega), if_neg (by rw [ord_zero.2 rfl]; omega), if_neg (by omega)]
theorem getD_at (s : ByteArray) (k : Nat) (h : k < s.size) : s[k] = s.data.toList.getD k 0 := by
  have h' : k < s.data.toList.length := by simpa using h
  rw [List.getD_eq_getElem?_getD, List.getElem?_eq_getElem h']; rfl
theorem ordS_byte (sa sb : ByteArray) (k : Nat) (h1 : k < sa.size) (h2 : k < sb.size) (h : ∀ j, j < k → sa.data.toList.getD j 0 = sb.data.toList.getD j 0) (hn : sa[k] ≠ sb[k]) : ordS sa.toList sb.toList = ord (sa[k].toNat : Int) (sb[k].toNat : Int) := by
  have l1 : k < sa.data.toList.length := by simpa using h1
  have l2 : k < sb.data.toList.length := by simpa using h2
  rw [ByteArray.toList_eq, ByteArray.toList_eq]
  refine ordS_diff sa.data.toList sb.data.toList k l1 l2 (fun j p q hj => ?_) hn
  have := h j hj
  rw [List.getD_eq_getElem?_getD, List.getD_eq_getElem?_getD, List.getElem?_eq_getElem p, List.getElem?_eq_getElem q] at this
  exact this
theorem ordS_len (sa sb : ByteArray) (h : ∀ j, j < sa.size → j < sb.size → sa.data.toList.getD j 0 = sb.data.toList.getD j 0) : ordS sa.toList sb.toList = ord (sa.size : Int) (sb.size : Int) := by
  have l1 : sa.data.toList.length = sa.size := by simp
  have l2 : sb.data.toList.length = sb.size := by simp
  rw [ByteArray.toList_eq, ByteArray.toList_eq, ← l1, ← l2]
  refine ordS_same _ _ fun j p q => ?_
  have := h j (by omega) (by omega)
  rw [List.getD_eq_getElem?_getD, List.getD_eq_getElem?_getD, List.getElem?_eq_getElem p, List.getElem?_eq_getElem q] at this
  exact this
end Go.Proofs.YtjliopclpjeieaaDoor
