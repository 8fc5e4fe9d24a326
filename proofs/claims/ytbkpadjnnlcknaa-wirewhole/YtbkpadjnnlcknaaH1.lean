/-
  Bytes as digits (no program in here).
-/
import Derived.Test.YtbkpadjnnlcknaaA2
import Derived.Laws.BitsAllLaws
namespace Go.Proofs.Ytbkpadjnnlcknaa
/-- The digits, at what they mean. -/
def digs : ByteArray := ⟨#[48, 49, 50, 51, 52, 53, 54, 55, 56, 57, 97, 98, 99, 100, 101, 102]⟩
theorem digs_size : digs.size = 16 := rfl
/-- The digit of a number below 16. -/
def dig (n : Nat) : UInt8 := digs.data.toList.getD n 0
theorem dig_at (n : Nat) (h : n < digs.size) : digs[n] = dig n := by
  have h' : n < digs.data.toList.length := h
  unfold dig
  rw [List.getD_eq_getElem?_getD, List.getElem?_eq_getElem h']
  rfl
/-- A byte's two digits. -/
def two (c : UInt8) : List UInt8 := [dig (c.toNat / 16), dig (c.toNat % 16)]
/-- The digits of bytes. -/
def hexL : List UInt8 → List UInt8
  | [] => []
  | c :: l => two c ++ hexL l
theorem hexL_append (a b : List UInt8) : hexL (a ++ b) = hexL a ++ hexL b := by
  induction a with
  | nil => rfl
  | cons c a ih => simp [hexL, ih]
theorem hexL_snoc (a : List UInt8) (c : UInt8) : hexL (a ++ [c]) = hexL a ++ two c := by rw [hexL_append]; simp [hexL]
theorem hexL_length (a : List UInt8) : (hexL a).length = 2 * a.length := by
  induction a with
  | nil => rfl
  | cons c a ih => simp [hexL, two, ih]; omega
theorem and15 (c : Nat) (h : c < 256) : bits .and .u8 (c : Int) 15 = ((c % 16 : Nat) : Int) := by
  have e := u8_and_nat c 15 h (by omega)
  rw [show ((15 : Nat) : Int) = 15 from rfl] at e
  rw [e, Nat.and_two_pow_sub_one_eq_mod c 4]
end Go.Proofs.Ytbkpadjnnlcknaa
