/-
  Bytes out of digits (no program in here).
-/
import Derived.Test.YtbkpadjnnlcknaaH4
namespace Go.Proofs.Ytbkpadjnnlcknaa
/-- The sign at a place. -/
def atB (s : ByteArray) (i : Nat) : UInt8 := s.data.toList.getD i 0
theorem atB_eq (s : ByteArray) (i : Nat) (h : i < s.size) : s[i] = atB s i := by
  have h' : i < s.data.toList.length := by simpa using h
  unfold atB
  rw [List.getD_eq_getElem?_getD, List.getElem?_eq_getElem h']; rfl
/-- Two digits stand at pair j. -/
abbrev okp (s : ByteArray) (j : Nat) : Prop := 0 ≤ dv (atB s (2 * j)) ∧ 0 ≤ dv (atB s (2 * j + 1))
/-- The byte of pair j. -/
def pv (s : ByteArray) (j : Nat) : UInt8 := UInt8.ofNat (16 * (dv (atB s (2 * j))).toNat + (dv (atB s (2 * j + 1))).toNat)
/-- The bytes of the first k pairs. -/
def unB (s : ByteArray) (k : Nat) : List UInt8 := (List.range k).map (pv s)
theorem unB_succ (s : ByteArray) (k : Nat) : unB s (k + 1) = unB s k ++ [pv s k] := by simp [unB, List.range_succ]
theorem unB_length (s : ByteArray) (k : Nat) : (unB s k).length = k := by simp [unB]
/-- What is read of digits. -/
def unOut (s : ByteArray) : Value := if s.size % 2 = 0 ∧ ∀ j, j < s.size / 2 → okp s j then .tuple #[.string ⟨(unB s (s.size / 2)).toArray⟩, .int .i64 0] else .tuple #[.string ⟨#[]⟩, .int .i64 4]
theorem unOut_odd (s : ByteArray) (h : s.size % 2 ≠ 0) : unOut s = .tuple #[.string ⟨#[]⟩, .int .i64 4] := if_neg fun x => h x.1
theorem unOut_bad (s : ByteArray) (k : Nat) (hk : k < s.size / 2) (h : ¬ okp s k) : unOut s = .tuple #[.string ⟨#[]⟩, .int .i64 4] := if_neg fun x => h (x.2 k hk)
theorem unOut_good (s : ByteArray) (he : s.size % 2 = 0) (h : ∀ j, j < s.size / 2 → okp s j) : unOut s = .tuple #[.string ⟨(unB s (s.size / 2)).toArray⟩, .int .i64 0] := if_pos ⟨he, h⟩
theorem pv_toNat (s : ByteArray) (j a b : Nat) (ha : dv (atB s (2 * j)) = (a : Int)) (hb : dv (atB s (2 * j + 1)) = (b : Int)) (h1 : a < 16) (h2 : b < 16) : (pv s j).toNat = 16 * a + b := by
  unfold pv
  rw [ha, hb, UInt8.toNat_ofNat', Int.toNat_natCast, Int.toNat_natCast]
  omega
end Go.Proofs.Ytbkpadjnnlcknaa
