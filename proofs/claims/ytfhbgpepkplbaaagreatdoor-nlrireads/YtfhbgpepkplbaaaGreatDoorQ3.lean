/-
  What the reference's first answers.
-/
import Derived.Test.YtfhbgpepkplbaaaGreatDoorQ2
namespace Go.Proofs.YtfhbgpepkplbaaaGreatDoor
open Go.RowKit
def FirstOk (f : Int) (add : Bool) (l : List UInt8) (w : World) (e : Ending) (w' : World) : Prop :=
  Below w.heap.size w w' ∧ ((okI f add l ∧ e = .returned (.tuple #[.agg #[.int .i64 (nlI f add l).f, .int .u64 (nlI f add l).r, .string (nlI f add l).s, .int .i64 (nlI f add l).l, .int .u32 (nlI f add l).id, .int .u32 (nlI f add l).lb], .int .i64 ((hdN f add + (byN (bitI' f add l)).toNat : Nat) : Int)])) ∨ (¬ okI f add l ∧ ∃ id : Int, e = .returned (.tuple #[.agg #[.int .i64 0, .int .u64 0, .string ⟨#[]⟩, .int .i64 0, .int .u32 id, .int .u32 0], .int .i64 0])))
theorem FsAt.fin {w wx : World} {n : Nl} (h : FsAt w wx n) (v0 v1 v2 v3 v4 v5 : Value) : Below w.heap.size w (set6 wx w.heap.size v0 v1 v2 v3 v4 v5) :=
  (((((h.bel.setCell (Nat.le_refl _) _).setCell (Nat.le_refl _) _).setCell (Nat.le_refl _) _).setCell (Nat.le_refl _) _).setCell (Nat.le_refl _) _).setCell (Nat.le_refl _) _
theorem byte_at (l : List UInt8) (k : Nat) (h : k < l.length) : worth ((l.drop k).take 1) = l[k].toNat := by
  rw [List.drop_eq_getElem_cons h, List.take_succ_cons, List.take_zero]
  simp only [worth, List.foldl_cons, List.foldl_nil]
  omega
theorem m16 (x : Nat) (h : x < 256) : (x : Int) % 4294967296 * 65536 % 4294967296 = (x : Int) * 65536 := by omega
theorem m8 (x : Nat) (h : x < 256) : (x : Int) % 4294967296 * 256 % 4294967296 = (x : Int) * 256 := by omega
theorem m0 (x : Nat) (h : x < 256) : (x : Int) % 4294967296 = (x : Int) := by omega
/-- The three bytes of a label, as the walk spells them. -/
theorem lab_form (a b c : Nat) (ha : a < 256) (hb : b < 256) (hc : c < 256) : bits .or .u32 (bits .or .u32 ((a : Int) % 4294967296 * 65536 % 4294967296) ((b : Int) % 4294967296 * 256 % 4294967296)) ((c : Int) % 4294967296) = ((a * 65536 + b * 256 + c : Nat) : Int) := by
  rw [m16 a ha, m8 b hb, m0 c hc]
  exact ors3 a b c ha hb hc
theorem three_at (l : List UInt8) (k : Nat) (h : k + 2 < l.length) : (l.drop k).take 3 = [l[k], l[k + 1], l[k + 2]] := by
  rw [List.drop_eq_getElem_cons (by omega : k < l.length), List.take_succ_cons, List.drop_eq_getElem_cons (by omega : k + 1 < l.length), List.take_succ_cons, List.drop_eq_getElem_cons h, List.take_succ_cons, List.take_zero]
theorem and1_u32 (v : Nat) (h : v < 4294967296) : bits .and .u32 (v : Int) 1 = ((v % 2 : Nat) : Int) := by
  have := u32_and_nat v 1 h (by omega)
  rw [Nat.and_one_is_mod] at this
  exact this
theorem and_bit : ∀ b : Fin 256, ∀ j : Fin 8, b.val &&& (128 / 2 ^ j.val) = b.val / 2 ^ (7 - j.val) % 2 * 2 ^ (7 - j.val) := by decide +kernel
theorem and_bit' (b j : Nat) (hb : b < 256) (hj : j < 8) : bits .and .u8 (b : Int) ((128 : Int) / 2 ^ j) = ((b / 2 ^ (7 - j) % 2 * 2 ^ (7 - j) : Nat) : Int) := by
  have e : ((128 : Int) / 2 ^ j) = ((128 / 2 ^ j : Nat) : Int) := by simp
  rw [e, u8_and_nat b _ hb (Nat.lt_of_le_of_lt (Nat.div_le_self _ _) (by decide))]
  have := and_bit ⟨b, hb⟩ ⟨j, hj⟩
  exact congrArg Nat.cast this
theorem bitp_lt (b j : Nat) : b / 2 ^ (7 - j) % 2 * 2 ^ (7 - j) < 256 := by
  have h1 : 2 ^ (7 - j) ≤ 2 ^ 7 := Nat.pow_le_pow_right (by omega) (by omega)
  have h2 : b / 2 ^ (7 - j) % 2 ≤ 1 := by omega
  exact Nat.lt_of_le_of_lt (Nat.mul_le_mul h2 h1) (by decide)
theorem worth_nil2 : worth [] = 0 := rfl
theorem addr_zero (b j : Nat) : Addr.add ⟨b, 0, none⟩ j = ⟨b, j, none⟩ := by unfold Addr.add; by_cases e : j = 0 <;> simp [e]
theorem num4_l (l : List UInt8) (k : Nat) (W : World) (h : k + 4 ≤ l.length) (hm : l.length ≤ 1000000) : Calls Tryz.prog 77 #[.string ((⟨l.toArray⟩ : ByteArray).extract k l.length)] W fun e w' => e = .returned (.int .u32 (worth ((l.drop k).take 4) : Nat)) ∧ Below W.heap.size W w' := by
  have e : (⟨l.toArray⟩ : ByteArray).extract k l.length = ⟨(l.drop k).toArray⟩ := by
    apply ByteArray.ext
    simp
    exact List.take_of_length_le (by simp)
  rw [e]
  have := num4_any ⟨(l.drop k).toArray⟩ W (by rw [list_size, List.length_drop]; omega) (by rw [list_size, List.length_drop]; omega)
  simpa using this
theorem worth8 (l : List UInt8) (k : Nat) (h : k + 8 ≤ l.length) : worth ((l.drop k).take 8) = worth ((l.drop k).take 4) * 4294967296 + worth ((l.drop (k + 4)).take 4) := by
  have e : (l.drop k).take 8 = (l.drop k).take 4 ++ (l.drop (k + 4)).take 4 := by
    rw [← List.drop_drop, show 8 = 4 + 4 from rfl, List.take_add]
  have hl : ((l.drop (k + 4)).take 4).length = 4 := by simp; omega
  rw [e]
  show List.foldl _ 0 (_ ++ _) = _
  rw [List.foldl_append]
  have := foldl_worth ((l.drop (k + 4)).take 4) (worth ((l.drop k).take 4))
  rw [hl] at this
  exact this
theorem worth4_lt (l : List UInt8) : worth (l.take 4) < 4294967296 := by
  have := worth_lt (l.take 4)
  have hl : (l.take 4).length ≤ 4 := by simp; omega
  exact Nat.lt_of_lt_of_le this (Nat.le_trans (Nat.pow_le_pow_right (by omega) hl) (by decide))
theorem or_hi (a b : Nat) (ha : a < 4294967296) (hb : b < 4294967296) : bits .or .u64 ((a : Int) * 4294967296) (b : Int) = ((a * 4294967296 + b : Nat) : Int) := by
  have h := bits_or_u64_nat (a * 4294967296) b (by omega) (by omega)
  rw [show ((a * 4294967296 : Nat) : Int) = (a : Int) * 4294967296 from by simp] at h
  rw [h, Nat.mul_comm a 4294967296, Nat.two_pow_add_eq_or_of_lt (i := 32) hb a]
end Go.Proofs.YtfhbgpepkplbaaaGreatDoor
