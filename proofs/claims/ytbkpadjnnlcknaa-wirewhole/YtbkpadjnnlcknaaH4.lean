/-
  The worth of a digit: the contracts of IndexByte over the digits, and of the reference's digit.
-/
import Derived.Test.YtbkpadjnnlcknaaH3
import Derived.Lib.Bytealg
namespace Go.Proofs.Ytbkpadjnnlcknaa
open Go.RowKit
/-- What a digit is worth; -1: it is none. -/
def dv (c : UInt8) : Int := Lib.indexByte digs.data.toList c
theorem toUInt8_toNat (c : UInt8) : ((c.toNat : Int).toNat).toUInt8 = c := by simp
theorem lite_any (c : UInt8) (w : World) :
    Calls Try.prog 30 #[.string ⟨#[48, 49, 50, 51, 52, 53, 54, 55, 56, 57, 97, 98, 99, 100, 101, 102]⟩, .int .u8 (c.toNat : Int)] w fun e w' => e = .returned (.int .i64 (dv c)) ∧ w' = w := by
  go_enter Try.func30, Try.ntmps30
  go_wp2
  rw [run_callFunc_extern Try.func31 (by kernel_rfl) (by kernel_rfl) (by kernel_rfl) (e := Extern.BytealgIndexByte.indexByte) (by kernel_rfl), Lib.run_indexByteString, toUInt8_toNat]
  simp only [Result.andThen]
  rw [Oper.upon_value]
  go_wp2
  go_ret
  exact ⟨rfl, rfl⟩
theorem idx_any (c : UInt8) (w : World) :
    Calls Try.prog 27 #[.string ⟨#[48, 49, 50, 51, 52, 53, 54, 55, 56, 57, 97, 98, 99, 100, 101, 102]⟩, .int .u8 (c.toNat : Int)] w fun e w' => e = .returned (.int .i64 (dv c)) ∧ w' = w := by
  go_enter Try.func27, Try.ntmps27
  go_wp2_with (go_at_call 30; refine (lite_any c _).mono ?_; rintro e w' ⟨rfl, rfl⟩)
  go_ret
  exact ⟨rfl, rfl⟩
theorem index_none (l : List UInt8) (c : UInt8) (h : ∀ x ∈ l, x ≠ c) : Lib.indexByte l c = -1 := by
  induction l with
  | nil => rfl
  | cons b l ih =>
    unfold Lib.indexByte
    rw [ih fun x hx => h x (List.mem_cons_of_mem _ hx)]
    have : (b == c) = false := by simpa using h b (List.mem_cons_self ..)
    rw [this]; rfl
theorem dv_dig : ∀ k, k < 16 → dv (dig k) = (k : Int) := by decide +kernel
theorem dv_none (c : UInt8) (h : ∀ k, k < 16 → dig k ≠ c) : dv c = -1 := by
  refine index_none _ _ fun x hx => ?_
  obtain ⟨k, hk, rfl⟩ := List.mem_iff_getElem.1 hx
  have hk' : k < 16 := hk
  have := h k hk'
  unfold dig at this
  rw [List.getD_eq_getElem?_getD, List.getElem?_eq_getElem hk] at this
  exact this
theorem index_lt (l : List UInt8) (c : UInt8) : Lib.indexByte l c < l.length := by
  induction l with
  | nil => show (-1 : Int) < 0; decide
  | cons b l ih =>
    unfold Lib.indexByte
    rw [List.length_cons]
    split
    · omega
    · split <;> omega
theorem dv_bd (c : UInt8) : -1 ≤ dv c ∧ dv c ≤ 15 := by
  have h1 := Lib.indexByte_ge digs.data.toList c
  have h2 := index_lt digs.data.toList c
  have h3 : digs.data.toList.length = 16 := rfl
  unfold dv; omega
/-- What the reference's digit answers. -/
def dw (c : UInt8) : Nat := if dv c < 0 then 16 else (dv c).toNat
set_option maxRecDepth 100000 in
set_option maxHeartbeats 400000 in
theorem digit_any (c : UInt8) (w : World) :
    Calls Try.prog 28 #[.int .u8 (c.toNat : Int)] w fun e w' => e = .returned (.int .u8 (dw c : Int)) ∧ w' = w := by
  go_enter Try.func28, Try.ntmps28
  go_wp2_with fail
  go_loopw [3] (fun i wr => ∃ k : Nat, k ≤ 16 ∧ i = .int .i64 k ∧ (∀ j, j < k → dig j ≠ c) ∧ wr = w) (fun i _ => 16 - (intOf i).toNat)
  case atStart => exact ⟨0, by omega, rfl, fun j hj => by omega, rfl⟩
  case round =>
    obtain ⟨k, hk, rfl, hall, rfl⟩ := hrel
    have HA : Hid (∀ j, j < k → dig j ≠ c) := hall
    clear hall
    by_cases hlt : k < 16
    · have hd : digs[k]'hlt = dig k := dig_at k hlt
      by_cases e : dig k = c
      · have e1 : (((digs[k]'hlt).toNat : Int) == (c.toNat : Int)) = true := by rw [hd, e]; simp
        have hi : (k : Int) < 16 := by omega
        have hw : dw c = k := by
          have := dv_dig k hlt
          rw [e] at this
          unfold dw; rw [this, if_neg (by omega)]; simp
        have HW : Hid (dw c = k) := hw
        clear hd e hw
        unfold digs at e1
        go_wp2
        go_ret
        exact ⟨by rw [HW.out]; rfl, rfl⟩
      · have e1 : (((digs[k]'hlt).toNat : Int) == (c.toNat : Int)) = false := by
          rw [hd]; simp only [beq_eq_false_iff_ne]; intro h; exact e (UInt8.toNat_inj.1 (by omega))
        have hi : (k : Int) < 16 := by omega
        have HN : Hid (dig k ≠ c) := e
        clear hd e
        unfold digs at e1
        go_wp2
        go_roundw
        case rel => exact ⟨k + 1, by omega, by go_num, fun j hj => by
          by_cases h : j = k
          · subst h; exact HN.out
          · exact HA.out j (by omega), by trivial⟩
        case measure => simp [intOf]; omega
    · obtain rfl : 16 = k := by omega
      have hw : dw c = 16 := by unfold dw; rw [dv_none c HA.out]; rfl
      have HW : Hid (dw c = 16) := hw
      clear hw
      go_wp2
      go_ret
      exact ⟨by rw [HW.out]; rfl, rfl⟩
end Go.Proofs.Ytbkpadjnnlcknaa
