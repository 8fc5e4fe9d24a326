/-
  The label of three bytes; an address of its first bits.
-/
import Derived.Test.YtfhbgpepkplbaaaGreatDoorN3
import Derived.Test.YtfhbgpepkplbaaaGreatDoorWA
namespace Go.Proofs.YtfhbgpepkplbaaaGreatDoor
open Go.RowKit
/-- The label that three bytes lay. -/
def labI (v : Nat) : Nat × Bool := if v = 8388608 then (0, true) else if v % 2 = 0 then (0, false) else (v / 16, true)
theorem and1_u64 (v : Nat) (h : v < 18446744073709551616) : bits .and .u64 (v : Int) 1 = ((v % 2 : Nat) : Int) := by
  have := bits_and_u64_nat v 1 h (by omega)
  rw [Nat.and_one_is_mod] at this
  exact this
theorem labelOf_any (v : Nat) (w : World) (h : v < 16777216) :
    Calls Tryz.prog 75 #[.int .u64 v] w fun e w' => e = .returned (.tuple #[.int .u32 ((labI v).1 : Nat), .bool (labI v).2]) ∧ w' = w := by
  by_cases h0 : v = 8388608
  · subst h0
    go_enter Tryz.func75, Tryz.ntmps75
    go_wp2
    go_ret2
    exact ⟨rfl, rfl⟩
  · have h0' : ((v : Int) == 8388608) = false := by simp; omega
    have ha := and1_u64 v (by omega)
    by_cases h1 : v % 2 = 0
    · have HL : Hid (labI v = (0, false)) := by unfold Hid labI; rw [if_neg h0, if_pos h1]
      rw [h1] at ha
      clear h0
      go_enter Tryz.func75, Tryz.ntmps75
      go_wp2
      go_ret2
      rw [HL.out]
      exact ⟨rfl, rfl⟩
    · have HL : Hid (labI v = (v / 16, true)) := by unfold Hid labI; rw [if_neg h0, if_neg h1]
      have h2 : v % 2 = 1 := by omega
      rw [h2] at ha
      clear h0
      go_enter Tryz.func75, Tryz.ntmps75
      go_wp2
      go_ret2
      rw [HL.out]
      exact ⟨rfl, rfl⟩
def pad (l : List UInt8) (n : Nat) : List UInt8 := (l ++ List.replicate n 0).take n
theorem pad_length (l : List UInt8) (n : Nat) : (pad l n).length = n := by simp [pad]
theorem pad_get (l : List UInt8) (n q : Nat) (h : q < n) : (pad l n).getD q 0 = l.getD q 0 := by
  unfold pad
  rw [List.getD_eq_getElem?_getD, List.getD_eq_getElem?_getD, List.getElem?_take_of_lt h]
  by_cases e : q < l.length
  · rw [List.getElem?_append_left e]
  · rw [List.getElem?_append_right (by omega), List.getElem?_eq_none (by omega : l.length ≤ q), List.getElem?_replicate, if_pos (by omega)]
    rfl
theorem bitAt_pad (l : List UInt8) (n k : Nat) (h : k / 8 < n) : bitAt (pad l n) k = bitAt l k := by
  unfold bitAt
  rw [pad_get l n _ h]
/-- An address with the first bits of what was laid. -/
def adr (l : List UInt8) (bits n : Nat) : List UInt8 := msk (pad l n) bits
theorem adr_length (l : List UInt8) (bits n : Nat) : (adr l bits n).length = n := by rw [adr, msk_length, pad_length]
theorem adr_zero (l : List UInt8) (n : Nat) : adr l 0 n = List.replicate n 0 := by
  apply List.ext_getElem
  · simp [adr_length]
  · intro i h1 h2
    have : (0 : Int) ≤ 8 * (i : Int) := by omega
    simp [adr, msk, mk, this]
theorem or_step : ∀ b : Fin 256, ∀ j : Fin 8, UInt8.ofNat b.val &&& mk (j.val + 1 : Int) = (UInt8.ofNat b.val &&& mk (j.val : Int)) ||| UInt8.ofNat (b.val / 2 ^ (7 - j.val) % 2 * 2 ^ (7 - j.val)) := by decide +kernel
theorem adr_succ (l : List UInt8) (k n : Nat) (h : k / 8 < n) : adr l (k + 1) n = (adr l k n).set (k / 8) ((adr l k n).getD (k / 8) 0 ||| UInt8.ofNat (bitAt l k * 2 ^ (7 - k % 8))) := by
  have hb := bitAt_pad l n k h
  apply List.ext_getElem
  · simp [adr_length]
  · intro i h1 h2
    rw [adr_length] at h1
    rw [List.getElem_set]
    have e1 : ∀ (m : Nat) (q : Nat) (hq : q < (adr l m n).length), (adr l m n)[q] = (pad l n)[q]'(by rw [pad_length]; rwa [adr_length] at hq) &&& mk ((m : Int) - 8 * q) := fun m q hq => by simp [adr, msk]
    split
    · rename_i e
      subst e
      rw [List.getD_eq_getElem?_getD, List.getElem?_eq_getElem (by rw [adr_length]; exact h), Option.getD_some, e1, e1]
      have hx : bitAt l k = ((pad l n)[k / 8]'(by rw [pad_length]; exact h)).toNat / 2 ^ (7 - k % 8) % 2 := by
        rw [← hb, bitAt, List.getD_eq_getElem?_getD, List.getElem?_eq_getElem (by rw [pad_length]; exact h)]
        rfl
      rw [hx]
      generalize (pad l n)[k / 8]'(by rw [pad_length]; exact h) = b
      have := or_step ⟨b.toNat, b.toNat_lt⟩ ⟨k % 8, Nat.mod_lt _ (by decide)⟩
      simp only [UInt8.ofNat_toNat] at this
      have a1 : (((k + 1 : Nat) : Int) - 8 * ((k / 8 : Nat) : Int)) = ((k % 8 : Nat) : Int) + 1 := by omega
      have a2 : ((k : Int) - 8 * ((k / 8 : Nat) : Int)) = ((k % 8 : Nat) : Int) := by omega
      rw [a1, a2]
      exact this
    · rename_i e
      rw [e1, e1]
      congr 1
      by_cases g : i < k / 8
      · unfold mk
        rw [if_neg (by omega), if_pos (by omega), if_neg (by omega), if_pos (by omega)]
      · unfold mk
        rw [if_pos (by omega), if_pos (by omega)]
theorem or_u8 (a : UInt8) (x : Nat) (y : Int) (h : y = ((x % 256 : Nat) : Int)) : bits .or .u8 (a.toNat : Int) y = ((a ||| UInt8.ofNat x).toNat : Int) := by
  subst h
  rw [u8_or_nat _ _ a.toNat_lt (Nat.mod_lt _ (by decide))]
  simp
set_option maxRecDepth 100000 in
set_option maxHeartbeats 1600000 in
theorem address_any (l : List UInt8) (bits n : Nat) (w : World) (hn : n ≤ 16) (hl : l.length ≤ 1000000) (hb : bits ≤ 8 * n) :
    Calls Tryz.prog 76 #[.string ⟨l.toArray⟩, .int .i64 bits, .int .i64 n] w fun e w' => e = .returned (.string ⟨(adr l bits n).toArray⟩) ∧ Below w.heap.size w w' := by
  have hm := made_bytes n (by omega)
  have HM : Hid (Row (w.alloc (.cells (madeCells #[.int .u8 0] n) 5)) w.heap.size (adr l 0 n)) := by unfold Hid; rw [adr_zero]; exact Row.made w n _ rfl
  have HB : Hid (Below w.heap.size w (w.alloc (.cells (madeCells #[.int .u8 0] n) 5))) := (Below.refl _ _).alloc (Nat.le_refl _) _
  go_enter Tryz.func76, Tryz.ntmps76
  go_wp2_with fail
  clear hm
  generalize w.alloc (.cells (madeCells #[.int .u8 0] n) 5) = w0 at *
  go_loopw [12] (fun i wr => ∃ k : Nat, k ≤ bits ∧ i = .int .i64 k ∧ Row wr w.heap.size (adr l k n) ∧ Below w.heap.size w wr) (fun i _ => bits - (intOf i).toNat)
  case atStart => exact ⟨0, Nat.zero_le _, rfl, HM.out, HB.out⟩
  case round =>
    obtain ⟨k, hk, rfl, hrow, hbel⟩ := hrel
    by_cases hlt : k < bits
    · have hlt' : (k : Int) < bits := by omega
      have hq : k / 8 < (adr l k n).length := by rw [adr_length]; omega
      have hc := (hrow (k / 8) hq).1
      have hf := (hrow (k / 8) hq).2
      have HR : Hid (Row wr w.heap.size (adr l k n)) := hrow
      have HBL : Hid (Below w.heap.size w wr) := hbel
      clear hrow hbel
      have K1 : Hid (∀ w, Calls Tryz.prog 98 #[.string ⟨l.toArray⟩, .int .i64 (k : Int)] w fun e w' => e = .returned (.int .i64 (bitAt l k : Nat)) ∧ w' = w) := fun w => (bitI_nat ⟨l.toArray⟩ k) ▸ bit_any _ _ w (by unfold maxLen; rw [list_size]; omega) (by omega) (by omega)
      have hq' : (k : Int) / 8 < n := by rw [adr_length] at hq; omega
      have hq0 : (0 : Int) ≤ (k : Int) / 8 := by omega
      have hqt : ((k : Int) / 8).toNat = k / 8 := by omega
      have hq2 : k / 8 < n := by rw [adr_length] at hq; omega
      have hq3 : ((k / 8 : Nat) : Int) < n := by omega
      have hq4 : (0 : Int) ≤ ((k / 8 : Nat) : Int) := by omega
      have e1 : IntKind.i64.wrap ((k : Int) / 8) = (k : Int) / 8 := by rw [IntKind.wrap_i64]; omega
      have e2 : Int.tmod (k : Int) 8 = ((k % 8 : Nat) : Int) := by rw [Int.tmod_eq_emod_of_nonneg (by omega)]; rfl
      have e3 : IntKind.i64.wrap (7 - (k : Int) % 8) = ((7 - k % 8 : Nat) : Int) := by rw [IntKind.wrap_i64]; omega
      have hbt : bitAt l k ≤ 1 := by unfold bitAt; omega
      have e5 : IntKind.u8.wrap ((bitAt l k : Nat) : Int) = ((bitAt l k : Nat) : Int) := by rw [IntKind.wrap_u8]; omega
      have HS : Hid (adr l (k + 1) n = (adr l k n).set (k / 8) ((adr l k n).getD (k / 8) 0 ||| UInt8.ofNat (bitAt l k * 2 ^ (7 - k % 8)))) := adr_succ l k n hq2
      go_wp2
      go_region_with (go_at_call 98; refine (K1.out _).mono ?_; rintro e w' ⟨rfl, rfl⟩)
      all_goals
        go_wp2
        go_roundw
        case rel =>
          refine ⟨k + 1, by omega, by go_num, ?_, ?_⟩
          · rw [HS.out, List.getD_eq_getElem?_getD, List.getElem?_eq_getElem hq, Option.getD_some, or_u8 _ (bitAt l k * 2 ^ (7 - k % 8)) _ (by simp)]
            exact (HR.out.set (k / 8) _).drew
          · exact (HBL.out.setCell (by simp) _).drew
        case measure => simp [intOf]; omega
    · obtain rfl : k = bits := by omega
      have hback := run_convert_bytes_back (P := Tryz.prog) wr 60 9 5 ⟨w.heap.size, 0, none⟩ n (adr l k n) Tryz.underlying60 Tryz.underlying5 Tryz.underlying9 (fun j hj => by rw [show Addr.add ⟨w.heap.size, 0, none⟩ j = ⟨w.heap.size, j, none⟩ from by unfold Addr.add; by_cases e : j = 0 <;> simp [e]]; exact (hrow j hj).1)
      rw [adr_length] at hback
      have HBL : Hid (Below w.heap.size w wr) := hbel
      clear hrow hbel
      go_wp2
      go_ret
      exact ⟨rfl, HBL.out⟩
end Go.Proofs.YtfhbgpepkplbaaaGreatDoor
