/-
  FormatUint to the base 16.
-/
import Derived.Test.YthaebbmekonacaaGreatDoorMX
import Derived.LoopN
import Derived.Laws.Rows
import Derived.Laws.BitsAllLaws
import Derived.Laws.BytesString
set_option linter.unusedVariables false
set_option linter.unusedSimpArgs false
set_option maxRecDepth 100000
namespace Go.Proofs.YthaebbmekonacaaGreatDoor
open Go.RowKit
/-- A digit's sign. -/
def dg (d : Nat) : UInt8 := if d < 10 then UInt8.ofNat (48 + d) else UInt8.ofNat (87 + d)
def hexD (u : Nat) : List UInt8 := if h : u < 16 then [dg u] else hexD (u / 16) ++ [dg (u % 16)]
theorem hexD_len (u : Nat) (k : Nat) (h : u < 16 ^ (k + 1)) : (hexD u).length ≤ k + 1 := by
  induction k generalizing u with
  | zero => rw [hexD, dif_pos (by omega)]; simp
  | succ k ih =>
    rw [hexD]
    split
    · simp
    · rw [List.length_append]
      have := ih (u / 16) (by rw [Nat.div_lt_iff_lt_mul (by decide)]; rw [Nat.pow_succ] at h; exact h)
      simp; omega
theorem hexD_ne (u : Nat) : 0 < (hexD u).length := by rw [hexD]; split <;> simp
theorem z240 (w : World) : (zeroValue 240).run Tryz.prog w = .ok (.agg (List.replicate 65 (Value.int .u8 0)).toArray) w := by kernel_rfl
/-- The one cell of the table of trailing noughts that is asked for. -/
def Deb (w : World) : Prop := w.cell? ⟨7, 15, none⟩ = some (.int .u8 4)
theorem Deb.below {w w' : World} (h : Deb w) (hb : Below w.heap.size w w') : Deb w' := below_cell hb h
theorem pow2_16 (w : World) : Calls Tryz.prog 183 #[.int .i64 16] w fun e w' => e = .returned (.bool true) ∧ w' = w := by
  have hb : bits BinOp.and IntKind.i64 16 15 = 0 := by decide
  go_enter Tryz.func183, Tryz.ntmps183
  go_wp2
  go_ret
  exact ⟨rfl, rfl⟩
theorem tz64_16 (w : World) (h : Deb w) : Calls Tryz.prog 199 #[.int .u64 16] w fun e w' => e = .returned (.int .i64 4) ∧ w' = w := by
  have hc : w.cell? ⟨7, 15, none⟩ = some (.int .u8 4) := h
  have h1 : IntKind.u64.wrap (-16) = 18446744073709551600 := by decide
  have h2 : bits BinOp.and IntKind.u64 16 18446744073709551600 = 16 := by decide +kernel
  have h3 : IntKind.u64.wrap (16 * 285870213051353865) = 4573923408821661840 := by decide
  go_enter Tryz.func199, Tryz.ntmps199
  go_wp2
  go_ret
  exact ⟨rfl, rfl⟩
theorem tz_16 (w : World) (h : Deb w) : Calls Tryz.prog 184 #[.int .u64 16] w fun e w' => e = .returned (.int .i64 4) ∧ w' = w := by
  go_enter Tryz.func184, Tryz.ntmps184
  go_wp2_with fail
  refine (tz64_16 _ h).mono ?_
  rintro e w1 ⟨rfl, hw⟩
  subst w1
  go_wp2
  go_ret
  exact ⟨rfl, rfl⟩
/-- The row of signs, filled from its end. -/
structure Fil (w wr : World) (i : Nat) (t : List UInt8) : Prop where
  len : i + t.length = 65
  bel : Below w.heap.size w wr
  lt : w.heap.size < wr.heap.size
  row : ∀ j (h : j < t.length), wr.cell? ⟨w.heap.size, i + j, none⟩ = some (.int .u8 (t[j].toNat : Int))
  old : ∀ j, j < 65 → ∃ v, wr.cell? ⟨w.heap.size, j, none⟩ = some v
  fz : ∀ j, wr.frozen? ⟨w.heap.size, j, none⟩ = false
theorem cell_new240 (w : World) (A : Array Value) (j : Nat) : (w.alloc (.cells A 240)).cell? ⟨w.heap.size, j, none⟩ = A[j]? := by
  simp only [World.cell?, heap_alloc_new]
  simp
theorem Fil.start (w : World) (Z : Array Value) (hZ : Z = (List.replicate 65 (Value.int .u8 0)).toArray) : Fil w (w.alloc (.cells Z 240)) 65 [] := by
  subst hZ
  refine ⟨rfl, (Below.refl _ _).alloc (Nat.le_refl _) _, by simp, fun j h => by simp at h, fun j h => ?_, fun j => World.frozen?_alloc_new _ _ _ _⟩
  rw [cell_new240]
  exact ⟨_, Array.getElem?_eq_getElem (by simpa using h)⟩
theorem Fil.put {w wr : World} {i : Nat} {t : List UInt8} (h : Fil w wr (i + 1) t) (c : UInt8) : Fil w (wr.setCell ⟨w.heap.size, i, none⟩ (.int .u8 (c.toNat : Int))) i (c :: t) := by
  have hi : i < 65 := by have := h.len; omega
  obtain ⟨v0, hv0⟩ := h.old i hi
  refine ⟨by have := h.len; simp; omega, ?_, by simpa using h.lt, ?_, ?_, ?_⟩
  · exact ⟨h.bel.os, h.bel.tape, h.bel.output, by simpa using h.bel.size, fun k hk => by
      rw [← h.bel.block k hk]
      simp only [World.setCell, Array.getElem?_modify]
      rw [if_neg (by omega)]⟩
  · intro j hj
    cases j with
    | zero => exact World.cell?_setCell_same _ _ _ hv0
    | succ j =>
      rw [World.cell?_setCell_other _ _ _ _ (by intro e; injection e with _ e _; omega)]
      have := h.row j (by simpa using hj)
      rw [show i + (j + 1) = i + 1 + j by omega]
      simpa using this
  · intro j hj
    by_cases e : j = i
    · subst e; exact ⟨_, World.cell?_setCell_same _ _ _ hv0⟩
    · rw [World.cell?_setCell_other _ _ _ _ (by intro q; injection q with _ q _; omega)]
      exact h.old j hj
  · intro j
    rw [World.frozen?_setCell]; exact h.fz j
theorem hex_step (v : Nat) (h : ¬ v < 16) (t : List UInt8) : hexD v ++ t = hexD (v / 16) ++ (dg (v % 16) :: t) := by
  rw [hexD, dif_neg h, List.append_assoc]; rfl
theorem hex_last (v : Nat) (h : v < 16) (t : List UInt8) : hexD v ++ t = dg v :: t := by
  rw [hexD, dif_pos h]; rfl
theorem and15 (v : Nat) (h : v < 18446744073709551616) : bits BinOp.and IntKind.u64 (v : Int) 15 = ((v % 16 : Nat) : Int) := by
  have := u64_and_nat v 15 h (by decide)
  rw [show (v &&& 15 : Nat) = v % 16 from Nat.and_two_pow_sub_one_eq_mod v 4] at this
  exact this
def digS : ByteArray := ⟨#[48, 49, 50, 51, 52, 53, 54, 55, 56, 57, 97, 98, 99, 100, 101, 102, 103, 104, 105, 106, 107, 108, 109, 110, 111, 112, 113, 114, 115, 116, 117, 118, 119, 120, 121, 122]⟩
theorem dig_at (d : Nat) (h : d < 16) (hb : d < digS.size) : digS[d].toNat = (dg d).toNat := by
  have : d = 0 ∨ d = 1 ∨ d = 2 ∨ d = 3 ∨ d = 4 ∨ d = 5 ∨ d = 6 ∨ d = 7 ∨ d = 8 ∨ d = 9 ∨ d = 10 ∨ d = 11 ∨ d = 12 ∨ d = 13 ∨ d = 14 ∨ d = 15 := by omega
  rcases this with rfl | rfl | rfl | rfl | rfl | rfl | rfl | rfl | rfl | rfl | rfl | rfl | rfl | rfl | rfl | rfl <;> rfl
theorem Fil.text {w W : World} {i : Nat} {t : List UInt8} (h : Fil w W i t) (hi : i < 65) : (convert 180 9 (.slice (some ⟨w.heap.size, i, none⟩) (65 - i) (65 - i))).run Tryz.prog W = .ok (.string ⟨t.toArray⟩) W := by
  have hl : 65 - i = t.length := by have := h.len; omega
  rw [hl]
  exact run_convert_bytes_back (P := Tryz.prog) W 180 9 5 ⟨w.heap.size, i, none⟩ t.length t Tryz.underlying180 Tryz.underlying5 Tryz.underlying9 (fun j hj => by
    rw [show Addr.add ⟨w.heap.size, i, none⟩ j = ⟨w.heap.size, i + j, none⟩ by unfold Addr.add; by_cases e : j = 0 <;> simp [e]]
    exact h.row j hj)
theorem sl240 (b i : Nat) (hi : i < 65) (W : World) : (Instr.sliceAt 240 (.pointer (some ⟨b, 0, none⟩)) (some (.int .i64 (i : Int))) none none).run Tryz.prog W = .ok (.slice (some ⟨b, i, none⟩) (65 - i) (65 - i)) W := by
  have hal : Tryz.prog.arrayLen 240 = 65 := by simp [Program.arrayLen, Tryz.underlying240]
  rw [run_sliceAt_array_l W 240 ⟨b, 0, none⟩ (by simp [Program.arrayLen, Program.elem, Tryz.underlying240]) .i64 (i : Int) (by omega) (by rw [hal]; omega)]
  go_simp
  have e : ¬ (65 = i) := by omega
  simp [slicedAt, e, Addr.add]
set_option maxHeartbeats 2000000 in
theorem fb16_any (u : Nat) (hu : u < 18446744073709551616) (w : World) (h : Deb w) : Calls Tryz.prog 166 #[.slice none 0 0, .int .u64 (u : Int), .int .i64 16, .bool false, .bool false] w fun e w' => e = .returned (.tuple #[.slice none 0 0, .string ⟨(hexD u).toArray⟩]) ∧ Below w.heap.size w w' := by
  obtain ⟨Z, hZ⟩ : ∃ Z, Z = (List.replicate 65 (Value.int .u8 0)).toArray := ⟨_, rfl⟩
  have hz := fun w => z240 w
  rw [← hZ] at hz
  have HF : Hid (Fil w (w.alloc (.cells Z 240)) 65 []) := Fil.start w Z hZ
  have HD : Hid (Deb (w.alloc (.cells Z 240))) := h.below ((Below.refl _ _).alloc (Nat.le_refl _) _)
  clear hZ h
  go_enter Tryz.func166, Tryz.ntmps166
  go_wp2_with fail
  refine (pow2_16 _).mono ?_
  rintro e w1 ⟨rfl, hw⟩
  subst w1
  go_wp2_with fail
  refine (tz_16 _ HD.out).mono ?_
  rintro e w1 ⟨rfl, hw⟩
  subst w1
  clear HD
  go_wp2_with fail
  go_loopw [1, 13] (fun x1 x13 wr => ∃ (v i : Nat) (t : List UInt8), x1 = .int .u64 (v : Int) ∧ x13 = .int .i64 (i : Int) ∧ v ≤ u ∧ hexD u = hexD v ++ t ∧ Fil w wr i t) (fun x1 _ _ => (intOf x1).toNat)
  case atStart => exact ⟨u, 65, [], rfl, rfl, Nat.le_refl _, by simp, HF.out⟩
  case round =>
    obtain ⟨v, i, t, rfl, rfl, hv, hh, hf⟩ := hrel
    have hv64 : v < 18446744073709551616 := by omega
    have hb16 : (hexD v).length + t.length ≤ 16 := by
      have := hexD_len u 15 (by omega)
      rw [hh, List.length_append] at this; exact this
    have hp := hexD_ne v
    have hl := hf.len
    obtain ⟨i, rfl⟩ : ∃ k, i = k + 1 := ⟨i - 1, by omega⟩
    have hi : 48 ≤ i ∧ i ≤ 64 := by omega
    obtain ⟨v0, hc⟩ := hf.old i (by omega)
    have hfz := hf.fz i
    have HFi : Hid (_ : Prop) := hf
    have HH : Hid (_ = _) := hh
    have HV : Hid (v ≤ u) := hv
    have hw : IntKind.i64.wrap (((i + 1 : Nat) : Int) - 1) = (i : Int) := by rw [IntKind.wrap_i64]; omega
    have hi1 : (0 : Int) ≤ (i : Int) := by omega
    have hi2 : (i : Int) < 65 := by omega
    clear hf hh hb16 hp hl hv
    by_cases h16 : v < 16
    · have h16' : ¬ (16 : Int) ≤ (v : Int) := by omega
      have ht : (⟨#[48, 49, 50, 51, 52, 53, 54, 55, 56, 57, 97, 98, 99, 100, 101, 102, 103, 104, 105, 106, 107, 108, 109, 110, 111, 112, 113, 114, 115, 116, 117, 118, 119, 120, 121, 122]⟩ : ByteArray)[v]'(Nat.lt_trans h16 (by decide)) = dg v := UInt8.toNat_inj.1 (dig_at v h16 _)
      have hsl := sl240 w.heap.size i (by omega)
      have HF1 : Hid (_ : Prop) := HFi.out.put (dg v)
      have hcv := HF1.out.text (by omega)
      have HE : Hid (hexD u = dg v :: t) := by unfold Hid; rw [HH.out]; exact hex_last v h16 t
      clear HFi HH
      go_wp2
      go_ret2
      refine ⟨?_, HF1.out.bel⟩
      rw [HE.out]
      rfl
    · have h16' : (16 : Int) ≤ (v : Int) := by omega
      have ha := and15 v hv64
      have hm : v % 16 < 16 := Nat.mod_lt _ (by decide)
      have hdv : ((v : Int) / 16) = ((v / 16 : Nat) : Int) := by omega
      have HS : Hid (_ = _) := hex_step v h16 t
      have ht : (⟨#[48, 49, 50, 51, 52, 53, 54, 55, 56, 57, 97, 98, 99, 100, 101, 102, 103, 104, 105, 106, 107, 108, 109, 110, 111, 112, 113, 114, 115, 116, 117, 118, 119, 120, 121, 122]⟩ : ByteArray)[v % 16]'(Nat.lt_trans hm (by decide)) = dg (v % 16) := UInt8.toNat_inj.1 (dig_at (v % 16) hm _)
      have HF1 : Hid (_ : Prop) := HFi.out.put (dg (v % 16))
      have HE : Hid (hexD u = hexD (v / 16) ++ (dg (v % 16) :: t)) := by unfold Hid; rw [HH.out, HS.out]
      have HL : Hid (v / 16 ≤ u ∧ v / 16 < v) := ⟨by have := HV.out; omega, by omega⟩
      clear HFi HH HS HV
      generalize v % 16 = d at *
      generalize v / 16 = q at *
      go_wp2
      exact ⟨⟨q, i, dg d :: t, rfl, rfl, HL.out.1, HE.out, HF1.out⟩, by have := HL.out.2; simp [intOf]; omega⟩
theorem fu16i (u : Nat) (hu : u < 18446744073709551616) (w : World) (h : Deb w) : Calls Tryz.prog 130 #[.int .u64 (u : Int), .int .i64 16] w fun e w' => e = .returned (.string ⟨(hexD u).toArray⟩) ∧ Below w.heap.size w w' := by
  go_enter Tryz.func130, Tryz.ntmps130
  go_wp2_with fail
  refine (fb16_any u hu _ h).mono ?_
  rintro e w1 ⟨rfl, hb⟩
  go_wp2
  go_ret
  exact ⟨rfl, hb⟩
theorem fu16 (u : Nat) (hu : u < 18446744073709551616) (w : World) (h : Deb w) : Calls Tryz.prog 84 #[.int .u64 (u : Int), .int .i64 16] w fun e w' => e = .returned (.string ⟨(hexD u).toArray⟩) ∧ Below w.heap.size w w' := by
  go_enter Tryz.func84, Tryz.ntmps84
  go_wp2_with fail
  refine (fu16i u hu _ h).mono ?_
  rintro e w1 ⟨rfl, hb⟩
  go_wp2
  go_ret
  exact ⟨rfl, hb⟩
end Go.Proofs.YthaebbmekonacaaGreatDoor
