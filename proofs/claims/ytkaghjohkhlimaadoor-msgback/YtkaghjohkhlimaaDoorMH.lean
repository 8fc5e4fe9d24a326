/-
  The reference's ReadNote.
-/
import Derived.Test.YtkaghjohkhlimaaDoorMG
namespace Go.Proofs.YtkaghjohkhlimaaDoor
open Go.RowKit
theorem idx_l (l : List UInt8) (i : Nat) (h : i < l.length) (W : World) : (Instr.index 9 (.string ⟨l.toArray⟩) (.int .i64 (i : Int))).run Tryd.prog W = .ok (.int .u8 (l[i].toNat : Int)) W := by
  rw [run_index_string W 9 _ _ _ Tryd.underlying9, dif_pos ⟨by omega, by rw [list_size]; omega⟩]
  rfl
theorem sl_l (l : List UInt8) (i : Nat) (h : i ≤ l.length) (W : World) : (Instr.slice 9 (.string ⟨l.toArray⟩) (some (.int .i64 (i : Int))) none none).run Tryd.prog W = .ok (.string ⟨(l.drop i).toArray⟩) W := by
  rw [run_slice_string_l W 9 _ Tryd.underlying9 .i64 (i : Int) (by omega) (by rw [list_size]; omega), Int.toNat_natCast, ext_l]
set_option maxHeartbeats 800000 in
theorem rread_s (l : List UInt8) (hl : l.length < 2) (w : World) : Calls Tryd.prog 17 #[.string ⟨l.toArray⟩] w fun e w' => e = .returned (rdA l) ∧ Below w.heap.size w w' := by
  have HA : Hid (rdA l = .tuple #[.agg (ntC 0 0 []), .int .i64 4]) := by
    unfold Hid
    cases l with
    | nil => rfl
    | cons c m => cases m with
      | nil => rfl
      | cons s d => simp at hl; omega
  have hsz : (⟨l.toArray⟩ : ByteArray).size = l.length := rfl
  have g1 : decide ((4077 : Int) < (l.length : Int)) = false := by simp; omega
  have g2 : (l.length : Int) < 2 := by omega
  have HB : Hid (Below w.heap.size w (w.alloc (.cells #[.int .u8 0, .int .u8 0, .string ⟨#[]⟩] 30))) := (Below.refl _ _).alloc (Nat.le_refl _) _
  clear hl
  go_enter Tryd.func17, Tryd.ntmps17
  go_wp2
  rw [HA.out]
  refine bodyPost_ret (v := .tuple #[.agg (ntC 0 0 []), .int .i64 4]) (by simp [results, Tryd.results17, go_sem, ntC]) rfl ⟨rfl, HB.out⟩
set_option maxHeartbeats 800000 in
theorem rread_z (c s : UInt8) (d : List UInt8) (hle : (c :: s :: d).length ≤ 4077) (hz : c.toNat = 0) (w : World) : Calls Tryd.prog 17 #[.string ⟨(c :: s :: d).toArray⟩] w fun e w' => e = .returned (rdA (c :: s :: d)) ∧ Below w.heap.size w w' := by
  have HA : Hid (rdA (c :: s :: d) = .tuple #[.agg (ntC 0 0 []), .int .i64 4]) := by unfold Hid rdA; rw [if_neg (by omega)]; exact if_pos hz
  have hsz : (⟨(c :: s :: d).toArray⟩ : ByteArray).size = d.length + 2 := rfl
  have h0 : ∀ W, (Instr.index 9 (.string ⟨(c :: s :: d).toArray⟩) (.int .i64 0)).run Tryd.prog W = .ok (.int .u8 0) W := fun W => by
    have := idx_l (c :: s :: d) 0 (by simp) W
    simpa [hz] using this
  have g1 : decide ((4077 : Int) < ((d.length + 2 : Nat) : Int)) = false := by simp at hle; simp; omega
  have g2 : decide (((d.length + 2 : Nat) : Int) < 2) = false := by simp; omega
  have HB : Hid (Below w.heap.size w (w.alloc (.cells #[.int .u8 0, .int .u8 0, .string ⟨#[]⟩] 30))) := (Below.refl _ _).alloc (Nat.le_refl _) _
  rw [HA.out]
  generalize (⟨(c :: s :: d).toArray⟩ : ByteArray) = S at *
  generalize d.length + 2 = n at *
  clear hle hz HA
  go_enter Tryd.func17, Tryd.ntmps17
  go_wp2
  refine bodyPost_ret (v := .tuple #[.agg (ntC 0 0 []), .int .i64 4]) (by simp [results, Tryd.results17, go_sem, ntC]) rfl ⟨rfl, HB.out⟩
set_option maxHeartbeats 800000 in
theorem rread_y (c s : UInt8) (d : List UInt8) (hle : (c :: s :: d).length ≤ 4077) (hz : c.toNat ≠ 0) (w : World) : Calls Tryd.prog 17 #[.string ⟨(c :: s :: d).toArray⟩] w fun e w' => e = .returned (rdA (c :: s :: d)) ∧ Below w.heap.size w w' := by
  have HA : Hid (rdA (c :: s :: d) = .tuple #[.agg (ntC c.toNat s.toNat d), .int .i64 0]) := by unfold Hid rdA; rw [if_neg (by omega)]; exact if_neg hz
  have hsz : (⟨(c :: s :: d).toArray⟩ : ByteArray).size = d.length + 2 := rfl
  have h0 : ∀ W, (Instr.index 9 (.string ⟨(c :: s :: d).toArray⟩) (.int .i64 0)).run Tryd.prog W = .ok (.int .u8 (c.toNat : Int)) W := fun W => idx_l (c :: s :: d) 0 (by simp) W
  have h1 : ∀ W, (Instr.index 9 (.string ⟨(c :: s :: d).toArray⟩) (.int .i64 1)).run Tryd.prog W = .ok (.int .u8 (s.toNat : Int)) W := fun W => idx_l (c :: s :: d) 1 (by simp) W
  have h2 : ∀ W, (Instr.slice 9 (.string ⟨(c :: s :: d).toArray⟩) (some (.int .i64 2)) none none).run Tryd.prog W = .ok (.string ⟨d.toArray⟩) W := fun W => sl_l (c :: s :: d) 2 (by simp) W
  have g1 : decide ((4077 : Int) < ((d.length + 2 : Nat) : Int)) = false := by simp at hle; simp; omega
  have g2 : decide (((d.length + 2 : Nat) : Int) < 2) = false := by simp; omega
  have g3 : ((c.toNat : Int) == 0) = false := beq_eq_false_iff_ne.2 (by omega)
  rw [HA.out]
  generalize (⟨(c :: s :: d).toArray⟩ : ByteArray) = S at *
  generalize d.length + 2 = n at *
  generalize c.toNat = cn at *
  generalize s.toNat = sn at *
  clear hle hz HA
  go_enter Tryd.func17, Tryd.ntmps17
  go_wp2
  go_region
  go_wp2
  refine bodyPost_ret (v := .tuple #[.agg (ntC cn sn d), .int .i64 0]) (by simp [results, Tryd.results17, go_sem, ntC]) rfl ⟨rfl, ((Below.refl _ _).alloc (Nat.le_refl _) _).drew⟩
theorem rread_any (l : List UInt8) (w : World) : Calls Tryd.prog 17 #[.string ⟨l.toArray⟩] w fun e w' => e = .returned (rdA l) ∧ Below w.heap.size w w' := by
  by_cases hl : 4077 < l.length
  · exact rread_long l hl w
  · by_cases h2 : l.length < 2
    · exact rread_s l h2 w
    · cases l with
      | nil => simp at h2
      | cons c m =>
        cases m with
        | nil => simp at h2
        | cons s d =>
          by_cases hz : c.toNat = 0
          · exact rread_z c s d (by omega) hz w
          · exact rread_y c s d (by omega) hz w
end Go.Proofs.YtkaghjohkhlimaaDoor
