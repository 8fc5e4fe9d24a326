/-
  FrameKnown: the walk.
-/
import Derived.Test.YtlinoklgchfedaaDoorF3
namespace Go.Proofs.YtlinoklgchfedaaDoor
open Go.RowKit
def hdK (n : Nat) : List UInt8 := ([[0, 18, 4], [0, 19, 6], [0, 19, 1], [16, 1, 2], [0, 20, 4], [0, 19, 0], [0, 22, 2], [0, 24, 5]] : List (List UInt8)).getD n []
def subK (n : Nat) : Nat := if n = 1 then 3 else if n = 5 then 3 else 2
theorem run_hd0 : runI st0 (mark ++ hdK 0) = (⟨[], subK 0⟩, []) := by kernel_rfl
theorem run_hd1 : runI st0 (mark ++ hdK 1) = (⟨[], subK 1⟩, []) := by kernel_rfl
theorem run_hd2 : runI st0 (mark ++ hdK 2) = (⟨[], subK 2⟩, []) := by kernel_rfl
theorem run_hd3 : runI st0 (mark ++ hdK 3) = (⟨[], subK 3⟩, []) := by kernel_rfl
theorem run_hd4 : runI st0 (mark ++ hdK 4) = (⟨[], subK 4⟩, []) := by kernel_rfl
theorem run_hd5 : runI st0 (mark ++ hdK 5) = (⟨[], subK 5⟩, []) := by kernel_rfl
theorem run_hd6 : runI st0 (mark ++ hdK 6) = (⟨[], subK 6⟩, []) := by kernel_rfl
theorem run_hd7 : runI st0 (mark ++ hdK 7) = (⟨[], subK 7⟩, []) := by kernel_rfl
theorem run_hd (n : Nat) (h : n < 8) : runI st0 (mark ++ hdK n) = (⟨[], subK n⟩, []) := by
  have h : n = 0 ∨ n = 1 ∨ n = 2 ∨ n = 3 ∨ n = 4 ∨ n = 5 ∨ n = 6 ∨ n = 7 := by omega
  rcases h with rfl | rfl | rfl | rfl | rfl | rfl | rfl | rfl
  · exact run_hd0
  · exact run_hd1
  · exact run_hd2
  · exact run_hd3
  · exact run_hd4
  · exact run_hd5
  · exact run_hd6
  · exact run_hd7
theorem hd_len (n : Nat) (h : n < 8) : (hdK n).length = 3 := by
  have h : n = 0 ∨ n = 1 ∨ n = 2 ∨ n = 3 ∨ n = 4 ∨ n = 5 ∨ n = 6 ∨ n = 7 := by omega
  rcases h with rfl | rfl | rfl | rfl | rfl | rfl | rfl | rfl <;> rfl
def hdC : Array Value := #[.string ⟨#[0, 18, 4]⟩, .string ⟨#[0, 19, 6]⟩, .string ⟨#[0, 19, 1]⟩, .string ⟨#[16, 1, 2]⟩, .string ⟨#[0, 20, 4]⟩, .string ⟨#[0, 19, 0]⟩, .string ⟨#[0, 22, 2]⟩, .string ⟨#[0, 24, 5]⟩]
theorem hdC_at (n : Nat) (h : n < 8) : hdC[n]? = some (.string ⟨(hdK n).toArray⟩) := by
  have h : n = 0 ∨ n = 1 ∨ n = 2 ∨ n = 3 ∨ n = 4 ∨ n = 5 ∨ n = 6 ∨ n = 7 := by omega
  rcases h with rfl | rfl | rfl | rfl | rfl | rfl | rfl | rfl <;> rfl
def mkK (n : Nat) : Int × List UInt8 := ([(4, [97]), (1, [49, 50, 51, 52, 53, 54, 55, 56, 57]), (6, []), (0, []), (5, [49, 50, 51])] : List (Int × List UInt8)).getD n (0, [])
theorem mk_arg0 : mkAns (mkK 0).1 (mkK 0).2 = .returned (.tuple #[.string ⟨#[]⟩, .int .i64 2]) := by kernel_rfl
theorem mk_arg1 : mkAns (mkK 1).1 (mkK 1).2 = .returned (.tuple #[.string ⟨#[]⟩, .int .i64 2]) := by kernel_rfl
theorem mk_arg2 : mkAns (mkK 2).1 (mkK 2).2 = .returned (.tuple #[.string ⟨#[]⟩, .int .i64 2]) := by kernel_rfl
theorem mk_arg3 : mkAns (mkK 3).1 (mkK 3).2 = .returned (.tuple #[.string ⟨#[]⟩, .int .i64 2]) := by kernel_rfl
theorem mk_arg4 : mkAns (mkK 4).1 (mkK 4).2 = .returned (.tuple #[.string ⟨#[]⟩, .int .i64 2]) := by kernel_rfl
theorem mk_arg (n : Nat) (h : n < 5) : mkAns (mkK n).1 (mkK n).2 = .returned (.tuple #[.string ⟨#[]⟩, .int .i64 2]) := by
  have h : n = 0 ∨ n = 1 ∨ n = 2 ∨ n = 3 ∨ n = 4 := by omega
  rcases h with rfl | rfl | rfl | rfl | rfl
  · exact mk_arg0
  · exact mk_arg1
  · exact mk_arg2
  · exact mk_arg3
  · exact mk_arg4
theorem mk_len (n : Nat) (h : n < 5) : (mkK n).2.length ≤ 1000000 := by
  have h : n = 0 ∨ n = 1 ∨ n = 2 ∨ n = 3 ∨ n = 4 := by omega
  rcases h with rfl | rfl | rfl | rfl | rfl <;> decide
def mkC5 : Array Value := #[.int .i64 4, .string ⟨#[97]⟩, .int .i64 1, .string ⟨#[49, 50, 51, 52, 53, 54, 55, 56, 57]⟩, .int .i64 6, .string ⟨#[]⟩, .int .i64 0, .string ⟨#[]⟩, .int .i64 5, .string ⟨#[49, 50, 51]⟩]
theorem mkC5_at (n : Nat) (h : n < 5) : mkC5[n * 2]? = some (.int .i64 (mkK n).1) ∧ mkC5[n * 2 + 1]? = some (.string ⟨(mkK n).2.toArray⟩) := by
  have h : n = 0 ∨ n = 1 ∨ n = 2 ∨ n = 3 ∨ n = 4 := by omega
  rcases h with rfl | rfl | rfl | rfl | rfl <;> exact ⟨rfl, rfl⟩
def lastL : List UInt8 := keepL ++ mark.take 15 ++ [0, 0, 19, 4]
theorem run_last : runI st0 lastL = (⟨[], 1⟩, [⟨4, []⟩]) := by kernel_rfl
theorem fil_zero (N : Nat) : filC N 0 0 = filC N N ((0 : Nat) : Int) := by
  unfold filC
  simp
theorem made_many (N : Nat) (h : N ≤ 100000) (w : World) : (Instr.makeSlice 43 (.int .i64 (N : Int)) (.int .i64 (N : Int))).run Tryd.prog w = .ok (.slice (some ⟨w.heap.size, 0, none⟩) N N) (w.alloc (.cells (filC N 0 0) 5)) := by
  obtain ⟨i0, hi, hz0, hz1, hz2⟩ := info_parts info5
  have h := run_make w 43 5 i0 (.int .u8 0) Tryd.underlying43 hi hz0 .i64 .i64 N N (by omega) (by omega) (by rw [hz2]; omega) (by omega)
  rw [hz1, Int.toNat_natCast, Nat.mul_one] at h
  rw [← made_fil N 0]
  exact h
def zs (N : Nat) : List UInt8 := List.replicate N (UInt8.ofNat 0)
theorem conv_many (N : Nat) (w : World) : (convert 43 9 (.slice (some ⟨w.heap.size, 0, none⟩) N N)).run Tryd.prog (w.alloc (.cells (filC N 0 0) 5)) = .ok (.string ⟨(zs N).toArray⟩) (w.alloc (.cells (filC N 0 0) 5)) := by
  refine conv_fil (F := 0) ?_ (by decide)
  rw [← fil_zero]
  exact hp_new rfl
theorem mk_long : mkAns 2 (zs 4078) = .returned (.tuple #[.string ⟨#[]⟩, .int .i64 3]) := by
  have hl : (zs 4078).length = 4078 := List.length_replicate
  unfold mkAns makeI
  rw [if_pos ⟨by decide, by decide⟩, if_pos (by rw [hl]; decide)]
theorem mk_full : ∃ S : ByteArray, S.size = 4096 ∧ mkAns 2 (zs 4077) = .returned (.tuple #[.string S, .int .i64 0]) := by
  have hl : (zs 4077).length = 4077 := List.length_replicate
  refine ⟨⟨(headI 2 (19 + (zs 4077).length) ++ zs 4077).toArray⟩, ?_, ?_⟩
  · rw [list_size, List.length_append, hl]; rfl
  · unfold mkAns makeI
    rw [if_pos ⟨by decide, by decide⟩, if_neg (by rw [hl]; decide), if_pos (by rw [hl]; decide)]
    rfl
set_option maxRecDepth 100000 in
set_option maxHeartbeats 6400000 in
theorem known_walk (w : World) (hT : SzAt w) : Calls Tryd.prog 7 #[] w fun e w' => e = .returned (.bool true) ∧ Below w.heap.size w w' := by
  have HZ : Hid (SzAt w) := hT
  have HW0 : Hid (0 < w.heap.size) := hT.lt
  have hh : (⟨#[255, 255, 255, 255, 255, 255, 255, 255, 255, 255, 255, 255, 255, 255, 255, 255, 0, 19, 4]⟩ : ByteArray).extract 0 16 = ⟨mark.toArray⟩ := by rfl
  have HRw : Hid ((w.alloc (.cells hdC 9)).heap[w.heap.size]? = some (.cells hdC 9 (0, 0))) := hp_new rfl
  have HBw : Hid (Below w.heap.size w (w.alloc (.cells hdC 9))) := (Below.refl _ _).alloc (Nat.le_refl _) _
  clear hT
  go_enter Tryd.func7, Tryd.ntmps7
  go_wp2
  change Code.wp _ _ _ _ (w.alloc (.cells hdC 9))
  generalize w.alloc (.cells hdC 9) = W at *
  go_loopw [27] (fun t wr => ∃ n : Nat, t = .int .i64 (n : Int) ∧ n ≤ 8 ∧ Below w.heap.size w wr ∧ wr.heap[w.heap.size]? = some (.cells hdC 9 (0, 0))) (fun t _ => 8 - (intOf t).toNat)
  case atStart => exact ⟨0, rfl, by omega, HBw.out, HRw.out⟩
  case round =>
    obtain ⟨n, rfl, hn8, hbr, hrr⟩ := hrel
    have HBr : Hid (Below w.heap.size w wr) := hbr
    have HRr : Hid (wr.heap[w.heap.size]? = some (.cells hdC 9 (0, 0))) := hrr
    clear hbr hrr
    by_cases h8n : n < 8
    · have h8 : (n : Int) < 8 := by omega
      have c0 : wr.cell? ⟨w.heap.size, n, none⟩ = some (.string ⟨(hdK n).toArray⟩) := cl_row HRr.out (hdC_at n h8n)
      have hhl := hd_len n h8n
      have happ := app_bytes mark (hdK n)
      have hs1 : (⟨mark.toArray⟩ : ByteArray).size = 16 := rfl
      have hs2 : (⟨(hdK n).toArray⟩ : ByteArray).size = 3 := by rw [list_size]; exact hhl
      go_wp2_with fail
      refine (new_any wr).mono ?_
      rintro e w2 ⟨p, b, rfl, hf2, hb2, hp2, hq2⟩
      have HB2 : Hid (Below w.heap.size w w2) := HBr.out.trans (hb2.mono HBr.out.size)
      by_cases h1 : n = 1
      · have h1' : ((n : Int) == 1) = true := by rw [h1]; rfl
        have HSB0 : Hid (subK n ≠ 0) := by unfold Hid; rw [h1]; decide
        have HSB : Hid ((subK n : Int) = 3) := by unfold Hid; rw [h1]; rfl
        clear h1
        go_wp2_with fail
        refine (put_wrong p b st0 ⟨[], subK n⟩ (mark ++ hdK n) [] w2 hf2 (HZ.out.below HB2.out) (by have := HW0.out; have := hp2; have := HBr.out.size; omega) (by have := HW0.out; have := hq2; have := HBr.out.size; omega) (by rw [List.length_append, hhl]; decide) (run_hd n h8n) HSB0.out).mono ?_
        rintro e w3 ⟨ad3, cp3, rfl, _, _, hbs3⟩
        have HS3 : Hid ((subK n : Int) = 3) := HSB.out
        rw [HS3.out]
        have hba3 : Below w3.heap.size w3 (w3.alloc (.cells #[.int .i64 3, .int .u8 1, .int .u8 3] 27)) := (Below.refl _ _).alloc (Nat.le_refl _) _
        have HB3 : Hid (Below wr.heap.size wr (w3.alloc (.cells #[.int .i64 3, .int .u8 1, .int .u8 3] 27))) := (hb2.trans (hbs3.below hp2 hq2 hb2.size)).trans (hba3.mono (Nat.le_trans hb2.size hbs3.size))
        have HV3 : Hid ((w3.alloc (.cells #[.int .i64 3, .int .u8 1, .int .u8 3] 27)).heap[w3.heap.size]? = some (.cells #[.int .i64 3, .int .u8 1, .int .u8 3] 27 (0, 0))) := hp_new rfl
        have a0 : (w3.alloc (.cells #[.int .i64 3, .int .u8 1, .int .u8 3] 27)).cell? ⟨w3.heap.size, 0, none⟩ = some (.int .i64 3) := cl_row HV3.out rfl
        have a1 : (w3.alloc (.cells #[.int .i64 3, .int .u8 1, .int .u8 3] 27)).cell? ⟨w3.heap.size, 1, none⟩ = some (.int .u8 1) := cl_row HV3.out rfl
        have a2 : (w3.alloc (.cells #[.int .i64 3, .int .u8 1, .int .u8 3] 27)).cell? ⟨w3.heap.size, 2, none⟩ = some (.int .u8 3) := cl_row HV3.out rfl
        simp only [List.length_nil]
        clear hbs3 hba3
        go_wp2
        go_roundw
        case rel => exact ⟨n + 1, by simp, by omega, HBr.out.trans (HB3.out.mono HBr.out.size), (HB3.out.block _ (Array.getElem?_eq_some_iff.mp HRr.out).1).trans HRr.out⟩
        case measure => simp [intOf]; omega
      · by_cases h5 : n = 5
        · have h1' : ((n : Int) == 1) = false := by rw [beq_eq_false_iff_ne]; omega
          have h5' : ((n : Int) == 5) = true := by rw [h5]; rfl
          have HSB0 : Hid (subK n ≠ 0) := by unfold Hid; rw [h5]; decide
          have HSB : Hid ((subK n : Int) = 3) := by unfold Hid; rw [h5]; rfl
          clear h5 h1
          go_wp2_with fail
          refine (put_wrong p b st0 ⟨[], subK n⟩ (mark ++ hdK n) [] w2 hf2 (HZ.out.below HB2.out) (by have := HW0.out; have := hp2; have := HBr.out.size; omega) (by have := HW0.out; have := hq2; have := HBr.out.size; omega) (by rw [List.length_append, hhl]; decide) (run_hd n h8n) HSB0.out).mono ?_
          rintro e w3 ⟨ad3, cp3, rfl, _, _, hbs3⟩
          have HS3 : Hid ((subK n : Int) = 3) := HSB.out
          rw [HS3.out]
          have hba3 : Below w3.heap.size w3 (w3.alloc (.cells #[.int .i64 3, .int .u8 1, .int .u8 3] 27)) := (Below.refl _ _).alloc (Nat.le_refl _) _
          have HB3 : Hid (Below wr.heap.size wr (w3.alloc (.cells #[.int .i64 3, .int .u8 1, .int .u8 3] 27))) := (hb2.trans (hbs3.below hp2 hq2 hb2.size)).trans (hba3.mono (Nat.le_trans hb2.size hbs3.size))
          have HV3 : Hid ((w3.alloc (.cells #[.int .i64 3, .int .u8 1, .int .u8 3] 27)).heap[w3.heap.size]? = some (.cells #[.int .i64 3, .int .u8 1, .int .u8 3] 27 (0, 0))) := hp_new rfl
          have a0 : (w3.alloc (.cells #[.int .i64 3, .int .u8 1, .int .u8 3] 27)).cell? ⟨w3.heap.size, 0, none⟩ = some (.int .i64 3) := cl_row HV3.out rfl
          have a1 : (w3.alloc (.cells #[.int .i64 3, .int .u8 1, .int .u8 3] 27)).cell? ⟨w3.heap.size, 1, none⟩ = some (.int .u8 1) := cl_row HV3.out rfl
          have a2 : (w3.alloc (.cells #[.int .i64 3, .int .u8 1, .int .u8 3] 27)).cell? ⟨w3.heap.size, 2, none⟩ = some (.int .u8 3) := cl_row HV3.out rfl
          simp only [List.length_nil]
          clear hbs3 hba3
          go_wp2
          go_roundw
          case rel => exact ⟨n + 1, by simp, by omega, HBr.out.trans (HB3.out.mono HBr.out.size), (HB3.out.block _ (Array.getElem?_eq_some_iff.mp HRr.out).1).trans HRr.out⟩
          case measure => simp [intOf]; omega
        · have h1' : ((n : Int) == 1) = false := by rw [beq_eq_false_iff_ne]; omega
          have h5' : ((n : Int) == 5) = false := by rw [beq_eq_false_iff_ne]; omega
          have HSBX : subK n = 2 := by unfold subK; rw [if_neg h1, if_neg h5]
          have HSB0 : Hid (subK n ≠ 0) := by unfold Hid; rw [HSBX]; decide
          have HSB : Hid ((subK n : Int) = 2) := by unfold Hid; rw [HSBX]; rfl
          clear h5 h1 HSBX
          go_wp2_with fail
          refine (put_wrong p b st0 ⟨[], subK n⟩ (mark ++ hdK n) [] w2 hf2 (HZ.out.below HB2.out) (by have := HW0.out; have := hp2; have := HBr.out.size; omega) (by have := HW0.out; have := hq2; have := HBr.out.size; omega) (by rw [List.length_append, hhl]; decide) (run_hd n h8n) HSB0.out).mono ?_
          rintro e w3 ⟨ad3, cp3, rfl, _, _, hbs3⟩
          have HS3 : Hid ((subK n : Int) = 2) := HSB.out
          rw [HS3.out]
          have hba3 : Below w3.heap.size w3 (w3.alloc (.cells #[.int .i64 3, .int .u8 1, .int .u8 2] 27)) := (Below.refl _ _).alloc (Nat.le_refl _) _
          have HB3 : Hid (Below wr.heap.size wr (w3.alloc (.cells #[.int .i64 3, .int .u8 1, .int .u8 2] 27))) := (hb2.trans (hbs3.below hp2 hq2 hb2.size)).trans (hba3.mono (Nat.le_trans hb2.size hbs3.size))
          have HV3 : Hid ((w3.alloc (.cells #[.int .i64 3, .int .u8 1, .int .u8 2] 27)).heap[w3.heap.size]? = some (.cells #[.int .i64 3, .int .u8 1, .int .u8 2] 27 (0, 0))) := hp_new rfl
          have a0 : (w3.alloc (.cells #[.int .i64 3, .int .u8 1, .int .u8 2] 27)).cell? ⟨w3.heap.size, 0, none⟩ = some (.int .i64 3) := cl_row HV3.out rfl
          have a1 : (w3.alloc (.cells #[.int .i64 3, .int .u8 1, .int .u8 2] 27)).cell? ⟨w3.heap.size, 1, none⟩ = some (.int .u8 1) := cl_row HV3.out rfl
          have a2 : (w3.alloc (.cells #[.int .i64 3, .int .u8 1, .int .u8 2] 27)).cell? ⟨w3.heap.size, 2, none⟩ = some (.int .u8 2) := cl_row HV3.out rfl
          simp only [List.length_nil]
          clear hbs3 hba3
          go_wp2
          go_roundw
          case rel => exact ⟨n + 1, by simp, by omega, HBr.out.trans (HB3.out.mono HBr.out.size), (HB3.out.block _ (Array.getElem?_eq_some_iff.mp HRr.out).1).trans HRr.out⟩
          case measure => simp [intOf]; omega
    · have h8 : ¬ ((n : Int) < 8) := by omega
      go_wp2_with fail
      refine (new_any wr).mono ?_
      rintro e w2 ⟨p, b, rfl, hf2, hb2, hp2, hq2⟩
      have HB2 : Hid (Below w.heap.size w w2) := HBr.out.trans (hb2.mono HBr.out.size)
      have HP2 : Hid (w.heap.size ≤ p ∧ w.heap.size ≤ b) := ⟨Nat.le_trans HBr.out.size hp2, Nat.le_trans HBr.out.size hq2⟩
      have HF2 : Hid (FrAt w2 p b st0) := hf2
      clear hf2 hb2 hp2 hq2 HRr h8
      have hx15 : (⟨mark.toArray⟩ : ByteArray).extract 0 15 = ⟨(mark.take 15).toArray⟩ := by rfl
      have happ1 := app_bytes keepL (mark.take 15)
      have happ2 := app_bytes (keepL ++ mark.take 15) [0, 0, 19, 4]
      go_wp2_with fail
      refine (put_wrong p b st0 ⟨[], 1⟩ lastL [⟨4, []⟩] w2 HF2.out (HZ.out.below HB2.out) (by have := HW0.out; have := HP2.out; omega) (by have := HW0.out; have := HP2.out; omega) (by decide) run_last (by decide)).mono ?_
      rintro e w3 ⟨ad3, cp3, rfl, _, _, hbs3⟩
      have hba3 : Below w3.heap.size w3 (w3.alloc (.cells #[.int .i64 3, .int .u8 1, .int .u8 1] 27)) := (Below.refl _ _).alloc (Nat.le_refl _) _
      have hb3 : Below w.heap.size w2 w3 := hbs3.below HP2.out.1 HP2.out.2 HB2.out.size
      have HB3 : Hid (Below w.heap.size w (w3.alloc (.cells #[.int .i64 3, .int .u8 1, .int .u8 1] 27))) := (HB2.out.trans hb3).alloc (Nat.le_trans HB2.out.size hb3.size) _
      have HV3 : Hid ((w3.alloc (.cells #[.int .i64 3, .int .u8 1, .int .u8 1] 27)).heap[w3.heap.size]? = some (.cells #[.int .i64 3, .int .u8 1, .int .u8 1] 27 (0, 0))) := hp_new rfl
      have a0 : (w3.alloc (.cells #[.int .i64 3, .int .u8 1, .int .u8 1] 27)).cell? ⟨w3.heap.size, 0, none⟩ = some (.int .i64 3) := cl_row HV3.out rfl
      have a1 : (w3.alloc (.cells #[.int .i64 3, .int .u8 1, .int .u8 1] 27)).cell? ⟨w3.heap.size, 1, none⟩ = some (.int .u8 1) := cl_row HV3.out rfl
      have a2 : (w3.alloc (.cells #[.int .i64 3, .int .u8 1, .int .u8 1] 27)).cell? ⟨w3.heap.size, 2, none⟩ = some (.int .u8 1) := cl_row HV3.out rfl
      simp only [List.length_cons, List.length_nil]
      clear hbs3 hba3 hb3 HF2
      have HR5 : Hid (((w3.alloc (.cells #[.int .i64 3, .int .u8 1, .int .u8 1] 27)).alloc (.cells mkC5 37)).heap[w3.heap.size + 1]? = some (.cells mkC5 37 (0, 0))) := hp_new (by simp)
      have HB5 : Hid (Below w.heap.size w ((w3.alloc (.cells #[.int .i64 3, .int .u8 1, .int .u8 1] 27)).alloc (.cells mkC5 37))) := HB3.out.alloc HB3.out.size _
      go_wp2_with fail
      change Code.wp _ _ _ _ ((w3.alloc (.cells #[.int .i64 3, .int .u8 1, .int .u8 1] 27)).alloc (.cells mkC5 37))
      generalize (w3.alloc (.cells #[.int .i64 3, .int .u8 1, .int .u8 1] 27)).alloc (.cells mkC5 37) = V at *
      generalize w3.heap.size + 1 = g at *
      clear a0 a1 a2 HV3 HB3
      go_loopw [86] (fun t wz => ∃ j : Nat, t = .int .i64 (j : Int) ∧ j ≤ 5 ∧ Below w.heap.size w wz ∧ wz.heap[g]? = some (.cells mkC5 37 (0, 0))) (fun t _ => 5 - (intOf t).toNat)
      case atStart => exact ⟨0, rfl, by omega, HB5.out, HR5.out⟩
      case round =>
        obtain ⟨j, rfl, hj5, hbz, hrz⟩ := hrel
        have HBz : Hid (Below w.heap.size w wr) := hbz
        have HRz : Hid (wr.heap[g]? = some (.cells mkC5 37 (0, 0))) := hrz
        clear hbz hrz
        by_cases h5n : j < 5
        · have h5 : (j : Int) < 5 := by omega
          have hc := mkC5_at j h5n
          have c0 : wr.cell? ⟨g, j * 2, none⟩ = some (.int .i64 (mkK j).1) := cl_row HRz.out hc.1
          have c1 : wr.cell? ⟨g, j * 2 + 1, none⟩ = some (.string ⟨(mkK j).2.toArray⟩) := cl_row HRz.out hc.2
          have KM : Hid (∀ W, SzAt W → Calls Tryd.prog 14 #[.agg #[.int .i64 (mkK j).1, .string ⟨(mkK j).2.toArray⟩]] W fun e w' => e = .returned (.tuple #[.string ⟨#[]⟩, .int .i64 2]) ∧ Below W.heap.size W w') := fun W hW => by
            have k := make_any (mkK j).1 (mkK j).2 W hW (mk_len j h5n)
            rw [mk_arg j h5n] at k
            exact k
          generalize (mkK j).1 = mk1 at *
          generalize (⟨(mkK j).2.toArray⟩ : ByteArray) = mk2 at *
          have HB6 : Hid (Below w.heap.size w (wr.alloc (.cells #[.int .i64 mk1, .string mk2] 37))) := HBz.out.alloc HBz.out.size _
          have HR6 : Hid ((wr.alloc (.cells #[.int .i64 mk1, .string mk2] 37)).heap[g]? = some (.cells mkC5 37 (0, 0))) := hp_up HRz.out
          clear hc
          go_wp2_with fail
          generalize wr.alloc (.cells #[.int .i64 mk1, .string mk2] 37) = V6 at *
          refine Calls.mono (KM.out V6 (HZ.out.below HB6.out)) ?_
          rintro e w7 ⟨rfl, hb7⟩
          have HB7 : Hid (Below w.heap.size w w7) := HB6.out.trans (hb7.mono HB6.out.size)
          have HR7 : Hid (w7.heap[g]? = some (.cells mkC5 37 (0, 0))) := (hb7.block _ (Array.getElem?_eq_some_iff.mp HR6.out).1).trans HR6.out
          clear hb7 KM HB6 HR6 c0 c1
          go_wp2
          go_roundw
          case rel =>
            refine ⟨_, _, _, _, _, _, _, _, _, _, _, _, _, _, _, _, ⟨j + 1, ?_, by omega, HB7.out, HR7.out⟩, rfl⟩
            simp
          case measure => simp [intOf]; omega
        · have h5 : ¬ ((j : Int) < 5) := by omega
          have hmk1 := made_many 4078 (by decide) wr
          have hcv1 := conv_many 4078 wr
          have HB6 : Hid (Below w.heap.size w (wr.alloc (.cells (filC 4078 0 0) 5))) := HBz.out.alloc HBz.out.size _
          have KM1 : Hid (∀ W, SzAt W → Calls Tryd.prog 14 #[.agg #[.int .i64 2, .string ⟨(zs 4078).toArray⟩]] W fun e w' => e = .returned (.tuple #[.string ⟨#[]⟩, .int .i64 3]) ∧ Below W.heap.size W w') := fun W hW => by
            have k := make_any 2 (zs 4078) W hW (by unfold zs; rw [List.length_replicate]; decide)
            rw [mk_long] at k
            exact k
          obtain ⟨S, hS, hmf⟩ := mk_full
          have KM2 : Hid (∀ W, SzAt W → Calls Tryd.prog 14 #[.agg #[.int .i64 2, .string ⟨(zs 4077).toArray⟩]] W fun e w' => e = .returned (.tuple #[.string S, .int .i64 0]) ∧ Below W.heap.size W w') := fun W hW => by
            have k := make_any 2 (zs 4077) W hW (by unfold zs; rw [List.length_replicate]; decide)
            rw [hmf] at k
            exact k
          have hcv2 := conv_many 4077
          have hmk2 := made_many 4077 (by decide)
          generalize (⟨(zs 4078).toArray⟩ : ByteArray) = Z1 at *
          generalize (⟨(zs 4077).toArray⟩ : ByteArray) = Z2 at *
          generalize filC 4078 0 0 = F1 at *
          generalize filC 4077 0 0 = F2 at *
          have hmk1' : (Instr.makeSlice 43 (.int .i64 4078) (.int .i64 4078)).run Tryd.prog wr = .ok (.slice (some ⟨wr.heap.size, 0, none⟩) 4078 4078) (wr.alloc (.cells F1 5)) := hmk1
          have hmk2' : ∀ w : World, (Instr.makeSlice 43 (.int .i64 4077) (.int .i64 4077)).run Tryd.prog w = .ok (.slice (some ⟨w.heap.size, 0, none⟩) 4077 4077) (w.alloc (.cells F2 5)) := hmk2
          clear hmk1 hmk2 hmf HRz
          go_wp2_with fail
          generalize wr.alloc (.cells F1 5) = V6 at *
          refine Calls.mono (KM1.out V6 (HZ.out.below HB6.out)) ?_
          rintro e w7 ⟨rfl, hb7⟩
          have HB7 : Hid (Below w.heap.size w w7) := HB6.out.trans (hb7.mono HB6.out.size)
          have HB8 : Hid (Below w.heap.size w (w7.alloc (.cells F2 5))) := HB7.out.alloc HB7.out.size _
          have hcv2' := hcv2 w7
          have hmk2'' := hmk2' w7
          clear hb7 KM1 HB6 hcv1 hmk1' hcv2 hmk2'
          go_wp2_with fail
          generalize w7.alloc (.cells F2 5) = V8 at *
          refine Calls.mono (KM2.out V8 (HZ.out.below HB8.out)) ?_
          rintro e w9 ⟨rfl, hb9⟩
          have HB9 : Hid (Below w.heap.size w w9) := HB8.out.trans (hb9.mono HB8.out.size)
          clear hb9 KM2 HB8 HB7 hcv2' hmk2''
          go_wp2_with fail
          refine (put_none (.pointer none) ⟨keepL.toArray⟩ w9 (fun w' _ => there_nil w')).mono ?_
          rintro e wa ⟨rfl, hba⟩
          have HBa : Hid (Below w.heap.size w wa) := HB9.out.trans (hba.mono HB9.out.size)
          have HBb : Hid (Below w.heap.size w (wa.alloc (.cells #[.int .i64 0, .int .u8 0, .int .u8 0] 27))) := HBa.out.alloc HBa.out.size _
          have HRb : Hid ((wa.alloc (.cells #[.int .i64 0, .int .u8 0, .int .u8 0] 27)).heap[wa.heap.size]? = some (.cells #[.int .i64 0, .int .u8 0, .int .u8 0] 27 (0, 0))) := hp_new rfl
          have HSb : Hid ((wa.alloc (.cells #[.int .i64 0, .int .u8 0, .int .u8 0] 27)).heap.size = wa.heap.size + 1) := by unfold Hid; simp
          clear hba HB9
          have HRc : Hid (((wa.alloc (.cells #[.int .i64 0, .int .u8 0, .int .u8 0] 27)).alloc (.cells #[.bool false, .slice none 0 0, .int .i64 0, .int .u8 0, .int .u8 0] 50)).heap[wa.heap.size + 1]? = some (.cells #[.bool false, .slice none 0 0, .int .i64 0, .int .u8 0, .int .u8 0] 50 (0, 0))) := hp_new HSb.out.symm
          have HBc : Hid (Below w.heap.size w ((wa.alloc (.cells #[.int .i64 0, .int .u8 0, .int .u8 0] 27)).alloc (.cells #[.bool false, .slice none 0 0, .int .i64 0, .int .u8 0, .int .u8 0] 50))) := HBb.out.alloc HBb.out.size _
          have HRd : Hid (((wa.alloc (.cells #[.int .i64 0, .int .u8 0, .int .u8 0] 27)).alloc (.cells #[.bool false, .slice none 0 0, .int .i64 0, .int .u8 0, .int .u8 0] 50)).heap[wa.heap.size]? = some (.cells #[.int .i64 0, .int .u8 0, .int .u8 0] 27 (0, 0))) := hp_up HRb.out
          have hv0 : verV 0 = .agg #[.int .i64 0, .int .u8 0, .int .u8 0] := rfl
          rw [hv0]
          go_wp2_with fail
          generalize (wa.alloc (.cells #[.int .i64 0, .int .u8 0, .int .u8 0] 27)).alloc (.cells #[.bool false, .slice none 0 0, .int .i64 0, .int .u8 0, .int .u8 0] 50) = Vc at *
          refine (put_none (.pointer (some ⟨wa.heap.size + 1, 0, none⟩)) ⟨keepL.toArray⟩ Vc (fun w' hw' => there_not (wa.heap.size + 1) w' (cl_row ((hw'.block _ (Array.getElem?_eq_some_iff.mp HRc.out).1).trans HRc.out) rfl))).mono ?_
          rintro e wd ⟨rfl, hbd⟩
          rw [hv0]
          have HBd : Hid (Below w.heap.size w (wd.alloc (.cells #[.int .i64 0, .int .u8 0, .int .u8 0] 27))) := (HBc.out.trans (hbd.mono HBc.out.size)).alloc (Nat.le_trans HBc.out.size hbd.size) _
          have HRe : Hid ((wd.alloc (.cells #[.int .i64 0, .int .u8 0, .int .u8 0] 27)).heap[wd.heap.size]? = some (.cells #[.int .i64 0, .int .u8 0, .int .u8 0] 27 (0, 0))) := hp_new rfl
          have HRf : Hid ((wd.alloc (.cells #[.int .i64 0, .int .u8 0, .int .u8 0] 27)).heap[wa.heap.size]? = some (.cells #[.int .i64 0, .int .u8 0, .int .u8 0] 27 (0, 0))) := hp_up ((hbd.block _ (Array.getElem?_eq_some_iff.mp HRd.out).1).trans HRd.out)
          have y0 : (wd.alloc (.cells #[.int .i64 0, .int .u8 0, .int .u8 0] 27)).cell? ⟨wa.heap.size, 0, none⟩ = some (.int .i64 0) := cl_row HRf.out rfl
          have y1 : (wd.alloc (.cells #[.int .i64 0, .int .u8 0, .int .u8 0] 27)).cell? ⟨wa.heap.size, 1, none⟩ = some (.int .u8 0) := cl_row HRf.out rfl
          have y2 : (wd.alloc (.cells #[.int .i64 0, .int .u8 0, .int .u8 0] 27)).cell? ⟨wa.heap.size, 2, none⟩ = some (.int .u8 0) := cl_row HRf.out rfl
          have y3 : (wd.alloc (.cells #[.int .i64 0, .int .u8 0, .int .u8 0] 27)).cell? ⟨wd.heap.size, 0, none⟩ = some (.int .i64 0) := cl_row HRe.out rfl
          have y4 : (wd.alloc (.cells #[.int .i64 0, .int .u8 0, .int .u8 0] 27)).cell? ⟨wd.heap.size, 1, none⟩ = some (.int .u8 0) := cl_row HRe.out rfl
          have y5 : (wd.alloc (.cells #[.int .i64 0, .int .u8 0, .int .u8 0] 27)).cell? ⟨wd.heap.size, 2, none⟩ = some (.int .u8 0) := cl_row HRe.out rfl
          clear hbd hv0 HBc HRc HRd HBb HRb HBa
          go_wp2_with fail
          refine (left_nil _).mono ?_
          rintro e we ⟨rfl, hwe⟩
          subst hwe
          go_wp2_with fail
          refine (copy_nil _).mono ?_
          rintro e we ⟨rfl, hwe⟩
          subst hwe
          go_wp2_with fail
          refine (works_any _ (HZ.out.below HBd.out)).mono ?_
          rintro e wf ⟨rfl, hbf⟩
          go_wp2
          go_ret
          exact ⟨rfl, HBd.out.trans (hbf.mono HBd.out.size)⟩
end Go.Proofs.YtlinoklgchfedaaDoor
