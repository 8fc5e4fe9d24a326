/-
  Put of a broken stream; Make.
-/
import Derived.Test.YtlinoklgchfedaaDoorB7
namespace Go.Proofs.YtlinoklgchfedaaDoor
open Go.RowKit
set_option maxRecDepth 100000 in
set_option maxHeartbeats 800000 in
theorem put_broken (p m cp : Nat) (ad : Option Addr) (c : ByteArray) (w : World) (h : BkAt w p ad cp m) :
    Calls Tryd.prog 9 #[.pointer (some ⟨p, 0, none⟩), .string c] w fun e w' => e = .returned (.tuple #[.slice none 0 0, .agg #[.int .i64 3, .int .u8 1, .int .u8 (m : Int)]]) ∧ Below w.heap.size w w' := by
  have hpl : p < w.heap.size := (Array.getElem?_eq_some_iff.mp h.row).1
  have hb1 : Below w.heap.size w (w.alloc (.cells #[.int .i64 0, .int .u8 0, .int .u8 0] 27)) := (Below.refl _ _).alloc (Nat.le_refl _) _
  have HB1 : Hid (Below w.heap.size w (w.alloc (.cells #[.int .i64 0, .int .u8 0, .int .u8 0] 27))) := hb1
  have HF : Hid ((w.alloc (.cells #[.int .i64 0, .int .u8 0, .int .u8 0] 27)).heap[p]? = _) := (hb1.block p hpl).trans h.row
  have hr : (w.alloc (.cells #[.int .i64 0, .int .u8 0, .int .u8 0] 27)).heap[w.heap.size]? = some (.cells #[.int .i64 0, .int .u8 0, .int .u8 0] 27 (0, 0)) := hp_new rfl
  have HR : Hid ((w.alloc (.cells #[.int .i64 0, .int .u8 0, .int .u8 0] 27)).heap[w.heap.size]? = some (.cells #[.int .i64 0, .int .u8 0, .int .u8 0] 27 (0, 0))) := hr
  clear h hb1 hr
  go_enter Tryd.func9, Tryd.ntmps9
  go_wp2_with fail
  generalize w.alloc (.cells #[.int .i64 0, .int .u8 0, .int .u8 0] 27) = W at *
  refine (there_yes p W (cl_row HF.out rfl)).mono ?_
  rintro e w1 ⟨rfl, hw1⟩
  obtain rfl : W = w1 := hw1.symm
  clear hw1
  go_wp2
  go_loopw [1, 6] (fun t u wr => t = .string c ∧ u = .slice none 0 0 ∧ W = wr) (fun _ _ _ => 0)
  case atStart => exact ⟨rfl, rfl, rfl⟩
  case round =>
    obtain ⟨rfl, rfl, rfl⟩ := hrel
    cases hne : (c.toList == [])
    · go_wp2_with fail
      refine (broken_any p _ W (cl_row HF.out rfl)).mono ?_
      rintro e w2 ⟨rfl, hw2⟩
      obtain rfl : W = w2 := hw2.symm
      clear hw2
      go_wp2
      have q2 : W.cell? ⟨p, 2, none⟩ = some (.int .i64 3) := cl_row HF.out rfl
      have q3 : W.cell? ⟨p, 3, none⟩ = some (.int .u8 1) := cl_row HF.out rfl
      have q4 : W.cell? ⟨p, 4, none⟩ = some (.int .u8 (m : Int)) := cl_row HF.out rfl
      have r0 : W.cell? ⟨w.heap.size, 0, none⟩ = some (.int .i64 0) := cl_row HR.out rfl
      have r1 : W.cell? ⟨w.heap.size, 1, none⟩ = some (.int .u8 0) := cl_row HR.out rfl
      have r2 : W.cell? ⟨w.heap.size, 2, none⟩ = some (.int .u8 0) := cl_row HR.out rfl
      have z0 : W.frozen? ⟨w.heap.size, 0, none⟩ = false := fz_row HR.out
      have z1 : W.frozen? ⟨w.heap.size, 1, none⟩ = false := fz_row HR.out
      have z2 : W.frozen? ⟨w.heap.size, 2, none⟩ = false := fz_row HR.out
      go_region
      all_goals go_wp2
      all_goals refine bodyPost_ret (v := .tuple #[.slice none 0 0, .agg #[.int .i64 3, .int .u8 1, .int .u8 (m : Int)]]) (by simp [results, Tryd.results9, go_sem, r0, r1, r2]) rfl ?_
      all_goals exact ⟨rfl, (((below_drewN HB1.out 1).setCell (p := ⟨w.heap.size, 0, none⟩) (Nat.le_refl _) _).setCell (p := ⟨w.heap.size, 1, none⟩) (Nat.le_refl _) _).setCell (p := ⟨w.heap.size, 2, none⟩) (Nat.le_refl _) _⟩
    · go_wp2
      have q2 : W.cell? ⟨p, 2, none⟩ = some (.int .i64 3) := cl_row HF.out rfl
      have q3 : W.cell? ⟨p, 3, none⟩ = some (.int .u8 1) := cl_row HF.out rfl
      have q4 : W.cell? ⟨p, 4, none⟩ = some (.int .u8 (m : Int)) := cl_row HF.out rfl
      have r0 : W.cell? ⟨w.heap.size, 0, none⟩ = some (.int .i64 0) := cl_row HR.out rfl
      have r1 : W.cell? ⟨w.heap.size, 1, none⟩ = some (.int .u8 0) := cl_row HR.out rfl
      have r2 : W.cell? ⟨w.heap.size, 2, none⟩ = some (.int .u8 0) := cl_row HR.out rfl
      have z0 : W.frozen? ⟨w.heap.size, 0, none⟩ = false := fz_row HR.out
      have z1 : W.frozen? ⟨w.heap.size, 1, none⟩ = false := fz_row HR.out
      have z2 : W.frozen? ⟨w.heap.size, 2, none⟩ = false := fz_row HR.out
      go_region
      all_goals go_wp2
      all_goals refine bodyPost_ret (v := .tuple #[.slice none 0 0, .agg #[.int .i64 3, .int .u8 1, .int .u8 (m : Int)]]) (by simp [results, Tryd.results9, go_sem, r0, r1, r2]) rfl ?_
      all_goals exact ⟨rfl, (((below_drewN HB1.out 1).setCell (p := ⟨w.heap.size, 0, none⟩) (Nat.le_refl _) _).setCell (p := ⟨w.heap.size, 1, none⟩) (Nat.le_refl _) _).setCell (p := ⟨w.heap.size, 2, none⟩) (Nat.le_refl _) _⟩

/-- What Make answers. -/
def makeI (k : Int) (bd : List UInt8) : List UInt8 × Int :=
  if 1 ≤ k ∧ k ≤ 5 then (if 4096 < 19 + bd.length then ([], 3) else if fitI k ((19 + bd.length : Nat) : Int) = true then (headI k.toNat (19 + bd.length) ++ bd, 0) else ([], 2)) else ([], 2)
def mkAns (k : Int) (bd : List UInt8) : Ending := .returned (.tuple #[.string ⟨(makeI k bd).1.toArray⟩, .int .i64 (makeI k bd).2])
set_option maxRecDepth 100000 in
set_option maxHeartbeats 800000 in
theorem make_any (k : Int) (bd : List UInt8) (w : World) (hs : SzAt w) (hl : bd.length ≤ 1000000) :
    Calls Tryd.prog 14 #[.agg #[.int .i64 k, .string ⟨bd.toArray⟩]] w fun e w' => e = mkAns k bd ∧ Below w.heap.size w w' := by
  have hb1 : Below w.heap.size w (w.alloc (.cells #[.int .i64 k, .string ⟨bd.toArray⟩] 37)) := (Below.refl _ _).alloc (Nat.le_refl _) _
  have HZ : Hid (SzAt (w.alloc (.cells #[.int .i64 k, .string ⟨bd.toArray⟩] 37))) := hs.below hb1
  have HB : Hid (Below w.heap.size w (w.alloc (.cells #[.int .i64 k, .string ⟨bd.toArray⟩] 37))) := hb1
  have hr : (w.alloc (.cells #[.int .i64 k, .string ⟨bd.toArray⟩] 37)).heap[w.heap.size]? = some (.cells #[.int .i64 k, .string ⟨bd.toArray⟩] 37 (0, 0)) := hp_new rfl
  have c0 : (w.alloc (.cells #[.int .i64 k, .string ⟨bd.toArray⟩] 37)).cell? ⟨w.heap.size, 0, none⟩ = some (.int .i64 k) := cl_row hr rfl
  have c1 : (w.alloc (.cells #[.int .i64 k, .string ⟨bd.toArray⟩] 37)).cell? ⟨w.heap.size, 1, none⟩ = some (.string ⟨bd.toArray⟩) := cl_row hr rfl
  have hsz : (⟨bd.toArray⟩ : ByteArray).size = bd.length := list_size bd
  have hq : w.heap.size < (w.alloc (.cells #[.int .i64 k, .string ⟨bd.toArray⟩] 37)).heap.size := by simp
  generalize hW : w.alloc (.cells #[.int .i64 k, .string ⟨bd.toArray⟩] 37) = W at *
  generalize hR : mkAns k bd = r at *
  unfold mkAns makeI at hR
  have hl2 : (bd.length : Int) ≤ 1000000 := by omega
  clear hs hb1 hr
  by_cases hk : 1 ≤ k ∧ k ≤ 5
  · rw [if_pos hk] at hR
    have hkk : (decide (1 ≤ k) && decide (k ≤ 5)) = true := by simp [hk.1, hk.2]
    by_cases hm : 4096 < 19 + bd.length
    · rw [if_pos hm] at hR
      have hm2 : (4096 : Int) < 19 + bd.length := by omega
      have HR : Hid (_ = r) := hR
      clear hR
      go_enter Tryd.func14, Tryd.ntmps14
      go_wp2_with fail
      refine (isKind_any k W).mono ?_
      rintro e w1 ⟨rfl, hw1⟩
      obtain rfl : W = w1 := hw1.symm
      clear hw1
      simp only [hkk]
      go_wp2
      go_ret2
      exact ⟨HR.out, HB.out⟩
    · rw [if_neg hm] at hR
      have hm2 : (19 : Int) + bd.length ≤ 4096 := by omega
      have KF : Hid (_ : Prop) := fits_any k ((19 + bd.length : Nat) : Int) W HZ.out hk.1 hk.2
      cases hf : fitI k ((19 + bd.length : Nat) : Int)
      · rw [hf] at KF
        rw [if_neg (by rw [hf]; decide)] at hR
        have HR : Hid (_ = r) := hR
        clear hR
        go_enter Tryd.func14, Tryd.ntmps14
        go_wp2_with fail
        refine (isKind_any k W).mono ?_
        rintro e w1 ⟨rfl, hw1⟩
        obtain rfl : W = w1 := hw1.symm
        clear hw1
        simp only [hkk]
        go_wp2_with fail
        refine Calls.mono KF.out ?_
        rintro e w1 ⟨rfl, hw1⟩
        obtain rfl : W = w1 := hw1.symm
        clear hw1
        go_wp2
        go_ret2
        exact ⟨HR.out, HB.out⟩
      · rw [hf] at KF
        rw [if_pos hf] at hR
        obtain ⟨kn, rfl⟩ := Int.eq_ofNat_of_zero_le (show 0 ≤ k by omega)
        have KH : Hid (∀ w', Calls Tryd.prog 27 #[.int .i64 (kn : Int), .int .i64 ((19 + bd.length : Nat) : Int)] w' fun e w'' => e = .returned (.string ⟨(headI kn (19 + bd.length)).toArray⟩) ∧ Below w'.heap.size w' w'') := fun w' => head_any kn (19 + bd.length) w' (by omega) (by omega)
        have hh : (⟨(headI kn (19 + bd.length)).toArray⟩ : ByteArray).size = 19 := by rw [list_size]; rfl
        have ha := app_bytes (headI kn (19 + bd.length)) bd
        have HR : Hid (_ = r) := hR
        rw [Int.toNat_natCast] at HR
        generalize (⟨(headI kn (19 + bd.length)).toArray⟩ : ByteArray) = hd at *
        clear hR hf
        go_enter Tryd.func14, Tryd.ntmps14
        go_wp2_with fail
        refine (isKind_any kn W).mono ?_
        rintro e w1 ⟨rfl, hw1⟩
        obtain rfl : W = w1 := hw1.symm
        clear hw1
        simp only [hkk]
        go_wp2_with fail
        refine Calls.mono KF.out ?_
        rintro e w1 ⟨rfl, hw1⟩
        obtain rfl : W = w1 := hw1.symm
        clear hw1
        go_wp2
        go_region_held (fun w' => w'.cell? ⟨w.heap.size, 0, none⟩ = some (.int .i64 (kn : Int)) ∧ w'.cell? ⟨w.heap.size, 1, none⟩ = some (.string ⟨bd.toArray⟩)) (go_keep)
          (first | (go_at_call 27; refine Calls.mono (KH.out _) ?_; rintro e w5 ⟨rfl, hb5⟩; have q0 := (hb5.cell (p := ⟨w.heap.size, 0, none⟩) hq).trans c0; have q1 := (hb5.cell (p := ⟨w.heap.size, 1, none⟩) hq).trans c1))
        all_goals go_wp2
        all_goals go_ret2
        all_goals exact ⟨HR.out, (below_drewN HB.out 1).trans (hb5.mono HB.out.size)⟩
  · rw [if_neg hk] at hR
    have hkk : (decide (1 ≤ k) && decide (k ≤ 5)) = false := by rw [Bool.and_eq_false_iff, decide_eq_false_iff_not, decide_eq_false_iff_not]; omega
    have HR : Hid (_ = r) := hR
    clear hR
    go_enter Tryd.func14, Tryd.ntmps14
    go_wp2_with fail
    refine (isKind_any k W).mono ?_
    rintro e w1 ⟨rfl, hw1⟩
    obtain rfl : W = w1 := hw1.symm
    clear hw1
    simp only [hkk]
    go_wp2
    go_ret2
    exact ⟨HR.out, HB.out⟩
end Go.Proofs.YtlinoklgchfedaaDoor
