/-
  Check and Size of told prefixes.
-/
import Derived.Test.YtfhbgpepkplbaaaGreatDoorN1
import Derived.Deep.QuietTactic
import Derived.BigQuiet
namespace Go.Proofs.YtfhbgpepkplbaaaGreatDoor
open Go.RowKit
theorem wrap64_id (n : Int) (h0 : -1000000000 ≤ n) (h1 : n ≤ 1000000000) : wrap64 n = n := by unfold wrap64; omega
/-- May a told prefix be? -/
def nchk (f r : Int) (s : ByteArray) (l lb : Int) : Int := if chk f r s l = 0 ∧ lb ≤ 1048575 ∧ (lb = 0 ∨ lab f = true) then 0 else 2
theorem ncheck_any (f r : Int) (s : ByteArray) (l id lb : Int) (w : World) (hg : FamSizes w) (hr : FamRds w) :
    Calls Tryz.prog 9 #[.agg #[.int .i64 f, .int .u64 r, .string s, .int .i64 l, .int .u32 id, .int .u32 lb]] w fun e w' => e = .returned (.int .i64 (nchk f r s l lb)) ∧ Below w.heap.size w w' := by
  have hb : Below w.heap.size w (w.alloc (.cells #[.int .i64 f, .int .u64 r, .string s, .int .i64 l, .int .u32 id, .int .u32 lb] 27)) := (Below.refl _ _).alloc (Nat.le_refl _) _
  have HG : Hid (FamSizes (w.alloc (.cells #[.int .i64 f, .int .u64 r, .string s, .int .i64 l, .int .u32 id, .int .u32 lb] 27))) := hg.below hb
  have HR : Hid (FamRds (w.alloc (.cells #[.int .i64 f, .int .u64 r, .string s, .int .i64 l, .int .u32 id, .int .u32 lb] 27))) := hr.below hb
  have HB : Hid (Below w.heap.size w (w.alloc (.cells #[.int .i64 f, .int .u64 r, .string s, .int .i64 l, .int .u32 id, .int .u32 lb] 27))) := hb
  have hs : (w.alloc (.cells #[.int .i64 f, .int .u64 r, .string s, .int .i64 l, .int .u32 id, .int .u32 lb] 27)).heap.size = w.heap.size + 1 := by simp
  clear hb
  go_enter Tryz.func9, Tryz.ntmps9
  go_wp2_with fail
  refine (check_any f r s l _ HG.out HR.out).mono ?_
  rintro e w1 ⟨rfl, hb1⟩
  rw [hs] at hb1
  have c4 : w1.cell? ⟨w.heap.size, 5, none⟩ = some (.int .u32 lb) := (hb1.cell (p := ⟨w.heap.size, 5, none⟩) (by simp)).trans (by simp)
  have c0 : w1.cell? ⟨w.heap.size, 0, none⟩ = some (.int .i64 f) := (hb1.cell (p := ⟨w.heap.size, 0, none⟩) (by simp)).trans (by simp)
  have HB1 : Hid (Below w.heap.size w w1) := HB.out.trans (hb1.mono (by omega))
  clear HB HG HR hb1 hs
  by_cases h0 : chk f r s l = 0
  · rw [h0]
    by_cases h1 : 1048575 < lb
    · have E0 : Hid (nchk f r s l lb = 2) := by unfold Hid; unfold nchk; rw [if_neg (by omega)]
      go_wp2
      go_ret
      exact ⟨ret_int E0.out.symm, HB1.out⟩
    · by_cases h2 : lb = 0
      · subst h2
        have E0 : Hid (nchk f r s l 0 = 0) := by unfold Hid; unfold nchk; rw [if_pos ⟨h0, by omega, Or.inl rfl⟩]
        go_wp2
        go_ret
        exact ⟨ret_int E0.out.symm, HB1.out⟩
      · have h2' : (lb == 0) = false := by simpa using h2
        cases hl : lab f with
        | true =>
          have E0 : Hid (nchk f r s l lb = 0) := by unfold Hid; unfold nchk; rw [if_pos ⟨h0, by omega, Or.inr hl⟩]
          go_wp2_with (go_at_call 28; refine (lab_any f _).mono ?_; rintro e w' ⟨rfl, rfl⟩; rw [hl])
          go_ret
          exact ⟨ret_int E0.out.symm, HB1.out⟩
        | false =>
          have E0 : Hid (nchk f r s l lb = 2) := by unfold Hid; unfold nchk; rw [if_neg (by rintro ⟨_, _, h | h⟩ <;> simp_all)]
          go_wp2_with (go_at_call 28; refine (lab_any f _).mono ?_; rintro e w' ⟨rfl, rfl⟩; rw [hl])
          go_ret
          exact ⟨ret_int E0.out.symm, HB1.out⟩
  · rw [chk_two h0]
    have E0 : Hid (nchk f r s l lb = 2) := by unfold Hid; unfold nchk; rw [if_neg (by omega)]
    go_wp2
    go_ret
    exact ⟨ret_int E0.out.symm, HB1.out⟩
theorem nchk_two {f r : Int} {s : ByteArray} {l lb : Int} (h : nchk f r s l lb ≠ 0) : nchk f r s l lb = 2 := by
  unfold nchk at *
  split at h
  · exact absurd rfl h
  · rw [if_neg ‹_›]
theorem nchk_zero {f r : Int} {s : ByteArray} {l lb : Int} (h : nchk f r s l lb = 0) : chk f r s l = 0 ∧ lb ≤ 1048575 ∧ (lb = 0 ∨ lab f = true) := by
  unfold nchk at h
  split at h
  · assumption
  · omega
/-- The bytes that a told prefix has. -/
def nsz (f l : Int) (add : Bool) : Int := idN add + 1 + lbN f + rdN f + byN l
theorem nsz_wrap (f l : Int) (add : Bool) (h0 : 0 ≤ l) (h1 : l ≤ 128) : wrap64 (wrap64 (wrap64 (wrap64 ((idN add : Int) + 1) + (lbN f : Int)) + (rdN f : Int)) + byN l) = nsz f l add := by
  have hid : idN add ≤ 4 := by unfold idN; split <;> omega
  have hlb : lbN f ≤ 3 := by unfold lbN; split <;> omega
  have hrd : rdN f ≤ 8 := by unfold rdN; split <;> omega
  have hby : 0 ≤ byN l ∧ byN l ≤ 100 := by rw [byN_eq l h0]; omega
  unfold nsz
  generalize idN add = a at *
  generalize lbN f = b at *
  generalize rdN f = c at *
  generalize byN l = d at *
  rw [wrap64_id ((a : Int) + 1) (by omega) (by omega), wrap64_id ((a : Int) + 1 + (b : Int)) (by omega) (by omega), wrap64_id ((a : Int) + 1 + (b : Int) + (c : Int)) (by omega) (by omega), wrap64_id _ (by omega) (by omega)]
def szAns (f r : Int) (s : ByteArray) (l lb : Int) (add : Bool) : Ending := if nchk f r s l lb = 0 then .returned (.tuple #[.int .i64 (nsz f l add), .int .i64 0]) else .returned (.tuple #[.int .i64 0, .int .i64 2])
set_option maxRecDepth 100000 in
set_option maxHeartbeats 1600000 in
theorem nsize_any (f r : Int) (s : ByteArray) (l id lb : Int) (add : Bool) (w : World) (hg : FamSizes w) (hr : FamRds w) :
    Calls Tryz.prog 7 #[.agg #[.int .i64 f, .int .u64 r, .string s, .int .i64 l, .int .u32 id, .int .u32 lb], .bool add] w fun e w' =>
      e = szAns f r s l lb add ∧ Below w.heap.size w w' := by
  have hb : Below w.heap.size w (w.alloc (.cells #[.int .i64 f, .int .u64 r, .string s, .int .i64 l, .int .u32 id, .int .u32 lb] 27)) := (Below.refl _ _).alloc (Nat.le_refl _) _
  have HG : Hid (FamSizes (w.alloc (.cells #[.int .i64 f, .int .u64 r, .string s, .int .i64 l, .int .u32 id, .int .u32 lb] 27))) := hg.below hb
  have HR : Hid (FamRds (w.alloc (.cells #[.int .i64 f, .int .u64 r, .string s, .int .i64 l, .int .u32 id, .int .u32 lb] 27))) := hr.below hb
  have HB : Hid (Below w.heap.size w (w.alloc (.cells #[.int .i64 f, .int .u64 r, .string s, .int .i64 l, .int .u32 id, .int .u32 lb] 27))) := hb
  have hs : (w.alloc (.cells #[.int .i64 f, .int .u64 r, .string s, .int .i64 l, .int .u32 id, .int .u32 lb] 27)).heap.size = w.heap.size + 1 := by simp
  clear hb
  go_enter Tryz.func7, Tryz.ntmps7
  go_wp2_with fail
  refine (ncheck_any f r s l id lb _ HG.out HR.out).mono ?_
  rintro e w1 ⟨rfl, hb1⟩
  rw [hs] at hb1
  have c3 : w1.cell? ⟨w.heap.size, 3, none⟩ = some (.int .i64 l) := (hb1.cell (p := ⟨w.heap.size, 3, none⟩) (by simp)).trans (by simp)
  have c0 : w1.cell? ⟨w.heap.size, 0, none⟩ = some (.int .i64 f) := (hb1.cell (p := ⟨w.heap.size, 0, none⟩) (by simp)).trans (by simp)
  have HB1 : Hid (Below w.heap.size w w1) := HB.out.trans (hb1.mono (by omega))
  have HG1 : Hid (FamSizes w1) := HG.out.below (hb1.mono (by rw [hs]; exact Nat.le_refl _))
  have hsz : w.heap.size + 1 ≤ w1.heap.size := by have := hb1.size; rw [hs] at this; exact this
  clear HB HG HR hb1 hs
  by_cases h0 : nchk f r s l lb = 0
  · have E0 : Hid (nchk f r s l lb = 0) := h0
    rw [h0]
    obtain ⟨hc, _, _⟩ := nchk_zero h0
    obtain ⟨hz, _, hl0, hl1, _, _⟩ := chk_zero hc
    have hsb := szOf_bd f
    have HL : Hid (0 ≤ l ∧ l ≤ 128) := by unfold Hid; omega
    clear h0 hc hz hl0 hl1 hsb
    go_wp2_with fail
    refine (shape_any f add _ HG1.out).mono ?_
    rintro e w2 ⟨rfl, hb2⟩
    have HB2 : Hid (Below w.heap.size w w2) := HB1.out.trans (hb2.mono (by omega))
    have hc3 : w2.cell? ⟨w.heap.size, 3, none⟩ = some (.int .i64 l) := (hb2.cell (p := ⟨w.heap.size, 3, none⟩) hsz).trans c3
    have hsz2 : w.heap.size < w2.heap.size := Nat.lt_of_lt_of_le hsz hb2.size
    unfold shp
    clear hb2 c3 c0 HB1 HG1 hsz
    have HE : Hid (_ = nsz f l add) := nsz_wrap f l add HL.out.1 HL.out.2
    have K1 : Hid (∀ w, Calls Tryz.prog 24 #[.int .i64 l] w fun e w' => e = .returned (.int .i64 (byN l)) ∧ w' = w) := fun w => bytesOf_any l w (by have := HL.out; omega) (by have := HL.out; omega)
    go_wp2_with fail
    go_quiet ((go_at_call 24; refine Calls.quiet_of_same (K1.out _)))
    go_wp2
    go_ret2
    refine ⟨by unfold szAns; rw [if_pos E0.out, ← HE.out]; rfl, ?_⟩
    exact below_drewN (HB2.out.alloc (by omega) _) _
  · have E0 : Hid (¬ nchk f r s l lb = 0) := h0
    rw [nchk_two h0]
    go_wp2
    go_ret2
    exact ⟨by unfold szAns; rw [if_neg E0.out]; rfl, HB1.out⟩
end Go.Proofs.YtfhbgpepkplbaaaGreatDoor
