/-
  Check and Size of told prefixes.
-/
import Derived.Test.YtjliopclpjeieaaDoorN1
import Derived.Deep.QuietTactic
import Derived.BigQuiet
namespace Go.Proofs.YtjliopclpjeieaaDoor
open Go.RowKit
theorem wrap64_id (n : Int) (h0 : -1000000000 ≤ n) (h1 : n ≤ 1000000000) : wrap64 n = n := by unfold wrap64; omega
/-- May a told prefix be? -/
def nchk (f r : Int) (s : ByteArray) (l lb : Int) : Int := if chk f r s l = 0 ∧ lb ≤ 1048575 ∧ (lb = 0 ∨ lab f = true) then 0 else 2
theorem ncheck_any (f r : Int) (s : ByteArray) (l id lb : Int) (w : World) (hg : FamSizes w) (hr : FamRds w) :
    Calls Tryd.prog 63 #[.agg #[.int .i64 f, .int .u64 r, .string s, .int .i64 l, .int .u32 id, .int .u32 lb]] w fun e w' => e = .returned (.int .i64 (nchk f r s l lb)) ∧ Below w.heap.size w w' := by
  have hb : Below w.heap.size w (w.alloc (.cells #[.int .i64 f, .int .u64 r, .string s, .int .i64 l, .int .u32 id, .int .u32 lb] 46)) := (Below.refl _ _).alloc (Nat.le_refl _) _
  have HG : Hid (FamSizes (w.alloc (.cells #[.int .i64 f, .int .u64 r, .string s, .int .i64 l, .int .u32 id, .int .u32 lb] 46))) := hg.below hb
  have HR : Hid (FamRds (w.alloc (.cells #[.int .i64 f, .int .u64 r, .string s, .int .i64 l, .int .u32 id, .int .u32 lb] 46))) := hr.below hb
  have HB : Hid (Below w.heap.size w (w.alloc (.cells #[.int .i64 f, .int .u64 r, .string s, .int .i64 l, .int .u32 id, .int .u32 lb] 46))) := hb
  have hs : (w.alloc (.cells #[.int .i64 f, .int .u64 r, .string s, .int .i64 l, .int .u32 id, .int .u32 lb] 46)).heap.size = w.heap.size + 1 := by simp
  clear hb
  go_enter Tryd.func63, Tryd.ntmps63
  go_wp2_with fail
  refine (check_any f r s l _ HG.out HR.out).mono ?_
  rintro e w1 ⟨rfl, hb1⟩
  rw [hs] at hb1
  have c4 : w1.cell? ⟨w.heap.size, 5, none⟩ = some (.int .u32 lb) := (hb1.cell (p := ⟨w.heap.size, 5, none⟩) (by simp)).trans (by simp)
  have c0 : w1.cell? ⟨w.heap.size, 0, none⟩ = some (.int .i64 f) := (hb1.cell (p := ⟨w.heap.size, 0, none⟩) (by simp)).trans (by simp)
  have HB1 : Hid (Below w.heap.size w w1) := HB.out.trans (hb1.mono (by omega))
  clear HB HG HR hb1 hs
  by_cases h0 : chk f r s l = 0
  · rw [h0]
    by_cases h1 : 1048575 < lb
    · have E0 : Hid (nchk f r s l lb = 2) := by unfold Hid; unfold nchk; rw [if_neg (by omega)]
      go_wp2
      go_ret
      exact ⟨ret_int E0.out.symm, HB1.out⟩
    · by_cases h2 : lb = 0
      · subst h2
        have E0 : Hid (nchk f r s l 0 = 0) := by unfold Hid; unfold nchk; rw [if_pos ⟨h0, by omega, Or.inl rfl⟩]
        go_wp2
        go_ret
        exact ⟨ret_int E0.out.symm, HB1.out⟩
      · have h2' : (lb == 0) = false := by simpa using h2
        cases hl : lab f with
        | true =>
          have E0 : Hid (nchk f r s l lb = 0) := by unfold Hid; unfold nchk; rw [if_pos ⟨h0, by omega, Or.inr hl⟩]
          go_wp2_with (go_at_call 77; refine (lab_any f _).mono ?_; rintro e w' ⟨rfl, rfl⟩; rw [hl])
          go_ret
          exact ⟨ret_int E0.out.symm, HB1.out⟩
        | false =>
          have E0 : Hid (nchk f r s l lb = 2) := by unfold Hid; unfold nchk; rw [if_neg (by rintro ⟨_, _, h | h⟩ <;> simp_all)]
          go_wp2_with (go_at_call 77; refine (lab_any f _).mono ?_; rintro e w' ⟨rfl, rfl⟩; rw [hl])
          go_ret
          exact ⟨ret_int E0.out.symm, HB1.out⟩
  · rw [chk_two h0]
    have E0 : Hid (nchk f r s l lb = 2) := by unfold Hid; unfold nchk; rw [if_neg (by omega)]
    go_wp2
    go_ret
    exact ⟨ret_int E0.out.symm, HB1.out⟩
theorem nchk_two {f r : Int} {s : ByteArray} {l lb : Int} (h : nchk f r s l lb ≠ 0) : nchk f r s l lb = 2 := by
  unfold nchk at *
  split at h
  · exact absurd rfl h
  · rw [if_neg ‹_›]
theorem nchk_zero {f r : Int} {s : ByteArray} {l lb : Int} (h : nchk f r s l lb = 0) : chk f r s l = 0 ∧ lb ≤ 1048575 ∧ (lb = 0 ∨ lab f = true) := by
  unfold nchk at h
  split at h
  · assumption
  · omega
/-- The bytes that a told prefix has. -/
def nsz (f l : Int) (add : Bool) : Int := idN add + 1 + lbN f + rdN f + byN l
theorem nsz_wrap (f l : Int) (add : Bool) (h0 : 0 ≤ l) (h1 : l ≤ 128) : wrap64 (wrap64 (wrap64 (wrap64 ((idN add : Int) + 1) + (lbN f : Int)) + (rdN f : Int)) + byN l) = nsz f l add := by
  have hid : idN add ≤ 4 := by unfold idN; split <;> omega
  have hlb : lbN f ≤ 3 := by unfold lbN; split <;> omega
  have hrd : rdN f ≤ 8 := by unfold rdN; split <;> omega
  have hby : 0 ≤ byN l ∧ byN l ≤ 100 := by rw [byN_eq l h0]; omega
  unfold nsz
  generalize idN add = a at *
  generalize lbN f = b at *
  generalize rdN f = c at *
  generalize byN l = d at *
  rw [wrap64_id ((a : Int) + 1) (by omega) (by omega), wrap64_id ((a : Int) + 1 + (b : Int)) (by omega) (by omega), wrap64_id ((a : Int) + 1 + (b : Int) + (c : Int)) (by omega) (by omega), wrap64_id _ (by omega) (by omega)]
def szAns (f r : Int) (s : ByteArray) (l lb : Int) (add : Bool) : Ending := if nchk f r s l lb = 0 then .returned (.tuple #[.int .i64 (nsz f l add), .int .i64 0]) else .returned (.tuple #[.int .i64 0, .int .i64 2])
end Go.Proofs.YtjliopclpjeieaaDoor
