/-
  What families' told prefixes have: labels, distinguishers, the shape; may a told prefix be.
-/
import Derived.Test.YtfhbgpepkplbaaaGreatDoorBA
namespace Go.Proofs.YtfhbgpepkplbaaaGreatDoor
open Go.RowKit
/-- Prefixes of that family are told with distinguishers. -/
def dst (f : Int) : Bool := f == 4 || f == 5
/-- Prefixes of that family are told with labels. -/
def lab (f : Int) : Bool := f == 3 || dst f
theorem dst_any (f : Int) (w : World) : Calls Tryz.prog 47 #[.int .i64 f] w fun e w' => e = .returned (.bool (dst f)) ∧ w' = w := by
  by_cases h : f = 4
  · subst h
    go_enter Tryz.func47, Tryz.ntmps47
    go_wp2
    go_ret
    exact ⟨rfl, rfl⟩
  · have h' : (f == 4) = false := by simpa using h
    go_enter Tryz.func47, Tryz.ntmps47
    go_wp2
    go_ret
    exact ⟨ret_bool (by simp [dst, h']), rfl⟩
theorem lab_any (f : Int) (w : World) : Calls Tryz.prog 28 #[.int .i64 f] w fun e w' => e = .returned (.bool (lab f)) ∧ w' = w := by
  by_cases h : f = 3
  · subst h
    go_enter Tryz.func28, Tryz.ntmps28
    go_wp2
    go_ret
    exact ⟨rfl, rfl⟩
  · have h' : (f == 3) = false := by simpa using h
    go_enter Tryz.func28, Tryz.ntmps28
    go_wp2_with (go_at_call 47; refine (dst_any f _).mono ?_; rintro e w' ⟨rfl, rfl⟩)
    go_ret
    exact ⟨ret_bool (by simp [lab, h']), rfl⟩
/-- The bytes of an id, of a label, of a distinguisher. -/
def idN (add : Bool) : Nat := if add then 4 else 0
def lbN (f : Int) : Nat := if lab f then 3 else 0
def rdN (f : Int) : Nat := if dst f then 8 else 0
/-- A family's shape. -/
def shp (f : Int) (add : Bool) : Value := .agg #[.int .i64 (idN add), .int .i64 (lbN f), .int .i64 (rdN f), .int .i64 (szOf f)]
set_option maxRecDepth 100000 in
set_option maxHeartbeats 1600000 in
theorem shape_any (f : Int) (add : Bool) (w : World) (hg : FamSizes w) :
    Calls Tryz.prog 23 #[.int .i64 f, .bool add] w fun e w' => e = .returned (shp f add) ∧ Below w.heap.size w w' := by
  have HG : Hid (FamSizes (w.alloc (.cells #[.int .i64 0, .int .i64 0, .int .i64 0, .int .i64 0] 49))) := hg.below ((Below.refl _ _).alloc (Nat.le_refl _) _)
  have HB : Hid (Below w.heap.size w (w.alloc (.cells #[.int .i64 0, .int .i64 0, .int .i64 0, .int .i64 0] 49))) := (Below.refl _ _).alloc (Nat.le_refl _) _
  unfold shp idN lbN rdN
  cases add <;> cases hl : lab f <;> cases hd : dst f
  all_goals
    go_enter Tryz.func23, Tryz.ntmps23
    go_wp2_with fail
    refine (size_any f _ HG.out).mono ?_
    rintro e w1 ⟨rfl, rfl⟩
    go_wp2_with (first | (go_at_call 28; refine (lab_any f _).mono ?_; rintro e w' ⟨rfl, rfl⟩; rw [hl]) | (go_at_call 47; refine (dst_any f _).mono ?_; rintro e w' ⟨rfl, rfl⟩; rw [hd]))
    refine bodyPost_ret (v := .agg #[_, _, _, _]) (by simp [results, Tryz.results23, go_sem]) rfl ⟨rfl, ((Below.refl _ _).alloc (Nat.le_refl _) _).alloc (by simp) _⟩
/-- How many bytes so many bits need. -/
def byN (n : Int) : Int := Int.tdiv (n + 7) 8
theorem byN_nat (n : Nat) : byN n = ((n + 7) / 8 : Nat) := by
  unfold byN
  rw [Int.tdiv_eq_ediv_of_nonneg (by omega)]
  omega
theorem byN_eq (n : Int) (h : 0 ≤ n) : byN n = (n + 7) / 8 := by
  unfold byN
  rw [Int.tdiv_eq_ediv_of_nonneg (by omega)]
theorem bytesOf_any (n : Int) (w : World) (h0 : -1000000000 ≤ n) (h1 : n ≤ 1000000000) : Calls Tryz.prog 24 #[.int .i64 n] w fun e w' => e = .returned (.int .i64 (byN n)) ∧ w' = w := by
  have hw : wrap64 (n + 7) = n + 7 := by unfold wrap64; omega
  have hw2 : wrap64 (Int.tdiv (n + 7) 8) = Int.tdiv (n + 7) 8 := by
    have hb : -1000000000 ≤ Int.tdiv (n + 7) 8 ∧ Int.tdiv (n + 7) 8 ≤ 1000000000 := by
      by_cases h : 0 ≤ n + 7
      · rw [Int.tdiv_eq_ediv_of_nonneg h]; omega
      · rw [show n + 7 = -(-(n + 7)) by omega, Int.neg_tdiv, Int.tdiv_eq_ediv_of_nonneg (by omega)]; omega
    unfold wrap64; omega
  go_enter Tryz.func24, Tryz.ntmps24
  go_wp2
  go_ret
  exact ⟨ret_int rfl, rfl⟩
/-- How many bits stand ahead of those of the prefix. -/
def exN (f : Int) : Nat := 8 * (lbN f + rdN f)
theorem extra_any (f : Int) (add : Bool) (w : World) : Calls Tryz.prog 67 #[shp f add] w fun e w' => e = .returned (.int .i64 (exN f)) ∧ Below w.heap.size w w' := by
  unfold shp exN lbN rdN
  cases hl : lab f <;> cases hd : dst f
  all_goals
    go_enter Tryz.func67, Tryz.ntmps67
    go_wp2
    go_ret
    exact ⟨rfl, (Below.refl _ _).alloc (Nat.le_refl _) _⟩
end Go.Proofs.YtfhbgpepkplbaaaGreatDoor
