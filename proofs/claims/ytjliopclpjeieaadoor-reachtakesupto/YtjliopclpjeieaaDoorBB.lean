/-
  The contracts of the reference's Check and Covers, for every two prefixes.
-/
import Derived.Test.YtjliopclpjeieaaDoorBA
import Derived.LoopN
import Derived.Deep.QuietTactic
import Derived.BigQuiet
namespace Go.Proofs.YtjliopclpjeieaaDoor
open Go.RowKit

theorem chk_zero {f r : Int} {s : ByteArray} {l : Int} (h : chk f r s l = 0) : szOf f ≠ 0 ∧ (s.size : Int) = szOf f ∧ 0 ≤ l ∧ l ≤ 8 * szOf f ∧ (r = 0 ∨ 4 ≤ f) ∧ msk s.data.toList l = s.data.toList := by
  unfold chk at h
  split at h
  · assumption
  · omega
theorem chk_two {f r : Int} {s : ByteArray} {l : Int} (h : chk f r s l ≠ 0) : chk f r s l = 2 := by
  unfold chk at *
  by_cases c : szOf f ≠ 0 ∧ (s.size : Int) = szOf f ∧ 0 ≤ l ∧ l ≤ 8 * szOf f ∧ (r = 0 ∨ 4 ≤ f) ∧ msk s.data.toList l = s.data.toList
  · rw [if_pos c] at h; exact absurd rfl h
  · rw [if_neg c]

end Go.Proofs.YtjliopclpjeieaaDoor
namespace Go.Proofs.YtjliopclpjeieaaDoor
open Go.RowKit
/-- The order of two numbers. -/
def ord (a b : Int) : Int := if a < b then -1 else if b < a then 1 else 0
theorem ord_lt {a b : Int} (h : a < b) : ord a b = -1 := by unfold ord; rw [if_pos h]
theorem ord_gt {a b : Int} (h : b < a) : ord a b = 1 := by unfold ord; rw [if_neg (by omega), if_pos h]
theorem ord_eq {a b : Int} (h1 : ¬ a < b) (h2 : ¬ b < a) : ord a b = 0 := by unfold ord; rw [if_neg h1, if_neg h2]
/-- The order of two texts, as the model tells it. -/
def ordS (a b : List UInt8) : Int := if Op.bytesLess a b = true then -1 else if (a == b) = true then 0 else 1

end Go.Proofs.YtjliopclpjeieaaDoor
namespace Go.Proofs.YtjliopclpjeieaaDoor
open Go.RowKit
/-- The order of two prefixes. -/
def pcmp (fa ra : Int) (sa : ByteArray) (la : Int) (fb rb : Int) (sb : ByteArray) (lb : Int) : Int :=
  if ord fa fb ≠ 0 then ord fa fb else if ord ra rb ≠ 0 then ord ra rb else if ordS sa.toList sb.toList ≠ 0 then ordS sa.toList sb.toList else ord la lb

/-- The first of four numbers that is not 0. -/
def firstOf (x0 x1 x2 x3 : Int) : Int := if x0 ≠ 0 then x0 else if x1 ≠ 0 then x1 else if x2 ≠ 0 then x2 else x3

/-- What holds ahead of round k. -/
def Zs (x0 x1 x2 x3 : Int) (k : Nat) : Prop := (1 ≤ k → x0 = 0) ∧ (2 ≤ k → x1 = 0) ∧ (3 ≤ k → x2 = 0) ∧ (4 ≤ k → x3 = 0)
theorem Zs.none {x0 x1 x2 x3 : Int} (h : Zs x0 x1 x2 x3 4) : (0 : Int) = firstOf x0 x1 x2 x3 := by
  unfold Zs at h; unfold firstOf; repeat' split
  all_goals omega
theorem Zs.hit0 {x0 x1 x2 x3 : Int} (h : (x0 != 0) = true) : x0 = firstOf x0 x1 x2 x3 := by
  rw [bne_iff_ne] at h; unfold firstOf; rw [if_pos h]
theorem Zs.hit1 {x0 x1 x2 x3 : Int} (z : Zs x0 x1 x2 x3 1) (h : (x1 != 0) = true) : x1 = firstOf x0 x1 x2 x3 := by
  rw [bne_iff_ne] at h; unfold Zs at z; unfold firstOf; rw [if_neg (by omega), if_pos h]
theorem Zs.hit2 {x0 x1 x2 x3 : Int} (z : Zs x0 x1 x2 x3 2) (h : (x2 != 0) = true) : x2 = firstOf x0 x1 x2 x3 := by
  rw [bne_iff_ne] at h; unfold Zs at z; unfold firstOf; rw [if_neg (by omega), if_neg (by omega), if_pos h]
theorem Zs.hit3 {x0 x1 x2 x3 : Int} (z : Zs x0 x1 x2 x3 3) : x3 = firstOf x0 x1 x2 x3 := by
  unfold Zs at z; unfold firstOf; rw [if_neg (by omega), if_neg (by omega), if_neg (by omega)]
theorem Zs.next0 {x0 x1 x2 x3 : Int} (h : (x0 != 0) = false) : Zs x0 x1 x2 x3 1 := by
  have : x0 = 0 := by simpa using h
  unfold Zs; omega
theorem Zs.next1 {x0 x1 x2 x3 : Int} (z : Zs x0 x1 x2 x3 1) (h : (x1 != 0) = false) : Zs x0 x1 x2 x3 2 := by
  have : x1 = 0 := by simpa using h
  unfold Zs at *; omega
theorem Zs.next2 {x0 x1 x2 x3 : Int} (z : Zs x0 x1 x2 x3 2) (h : (x2 != 0) = false) : Zs x0 x1 x2 x3 3 := by
  have : x2 = 0 := by simpa using h
  unfold Zs at *; omega
theorem Zs.next3 {x0 x1 x2 x3 : Int} (z : Zs x0 x1 x2 x3 3) (h : (x3 != 0) = false) : Zs x0 x1 x2 x3 4 := by
  have : x3 = 0 := by simpa using h
  unfold Zs at *; omega

end Go.Proofs.YtjliopclpjeieaaDoor
namespace Go.Proofs.YtjliopclpjeieaaDoor
open Go.RowKit
theorem cellOr {W' w2 : World} (hb : Below W'.heap.size W' w2) (b i : Nat) : w2.cell? ⟨b, i, none⟩ = if b < W'.heap.size then W'.cell? ⟨b, i, none⟩ else w2.cell? ⟨b, i, none⟩ := by
  split
  · exact hb.cell (by assumption)
  · rfl
theorem frozenOr {W' w2 : World} (hb : Below W'.heap.size W' w2) (b i : Nat) : w2.frozen? ⟨b, i, none⟩ = if b < W'.heap.size then W'.frozen? ⟨b, i, none⟩ else w2.frozen? ⟨b, i, none⟩ := by
  split
  · exact hb.frozen (by assumption)
  · rfl
/-- The world at a place of the walk, by what is known of it. -/
theorem with_world {P : Program} {c : Code} {Q : Exit → Act → World → Prop} {a : Act} {W : World} (F : World → Prop) (hF : F W) (h : ∀ wx, F wx → Code.wp P c Q a wx) : Code.wp P c Q a W := h W hF
theorem msk_full (l : List UInt8) (n : Int) (h : 8 * (l.length : Int) ≤ n) : msk l n = l := by
  apply List.ext_getElem
  · simp [msk]
  · intro i h1 h2
    have hm : mk (n - 8 * (i : Int)) = 255 := by unfold mk; rw [if_neg (by omega), if_pos (by omega)]
    simp only [msk, List.getElem_mapIdx, hm]
    apply UInt8.toNat_inj.1
    rw [UInt8.toNat_and]
    have := (l[i]).toNat_lt
    exact Nat.and_two_pow_sub_one_of_lt_two_pow (n := 8) this
theorem chk_full (f r : Int) (s : ByteArray) (hz : szOf f ≠ 0) (hs : (s.size : Int) = szOf f) (hr : r = 0 ∨ 4 ≤ f) : chk f r s (8 * szOf f) = 0 := by
  have hb := szOf_bd f
  unfold chk
  rw [if_pos ⟨hz, hs, by omega, by omega, hr, msk_full _ _ (by simp; omega)⟩]
end Go.Proofs.YtjliopclpjeieaaDoor
namespace Go.Proofs.YtjliopclpjeieaaDoor
open Go.RowKit
/-- The cells of the table of families. -/
def famCells : Array Value := #[.string ⟨#[]⟩, .int .i64 0, .bool false, .string ⟨#[118, 52]⟩, .int .i64 4, .bool false, .string ⟨#[118, 54]⟩, .int .i64 16, .bool false, .string ⟨#[108, 52]⟩, .int .i64 4, .bool false, .string ⟨#[118, 112, 110, 52]⟩, .int .i64 4, .bool true, .string ⟨#[118, 112, 110, 54]⟩, .int .i64 16, .bool true]
/-- The cells of the table of styles. -/
def stCells : Array Value := #[.string ⟨#[46]⟩, .int .i64 4, .int .i64 1, .int .i64 10, .string ⟨#[58]⟩, .int .i64 8, .int .i64 2, .int .i64 16]
/-- The two tables lie in their blocks. -/
structure Tabs (w : World) : Prop where
  fam : ∃ t fr, w.heap[0]? = some (.cells famCells t fr)
  sty : ∃ t fr, w.heap[1]? = some (.cells stCells t fr)
  max : ∃ m, w.cell? ⟨2, 0, none⟩ = some (.int .i64 m)
theorem lt_of_heap {w : World} {b : Nat} {o : Obj} (h : w.heap[b]? = some o) : b < w.heap.size := by
  by_cases e : b < w.heap.size
  · exact e
  · rw [Array.getElem?_eq_none (by simpa using e)] at h; cases h
theorem Tabs.below {w w' : World} (h : Tabs w) (hb : Below w.heap.size w w') : Tabs w' := by
  obtain ⟨⟨t, fr, h0⟩, ⟨t1, fr1, h1⟩, ⟨m, h3⟩⟩ := h
  exact ⟨⟨t, fr, (hb.block 0 (lt_of_heap h0)).trans h0⟩, ⟨t1, fr1, (hb.block 1 (lt_of_heap h1)).trans h1⟩, ⟨m, (hb.cell (p := ⟨2, 0, none⟩) (lt_of_cell h3)).trans h3⟩⟩
theorem Tabs.sizes {w : World} (h : Tabs w) : FamSizes w := by
  obtain ⟨⟨t, fr, h0⟩, _, _⟩ := h
  exact ⟨cell_of_row w 0 1 _ t fr h0, cell_of_row w 0 4 _ t fr h0, cell_of_row w 0 7 _ t fr h0, cell_of_row w 0 10 _ t fr h0, cell_of_row w 0 13 _ t fr h0, cell_of_row w 0 16 _ t fr h0⟩
theorem Tabs.rds {w : World} (h : Tabs w) : FamRds w := by
  obtain ⟨⟨t, fr, h0⟩, _, _⟩ := h
  exact ⟨cell_of_row w 0 5 _ t fr h0, cell_of_row w 0 8 _ t fr h0, cell_of_row w 0 11 _ t fr h0, cell_of_row w 0 14 _ t fr h0, cell_of_row w 0 17 _ t fr h0⟩
theorem nil_beq (l : List UInt8) : (([] : List UInt8) == l) = l.isEmpty := by cases l <;> rfl
/-- The family of a name; 0, if there is none. -/
def famOf (l : List UInt8) : Int := if ([] == l) = true then 0 else if ([118, 52] == l) = true then 1 else if ([118, 54] == l) = true then 2 else if ([108, 52] == l) = true then 3 else if ([118, 112, 110, 52] == l) = true then 4 else if ([118, 112, 110, 54] == l) = true then 5 else 0
/-- No name ahead of row k is the text. -/
def Nz (l : List UInt8) (k : Nat) : Prop := (1 ≤ k → ([] == l) = false) ∧ (2 ≤ k → ([118, 52] == l) = false) ∧ (3 ≤ k → ([118, 54] == l) = false) ∧ (4 ≤ k → ([108, 52] == l) = false) ∧ (5 ≤ k → ([118, 112, 110, 52] == l) = false) ∧ (6 ≤ k → ([118, 112, 110, 54] == l) = false)
theorem Nz.hit0 {l : List UInt8} (_z : Nz l 0) (h : ([] == l) = true) : (0 : Int) = famOf l := by
  unfold famOf
  simp [h]
theorem Nz.next0 {l : List UInt8} (_z : Nz l 0) (h : ([] == l) = false) : Nz l 1 := by
  unfold Nz at *
  simp at *
  simp [h]
theorem Nz.hit1 {l : List UInt8} (z : Nz l 1) (h : ([118, 52] == l) = true) : (1 : Int) = famOf l := by
  have z' := z
  unfold Nz at z'
  unfold famOf
  simp [z', h]
theorem Nz.next1 {l : List UInt8} (z : Nz l 1) (h : ([118, 52] == l) = false) : Nz l 2 := by
  unfold Nz at *
  simp at *
  simp [z, h]
theorem Nz.hit2 {l : List UInt8} (z : Nz l 2) (h : ([118, 54] == l) = true) : (2 : Int) = famOf l := by
  have z' := z
  unfold Nz at z'
  unfold famOf
  simp [z', h]
theorem Nz.next2 {l : List UInt8} (z : Nz l 2) (h : ([118, 54] == l) = false) : Nz l 3 := by
  unfold Nz at *
  simp at *
  simp [z, h]
theorem Nz.hit3 {l : List UInt8} (z : Nz l 3) (h : ([108, 52] == l) = true) : (3 : Int) = famOf l := by
  have z' := z
  unfold Nz at z'
  unfold famOf
  simp [z', h]
theorem Nz.next3 {l : List UInt8} (z : Nz l 3) (h : ([108, 52] == l) = false) : Nz l 4 := by
  unfold Nz at *
  simp at *
  simp [z, h]
theorem Nz.hit4 {l : List UInt8} (z : Nz l 4) (h : ([118, 112, 110, 52] == l) = true) : (4 : Int) = famOf l := by
  have z' := z
  unfold Nz at z'
  unfold famOf
  simp [z', h]
theorem Nz.next4 {l : List UInt8} (z : Nz l 4) (h : ([118, 112, 110, 52] == l) = false) : Nz l 5 := by
  unfold Nz at *
  simp at *
  simp [z, h]
theorem Nz.hit5 {l : List UInt8} (z : Nz l 5) (h : ([118, 112, 110, 54] == l) = true) : (5 : Int) = famOf l := by
  have z' := z
  unfold Nz at z'
  unfold famOf
  simp [z', h]
theorem Nz.next5 {l : List UInt8} (z : Nz l 5) (h : ([118, 112, 110, 54] == l) = false) : Nz l 6 := by
  unfold Nz at *
  simp at *
  simp [z, h]
theorem Nz.none {l : List UInt8} (z : Nz l 6) : (0 : Int) = famOf l := by
  unfold Nz at z
  unfold famOf
  simp at z
  simp [z]
theorem ix0 (w : World) : (Instr.index 97 (.agg famCells) (.int .i64 0)).run Tryd.prog w = .ok (.agg #[.string ⟨#[]⟩, .int .i64 0, .bool false]) w := by kernel_rfl
theorem ix1 (w : World) : (Instr.index 97 (.agg famCells) (.int .i64 1)).run Tryd.prog w = .ok (.agg #[.string ⟨#[118, 52]⟩, .int .i64 4, .bool false]) w := by kernel_rfl
theorem ix2 (w : World) : (Instr.index 97 (.agg famCells) (.int .i64 2)).run Tryd.prog w = .ok (.agg #[.string ⟨#[118, 54]⟩, .int .i64 16, .bool false]) w := by kernel_rfl
theorem ix3 (w : World) : (Instr.index 97 (.agg famCells) (.int .i64 3)).run Tryd.prog w = .ok (.agg #[.string ⟨#[108, 52]⟩, .int .i64 4, .bool false]) w := by kernel_rfl
theorem ix4 (w : World) : (Instr.index 97 (.agg famCells) (.int .i64 4)).run Tryd.prog w = .ok (.agg #[.string ⟨#[118, 112, 110, 52]⟩, .int .i64 4, .bool true]) w := by kernel_rfl
theorem ix5 (w : World) : (Instr.index 97 (.agg famCells) (.int .i64 5)).run Tryd.prog w = .ok (.agg #[.string ⟨#[118, 112, 110, 54]⟩, .int .i64 16, .bool true]) w := by kernel_rfl
theorem info50 : (Tryd.prog.info? 97).map (·.size) = some famCells.size := by kernel_rfl
end Go.Proofs.YtjliopclpjeieaaDoor
namespace Go.Proofs.YtjliopclpjeieaaDoor
open Go.RowKit
theorem msk_idem (l : List UInt8) (n : Int) : msk (msk l n) n = msk l n := by
  apply List.ext_getElem
  · simp [msk]
  · intro i h1 h2
    simp only [msk, List.getElem_mapIdx]
    apply UInt8.toNat_inj.1
    simp [UInt8.toNat_and, Nat.and_assoc]
theorem chk_cut (f r : Int) (l : List UInt8) (n : Int) (hz : szOf f ≠ 0) (hs : (l.length : Int) = szOf f) (h0 : 0 ≤ n) (h1 : n ≤ 8 * szOf f) (hr : r = 0 ∨ 4 ≤ f) : chk f r ⟨(msk l n).toArray⟩ n = 0 := by
  unfold chk
  have e : ((⟨(msk l n).toArray⟩ : ByteArray).size : Int) = szOf f := by
    show ((msk l n).toArray.size : Int) = szOf f
    rw [List.size_toArray, msk_length]; exact hs
  rw [if_pos ⟨hz, e, h0, h1, hr, by rw [List.toList_toArray]; exact msk_idem l n⟩]
end Go.Proofs.YtjliopclpjeieaaDoor
namespace Go.Proofs.YtjliopclpjeieaaDoor

theorem ord_neg (a b : Int) : ord b a = - ord a b := by unfold ord; repeat' split
                                                        all_goals omega
theorem ord_zero {a b : Int} : ord a b = 0 ↔ a = b := by
  unfold ord
  constructor
  · intro h; split at h
    · omega
    · split at h <;> omega
  · rintro rfl; simp
theorem ord_bd (a b : Int) : -1 ≤ ord a b ∧ ord a b ≤ 1 := by
  unfold ord; split
  · omega
  · split <;> omega
theorem ord_le {a b : Int} : ord a b ≤ 0 ↔ a ≤ b := by
  unfold ord
  constructor
  · intro h; split at h
    · omega
    · split at h <;> omega
  · intro h; split
    · omega
    · split <;> omega

theorem less_irrefl : ∀ l : List UInt8, Op.bytesLess l l = false
  | [] => rfl
  | a :: l => by simp [Op.bytesLess, less_irrefl l]
theorem less_asymm : ∀ l m : List UInt8, Op.bytesLess l m = true → Op.bytesLess m l = false
  | [], [], _ => rfl
  | [], _ :: _, _ => rfl
  | _ :: _, [], h => by simp [Op.bytesLess] at h
  | a :: l, b :: m, h => by
    simp only [Op.bytesLess, Bool.or_eq_true, Bool.and_eq_true, decide_eq_true_eq, beq_iff_eq] at h
    simp only [Op.bytesLess, Bool.or_eq_false_iff, Bool.and_eq_false_iff, decide_eq_false_iff_not, beq_eq_false_iff_ne]
    rcases h with h | ⟨rfl, h⟩
    · exact ⟨by rw [UInt8.lt_iff_toNat_lt] at *; omega, Or.inl (by intro e; subst e; rw [UInt8.lt_iff_toNat_lt] at h; omega)⟩
    · exact ⟨by rw [UInt8.lt_iff_toNat_lt]; omega, Or.inr (less_asymm l m h)⟩
theorem less_total : ∀ l m : List UInt8, Op.bytesLess l m = false → Op.bytesLess m l = false → l = m
  | [], [], _, _ => rfl
  | [], _ :: _, h, _ => by simp [Op.bytesLess] at h
  | _ :: _, [], _, h => by simp [Op.bytesLess] at h
  | a :: l, b :: m, h, k => by
    simp only [Op.bytesLess, Bool.or_eq_false_iff, Bool.and_eq_false_iff, decide_eq_false_iff_not, beq_eq_false_iff_ne] at h k
    rw [UInt8.lt_iff_toNat_lt] at h k
    have e : a = b := UInt8.toNat_inj.1 (by omega)
    subst e
    have h2 : Op.bytesLess l m = false := by rcases h.2 with h | h; exact absurd rfl h; exact h
    have k2 : Op.bytesLess m l = false := by rcases k.2 with k | k; exact absurd rfl k; exact k
    rw [less_total l m h2 k2]
theorem less_trans : ∀ l m n : List UInt8, Op.bytesLess l m = true → Op.bytesLess m n = true → Op.bytesLess l n = true
  | _, _, [], _, h => by simp [Op.bytesLess] at h
  | _, [], _ :: _, h, _ => by simp [Op.bytesLess] at h
  | [], _ :: _, _ :: _, _, _ => rfl
  | a :: l, b :: m, c :: n, h, k => by
    simp only [Op.bytesLess, Bool.or_eq_true, Bool.and_eq_true, decide_eq_true_eq, beq_iff_eq] at *
    rw [UInt8.lt_iff_toNat_lt] at *
    rcases h with h | ⟨rfl, h⟩
    · rcases k with k | ⟨rfl, k⟩
      · left; omega
      · left; exact h
    · rcases k with k | ⟨rfl, k⟩
      · left; exact k
      · right; exact ⟨rfl, less_trans l m n h k⟩
theorem ordS_neg (a b : List UInt8) : ordS b a = - ordS a b := by
  unfold ordS
  cases h1 : Op.bytesLess a b
  · cases h2 : Op.bytesLess b a
    · have := less_total a b h1 h2
      subst this
      simp
    · have : a ≠ b := by intro e; subst e; rw [less_irrefl] at h2; cases h2
      simp [this]
  · rw [less_asymm a b h1]
    have : b ≠ a := by intro e; subst e; rw [less_irrefl] at h1; cases h1
    simp [this]
theorem ordS_zero {a b : List UInt8} : ordS a b = 0 ↔ a = b := by
  unfold ordS
  constructor
  · intro h
    cases h1 : Op.bytesLess a b
    · rw [h1] at h; simp at h; exact h
    · rw [h1] at h; simp at h
  · rintro rfl; rw [less_irrefl]; simp
theorem ordS_bd (a b : List UInt8) : -1 ≤ ordS a b ∧ ordS a b ≤ 1 := by
  unfold ordS; split
  · omega
  · split <;> omega
theorem ordS_neg1 {a b : List UInt8} : ordS a b = -1 ↔ Op.bytesLess a b = true := by
  unfold ordS
  constructor
  · intro h; split at h
    · assumption
    · split at h <;> omega
  · intro h; rw [if_pos h]
/-- The order of prefixes is antisymmetric, and only the same stand together. -/
theorem pcmp_neg (fa ra : Int) (sa : ByteArray) (la fb rb : Int) (sb : ByteArray) (lb : Int) : pcmp fb rb sb lb fa ra sa la = - pcmp fa ra sa la fb rb sb lb := by
  unfold pcmp
  rw [ord_neg fa fb, ord_neg ra rb, ord_neg la lb, ordS_neg sa.toList sb.toList]
  generalize ord fa fb = x
  generalize ord ra rb = y
  generalize ord la lb = z
  generalize ordS sa.toList sb.toList = u
  repeat' split
  all_goals omega
theorem pcmp_self (fa ra : Int) (sa : ByteArray) (la : Int) : pcmp fa ra sa la fa ra sa la = 0 := by
  have := pcmp_neg fa ra sa la fa ra sa la
  omega
theorem pcmp_bd (fa ra : Int) (sa : ByteArray) (la fb rb : Int) (sb : ByteArray) (lb : Int) : -1 ≤ pcmp fa ra sa la fb rb sb lb ∧ pcmp fa ra sa la fb rb sb lb ≤ 1 := by
  have h1 := ord_bd fa fb
  have h2 := ord_bd ra rb
  have h3 := ord_bd la lb
  have h4 := ordS_bd sa.toList sb.toList
  unfold pcmp
  repeat' split
  all_goals omega
theorem pcmp_zero {fa ra : Int} {sa : ByteArray} {la fb rb : Int} {sb : ByteArray} {lb : Int} : pcmp fa ra sa la fb rb sb lb = 0 ↔ fa = fb ∧ ra = rb ∧ sa.toList = sb.toList ∧ la = lb := by
  have h1 := @ord_zero fa fb
  have h2 := @ord_zero ra rb
  have h3 := @ord_zero la lb
  have h4 := @ordS_zero sa.toList sb.toList
  unfold pcmp
  constructor
  · intro h
    split at h
    · omega
    · split at h
      · omega
      · split at h
        · omega
        · exact ⟨h1.1 (by omega), h2.1 (by omega), h4.1 (by omega), h3.1 (by omega)⟩
  · rintro ⟨a, b, c, d⟩
    rw [if_neg (by rw [h1.2 a]; decide), if_neg (by rw [h2.2 b]; decide), if_neg (by rw [h4.2 c]; decide), h3.2 d]
/-- Two orders put together keep what goes on and on. -/
theorem lex_trans {x1 x2 x3 y1 y2 y3 : Int} (T : x1 ≤ 0 → x2 ≤ 0 → x3 ≤ 0 ∧ (x3 = 0 → x1 = 0 ∧ x2 = 0)) (Z : x1 = 0 → x2 = 0 → x3 = 0) (U : y1 ≤ 0 → y2 ≤ 0 → y3 ≤ 0)
    (h : (if x1 ≠ 0 then x1 else y1) ≤ 0) (k : (if x2 ≠ 0 then x2 else y2) ≤ 0) : (if x3 ≠ 0 then x3 else y3) ≤ 0 := by
  by_cases a1 : x1 = 0
  · rw [if_neg (by omega)] at h
    by_cases a2 : x2 = 0
    · rw [if_neg (by omega)] at k
      have := Z a1 a2
      rw [if_neg (by omega)]
      exact U h k
    · rw [if_pos a2] at k
      have := T (by omega) k
      rw [if_pos (by omega)]; omega
  · rw [if_pos a1] at h
    by_cases a2 : x2 = 0
    · have := T h (by omega)
      rw [if_pos (by omega)]; omega
    · rw [if_pos a2] at k
      have := T h k
      rw [if_pos (by omega)]; omega
theorem ord_T (a b c : Int) : ord a b ≤ 0 → ord b c ≤ 0 → ord a c ≤ 0 ∧ (ord a c = 0 → ord a b = 0 ∧ ord b c = 0) := by
  rw [ord_le, ord_le, ord_le, ord_zero, ord_zero, ord_zero]
  omega
theorem ord_Z (a b c : Int) : ord a b = 0 → ord b c = 0 → ord a c = 0 := by
  rw [ord_zero, ord_zero, ord_zero]; omega
theorem ordS_T (a b c : List UInt8) : ordS a b ≤ 0 → ordS b c ≤ 0 → ordS a c ≤ 0 ∧ (ordS a c = 0 → ordS a b = 0 ∧ ordS b c = 0) := by
  intro p q
  have s1 := ordS_bd a b
  have s2 := ordS_bd b c
  by_cases p0 : ordS a b = 0
  · have e := ordS_zero.1 p0
    rw [← e] at q ⊢
    exact ⟨q, fun h => ⟨by rw [ordS_zero], h⟩⟩
  · by_cases q0 : ordS b c = 0
    · have e := ordS_zero.1 q0
      rw [← e]
      exact ⟨p, fun h => absurd h p0⟩
    · have := ordS_neg1.2 (less_trans _ _ _ (ordS_neg1.1 (show ordS a b = -1 by omega)) (ordS_neg1.1 (show ordS b c = -1 by omega)))
      exact ⟨by omega, fun h => by omega⟩
theorem ordS_Z (a b c : List UInt8) : ordS a b = 0 → ordS b c = 0 → ordS a c = 0 := by
  rw [ordS_zero, ordS_zero, ordS_zero]; rintro rfl rfl; rfl
theorem pcmp_trans (fa ra : Int) (sa : ByteArray) (la fb rb : Int) (sb : ByteArray) (lb fc rc : Int) (sc : ByteArray) (lc : Int)
    (h : pcmp fa ra sa la fb rb sb lb ≤ 0) (k : pcmp fb rb sb lb fc rc sc lc ≤ 0) : pcmp fa ra sa la fc rc sc lc ≤ 0 := by
  unfold pcmp at *
  exact lex_trans (ord_T fa fb fc) (ord_Z fa fb fc) (lex_trans (ord_T ra rb rc) (ord_Z ra rb rc) (lex_trans (ordS_T _ _ _) (ordS_Z _ _ _) (fun p q => (ord_T la lb lc p q).1))) h k
end Go.Proofs.YtjliopclpjeieaaDoor
namespace Go.Proofs.YtjliopclpjeieaaDoor
theorem mk_clamp (n : Int) : mk n = mk (min (max n 0) 8) := by
  unfold mk
  by_cases a : n ≤ 0
  · rw [if_pos a, if_pos (by omega)]
  · by_cases b : 8 ≤ n
    · rw [if_neg a, if_pos b, if_neg (by omega), if_pos (by omega)]
    · rw [show min (max n 0) 8 = n by omega]
theorem mk_and (n m : Int) : mk n &&& mk m = mk (min n m) := by
  rw [mk_clamp n, mk_clamp m, mk_clamp (min n m)]
  have h : ∀ a : Fin 9, ∀ b : Fin 9, mk (a.val : Int) &&& mk (b.val : Int) = mk (min (max (min (a.val : Int) (b.val : Int)) 0) 8) := by decide +kernel
  have h1 := h ⟨(min (max n 0) 8).toNat, by omega⟩ ⟨(min (max m 0) 8).toNat, by omega⟩
  simp only at h1
  rw [Int.toNat_of_nonneg (by omega), Int.toNat_of_nonneg (by omega)] at h1
  rw [h1]
  congr 1
  omega
theorem msk_msk (l : List UInt8) (n m : Int) : msk (msk l n) m = msk l (min n m) := by
  apply List.ext_getElem
  · simp [msk]
  · intro i h1 h2
    simp only [msk, List.getElem_mapIdx]
    rw [UInt8.and_assoc, mk_and]
    congr 2
    omega
/-- The bits behind a mask that lets them through. -/
theorem bit_mk : ∀ b : Fin 256, ∀ t : Fin 9, ∀ j : Fin 8, j.val < t.val → (b.val &&& (mk (t.val : Int)).toNat) / 2 ^ (7 - j.val) % 2 = b.val / 2 ^ (7 - j.val) % 2 := by decide +kernel
theorem bitAt_msk (l : List UInt8) (n : Int) (i : Nat) (h : (i : Int) < n) : bitAt (msk l n) i = bitAt l i := by
  unfold bitAt
  by_cases c : i / 8 < l.length
  · have c' : i / 8 < (msk l n).length := by rw [msk_length]; exact c
    rw [List.getD_eq_getElem?_getD, List.getD_eq_getElem?_getD, List.getElem?_eq_getElem c', List.getElem?_eq_getElem c]
    simp only [Option.getD_some, msk, List.getElem_mapIdx, UInt8.toNat_and]
    rw [mk_clamp]
    have := bit_mk ⟨l[i / 8].toNat, l[i / 8].toNat_lt⟩ ⟨(min (max (n - 8 * ((i / 8 : Nat) : Int)) 0) 8).toNat, by omega⟩ ⟨i % 8, by omega⟩ (by simp only; omega)
    simp only at this
    rw [Int.toNat_of_nonneg (by omega)] at this
    exact this
  · rw [List.getD_eq_getElem?_getD, List.getD_eq_getElem?_getD, List.getElem?_eq_none (by rw [msk_length]; omega), List.getElem?_eq_none (by omega)]
theorem not_less_of_le : ∀ x y : List UInt8, x.length = y.length → (∀ i (h : i < x.length) (k : i < y.length), x[i].toNat ≤ y[i].toNat) → Op.bytesLess y x = false
  | [], [], _, _ => rfl
  | [], _ :: _, h, _ => by simp at h
  | _ :: _, [], h, _ => by simp at h
  | a :: x, b :: y, h, k => by
    have k0 := k 0 (by simp) (by simp)
    simp only [List.getElem_cons_zero] at k0
    have ih := not_less_of_le x y (by simpa using h) (fun i p q => by have := k (i + 1) (by simp; omega) (by simp; omega); simpa using this)
    simp only [Op.bytesLess, Bool.or_eq_false_iff, decide_eq_false_iff_not, Bool.and_eq_false_iff]
    exact ⟨by rw [UInt8.lt_iff_toNat_lt]; omega, Or.inr ih⟩
theorem ordS_msk (l : List UInt8) (n : Int) : ordS (msk l n) l ≤ 0 := by
  have h : Op.bytesLess l (msk l n) = false := not_less_of_le (msk l n) l (msk_length l n) (fun i p q => by
    simp only [msk, List.getElem_mapIdx, UInt8.toNat_and]; exact Nat.and_le_left)
  unfold ordS
  split
  · omega
  · have : ¬ (Op.bytesLess (msk l n) l = true) := by assumption
    have e := less_total (msk l n) l (by simpa using this) h
    rw [if_pos (by rw [e]; simp)]
    exact Int.le_refl _

section
variable {fa ra : Int} {sa : ByteArray} {la fb rb : Int} {sb : ByteArray} {lb k : Int}
theorem mk_data (l : List UInt8) : (⟨l.toArray⟩ : ByteArray).data.toList = l := rfl
theorem bit_cut (i : Nat) (h : (i : Int) < k) : bitI ⟨(msk sb.data.toList k).toArray⟩ i = bitI sb i := by
  unfold bitI
  rw [if_pos (by omega), if_pos (by omega), Int.toNat_natCast, mk_data, bitAt_msk _ _ _ h]
end
end Go.Proofs.YtjliopclpjeieaaDoor
namespace Go.Proofs.YtjliopclpjeieaaDoor
theorem bit_mk_out : ∀ b : Fin 256, ∀ t : Fin 9, ∀ j : Fin 8, t.val ≤ j.val → (b.val &&& (mk (t.val : Int)).toNat) / 2 ^ (7 - j.val) % 2 = 0 := by decide +kernel
theorem bitAt_out (l : List UInt8) (i : Nat) (h : 8 * l.length ≤ i) : bitAt l i = 0 := by
  unfold bitAt
  rw [List.getD_eq_getElem?_getD, List.getElem?_eq_none (by omega)]
  simp
theorem bitAt_msk_out (l : List UInt8) (n : Int) (i : Nat) (h : n ≤ (i : Int)) : bitAt (msk l n) i = 0 := by
  by_cases c : i / 8 < l.length
  · unfold bitAt
    have c' : i / 8 < (msk l n).length := by rw [msk_length]; exact c
    rw [List.getD_eq_getElem?_getD, List.getElem?_eq_getElem c']
    simp only [Option.getD_some, msk, List.getElem_mapIdx, UInt8.toNat_and]
    rw [mk_clamp]
    have := bit_mk_out ⟨l[i / 8].toNat, l[i / 8].toNat_lt⟩ ⟨(min (max (n - 8 * ((i / 8 : Nat) : Int)) 0) 8).toNat, by omega⟩ ⟨i % 8, by omega⟩ (by simp only; omega)
    simp only at this
    rw [Int.toNat_of_nonneg (by omega)] at this
    exact this
  · exact bitAt_out _ _ (by rw [msk_length]; omega)
theorem byte_ext (x y : Nat) (hx : x < 256) (hy : y < 256) (h : ∀ j, j < 8 → x / 2 ^ (7 - j) % 2 = y / 2 ^ (7 - j) % 2) : x = y := by
  have h0 := h 0 (by omega)
  have h1 := h 1 (by omega)
  have h2 := h 2 (by omega)
  have h3 := h 3 (by omega)
  have h4 := h 4 (by omega)
  have h5 := h 5 (by omega)
  have h6 := h 6 (by omega)
  have h7 := h 7 (by omega)
  simp only [Nat.reduceSub, Nat.reducePow] at h0 h1 h2 h3 h4 h5 h6 h7
  omega
theorem bits_ext (a b : List UInt8) (hl : a.length = b.length) (h : ∀ i, i < 8 * a.length → bitAt a i = bitAt b i) : a = b := by
  apply List.ext_getElem hl
  intro i h1 h2
  apply UInt8.toNat_inj.1
  refine byte_ext _ _ a[i].toNat_lt b[i].toNat_lt fun j hj => ?_
  have := h (8 * i + j) (by omega)
  unfold bitAt at this
  rw [show (8 * i + j) / 8 = i from by omega, show (8 * i + j) % 8 = j from by omega, List.getD_eq_getElem?_getD, List.getD_eq_getElem?_getD, List.getElem?_eq_getElem h1, List.getElem?_eq_getElem h2] at this
  exact this
theorem msk_of_bits (l : List UInt8) (n : Int) (h : ∀ i : Nat, n ≤ (i : Int) → i < 8 * l.length → bitAt l i = 0) : msk l n = l := by
  refine bits_ext _ _ (msk_length l n) fun i hi => ?_
  rw [msk_length] at hi
  by_cases c : (i : Int) < n
  · exact bitAt_msk l n i c
  · rw [bitAt_msk_out l n i (by omega), h i (by omega) hi]
theorem bits_of_msk (l : List UInt8) (n : Int) (h : msk l n = l) (i : Nat) (hi : n ≤ (i : Int)) : bitAt l i = 0 := by
  rw [← h]; exact bitAt_msk_out l n i hi
theorem msk_eq_of_bits (a b : List UInt8) (n : Int) (hl : a.length = b.length) (ha : msk a n = a) (h : ∀ i : Nat, (i : Int) < n → bitAt a i = bitAt b i) : msk b n = a := by
  refine bits_ext _ _ (by rw [msk_length, hl]) fun i _ => ?_
  by_cases c : (i : Int) < n
  · rw [bitAt_msk b n i c, h i c]
  · rw [bitAt_msk_out b n i (by omega), bits_of_msk a n ha i (by omega)]
theorem bits_of_eq (a b : List UInt8) (n : Int) (h : msk b n = a) (i : Nat) (hi : (i : Int) < n) : bitAt a i = bitAt b i := by
  rw [← h]; exact bitAt_msk b n i hi
theorem bitI_nat (s : ByteArray) (i : Nat) : bitI s i = (bitAt s.data.toList i : Int) := by
  unfold bitI
  rw [if_pos (by omega), Int.toNat_natCast]
/-- The first byte that tells two texts apart tells their order. -/
theorem ordS_diff : ∀ (a b : List UInt8) (k : Nat) (ha : k < a.length) (hb : k < b.length), (∀ j (h1 : j < a.length) (h2 : j < b.length), j < k → a[j] = b[j]) → a[k] ≠ b[k] → ordS a b = ord (a[k].toNat : Int) (b[k].toNat : Int)
  | [], _, _, ha, _, _, _ => by simp at ha
  | _ :: _, [], _, _, hb, _, _ => by simp at hb
  | x :: a, y :: b, 0, _, _, _, hn => by
    simp only [List.getElem_cons_zero] at hn ⊢
    have hne : x.toNat ≠ y.toNat := fun e => hn (UInt8.toNat_inj.1 e)
    unfold ordS ord
    by_cases c : x.toNat < y.toNat
    · have : Op.bytesLess (x :: a) (y :: b) = true := by simp [Op.bytesLess, UInt8.lt_iff_toNat_lt, c]
      rw [if_pos this, if_pos (by omega)]
    · have h1 : Op.bytesLess (x :: a) (y :: b) = false := by simp [Op.bytesLess, UInt8.lt_iff_toNat_lt, c, hn]
      have h2 : ((x :: a) == (y :: b)) = false := by simp [hn]
      rw [h1, h2, if_neg (by simp), if_neg (by simp), if_neg (by omega), if_pos (by omega)]
  | x :: a, y :: b, k + 1, ha, hb, h, hn => by
    have e : x = y := h 0 (by simp) (by simp) (by omega)
    subst e
    have ih := ordS_diff a b k (by simpa using ha) (by simpa using hb) (fun j h1 h2 hj => by have := h (j + 1) (by simp; omega) (by simp; omega) (by omega); simpa using this) (by simpa using hn)
    simp only [List.getElem_cons_succ]
    rw [← ih]
    unfold ordS
    have e1 : Op.bytesLess (x :: a) (x :: b) = Op.bytesLess a b := by simp [Op.bytesLess]
    have e2 : ((x :: a) == (x :: b)) = (a == b) := by simp
    rw [e1, e2]
theorem ord_succ (x y : Int) : ord (x + 1) (y + 1) = ord x y := by
  have h1 : (x + 1 < y + 1) ↔ x < y := by omega
  have h2 : (y + 1 < x + 1) ↔ y < x := by omega
  unfold ord
  simp only [h1, h2]
theorem ordS_same : ∀ (a b : List UInt8), (∀ j (h1 : j < a.length) (h2 : j < b.length), a[j] = b[j]) → ordS a b = ord (a.length : Int) (b.length : Int)
  | [], [], _ => by decide
  | [], _ :: _, _ => by
    unfold ordS ord
    rw [if_pos (by simp [Op.bytesLess]), if_pos (by simp only [List.length_nil, List.length_cons]; omega)]
  | _ :: _, [], _ => by
    unfold ordS ord
    rw [if_neg (by simp [Op.bytesLess]), if_neg (by simp), if_neg (by simp only [List.length_nil, List.length_cons]; omega), if_pos (by simp only [List.length_nil, List.length_cons]; omega)]
  | x :: a, y :: b, h => by
    have e : x = y := h 0 (by simp) (by simp)
    subst e
    have ih := ordS_same a b (fun j h1 h2 => by have := h (j + 1) (by simp; omega) (by simp; omega); simpa using this)
    have e0 : ord ((x :: a).length : Int) ((x :: b).length : Int) = ord (a.length : Int) (b.length : Int) := by
      rw [List.length_cons, List.length_cons, Int.natCast_succ, Int.natCast_succ]
      exact ord_succ _ _
    rw [e0, ← ih]
    unfold ordS
    have e1 : Op.bytesLess (x :: a) (x :: b) = Op.bytesLess a b := by simp [Op.bytesLess]
    have e2 : ((x :: a) == (x :: b)) = (a == b) := by simp
    rw [e1, e2]
end Go.Proofs.YtjliopclpjeieaaDoor
namespace Go.Proofs.YtjliopclpjeieaaDoor
open Go.RowKit
theorem ret_bool {a b : Bool} (h : a = b) : Ending.returned (.bool a) = .returned (.bool b) := by rw [h]
theorem apart_any (f : Int) (w : World) (h : 1 ≤ f) (h5 : f ≤ 5) : Calls Tryd.prog 70 #[.int .i64 f] w fun e w' => e = .returned (.bool (decide (4 ≤ f))) ∧ w' = w := by
  have hf : f = 1 ∨ f = 2 ∨ f = 3 ∨ f = 4 ∨ f = 5 := by omega
  clear h h5
  rcases hf with rfl | rfl | rfl | rfl | rfl
  all_goals
    go_enter Tryd.func70, Tryd.ntmps70
    go_wp2
    go_ret
    exact ⟨rfl, rfl⟩
/-- May it be, by the reference's words. -/
theorem chk_iff (f r : Int) (s : ByteArray) (l : Int) : chk f r s l = 0 ↔ szOf f ≠ 0 ∧ (s.size : Int) = szOf f ∧ 0 ≤ l ∧ l ≤ 8 * szOf f ∧ (r = 0 ∨ 4 ≤ f) ∧ ∀ i : Nat, l ≤ (i : Int) → (i : Int) < 8 * szOf f → bitI s i = 0 := by
  constructor
  · intro h
    obtain ⟨h1, h2, h3, h4, h5, h6⟩ := chk_zero h
    exact ⟨h1, h2, h3, h4, h5, fun i hi _ => by rw [bitI_nat, bits_of_msk _ _ h6 i hi]; rfl⟩
  · rintro ⟨h1, h2, h3, h4, h5, h6⟩
    unfold chk
    rw [if_pos ⟨h1, h2, h3, h4, h5, msk_of_bits _ _ fun i hi hl => by
      have := h6 i hi (by have e : s.data.toList.length = s.size := by simp
                          rw [e] at hl; omega)
      rw [bitI_nat] at this; omega⟩]
end Go.Proofs.YtjliopclpjeieaaDoor
namespace Go.Proofs.YtjliopclpjeieaaDoor
open Go.RowKit
set_option maxRecDepth 100000 in
set_option maxHeartbeats 1600000 in
theorem may_any (f r : Int) (s : ByteArray) (l : Int) (w : World) (hs : s.size ≤ maxLen) :
    Calls Tryd.prog 66 #[.agg #[.int .i64 f, .int .u64 r, .string s, .int .i64 l]] w fun e w' => e = .returned (.bool (decide (chk f r s l = 0))) ∧ Below w.heap.size w w' := by
  have hzb := szOf_bd f
  have hzp := szOf_pos f
  generalize hz : szOf f = z at *
  have HZ : Hid (szOf f = z) := hz
  clear hz
  by_cases h1 : z = 0
  · subst h1
    clear hzp
    go_enter Tryd.func66, Tryd.ntmps66
    go_wp2_with (first | (go_at_call 49; refine (refsize_any f _).mono ?_; rintro e w' ⟨rfl, rfl⟩; rw [HZ.out]))
    go_ret
    exact ⟨ret_bool (decide_eq_false fun h => absurd (chk_zero h) (by rw [HZ.out]; omega)).symm, (Below.refl _ _).alloc (Nat.le_refl _) _⟩
  · have hz4 : 4 ≤ z ∧ (1 ≤ f ∧ f ≤ 5) := by have := hzp h1; omega
    have n1 : (z == 0) = false := by simpa using h1
    clear hzp
    by_cases h2 : (s.size : Int) = z
    · by_cases h3 : l < 0
      · go_enter Tryd.func66, Tryd.ntmps66
        go_wp2_with (first | (go_at_call 49; refine (refsize_any f _).mono ?_; rintro e w' ⟨rfl, rfl⟩; rw [HZ.out]))
        go_ret
        exact ⟨ret_bool (decide_eq_false fun h => absurd (chk_zero h) (by rw [HZ.out]; omega)).symm, (Below.refl _ _).alloc (Nat.le_refl _) _⟩
      · by_cases h4 : 8 * z < l
        · go_enter Tryd.func66, Tryd.ntmps66
          go_wp2_with (first | (go_at_call 49; refine (refsize_any f _).mono ?_; rintro e w' ⟨rfl, rfl⟩; rw [HZ.out]))
          go_ret
          exact ⟨ret_bool (decide_eq_false fun h => absurd (chk_zero h) (by rw [HZ.out]; omega)).symm, (Below.refl _ _).alloc (Nat.le_refl _) _⟩
        · by_cases h5 : r = 0
          · subst h5
            go_enter Tryd.func66, Tryd.ntmps66
            go_wp2_with (first | (go_at_call 49; refine (refsize_any f _).mono ?_; rintro e w' ⟨rfl, rfl⟩; rw [HZ.out]))
            go_loopw [4] (fun i wr => ∃ k : Int, (l ≤ k ∧ k ≤ 8 * z) ∧ i = .int .i64 k ∧ (∀ j : Nat, l ≤ (j : Int) → (j : Int) < k → bitI s j = 0) ∧ wr = w.alloc (.cells #[.int .i64 f, .int .u64 0, .string s, .int .i64 l] 43)) (fun i _ => (8 * z - intOf i).toNat)
            case atStart => exact ⟨l, by omega, rfl, fun j h1 h2 => by omega, rfl⟩
            case round =>
              obtain ⟨k, hk, rfl, hall, rfl⟩ := hrel
              have HA : Hid (∀ j : Nat, l ≤ (j : Int) → (j : Int) < k → bitI s j = 0) := hall
              clear hall
              by_cases hlt : k < 8 * z
              · obtain ⟨i, rfl⟩ := Int.eq_ofNat_of_zero_le (show 0 ≤ k by omega)
                by_cases hb : bitI s i = 0
                · have HB : Hid (bitI s i = 0) := hb
                  have C := fun w => refbit_any s i w hs (by omega) (by omega)
                  simp only [hb] at C
                  clear hb
                  have K : Hid (_ : Prop) := C
                  clear C
                  go_wp2_with (go_at_call 84; refine (K.out _).mono ?_; rintro e w' ⟨rfl, rfl⟩)
                  go_roundw
                  case rel => exact ⟨i + 1, by omega, by go_num, fun j h1 h2 => by
                    by_cases e : j = i
                    · subst e; exact HB.out
                    · exact HA.out j h1 (by omega), by trivial⟩
                  case measure => simp [intOf]; omega
                · have HB : Hid (¬ bitI s i = 0) := hb
                  have C := fun w => refbit_any s i w hs (by omega) (by omega)
                  have hb' : (bitI s i == 0) = false := by simpa using hb
                  generalize hq : bitI s i = q at *
                  clear hb
                  have HQ : Hid (bitI s i = q) := hq
                  clear hq
                  have K : Hid (_ : Prop) := C
                  clear C
                  go_wp2_with (go_at_call 84; refine (K.out _).mono ?_; rintro e w' ⟨rfl, rfl⟩)
                  go_ret
                  refine ⟨ret_bool (decide_eq_false fun h => ?_).symm, (Below.refl _ _).alloc (Nat.le_refl _) _⟩
                  have := ((chk_iff f 0 s l).1 h).2.2.2.2.2 i (by omega) (by rw [HZ.out]; omega)
                  rw [HQ.out] at this
                  exact HB.out this
              · go_wp2
                go_ret
                refine ⟨ret_bool (decide_eq_true ((chk_iff f 0 s l).2 ⟨by rw [HZ.out]; omega, by rw [HZ.out]; omega, by omega, by rw [HZ.out]; omega, Or.inl rfl, fun j h1 h2 => HA.out j h1 (by rw [HZ.out] at h2; omega)⟩)).symm, (Below.refl _ _).alloc (Nat.le_refl _) _⟩
          · have n5 : (r != 0) = true := by simpa using h5
            have HR : Hid (¬ r = 0) := h5
            by_cases h6 : 4 ≤ f
            · have d6 : decide (4 ≤ f) = true := decide_eq_true h6
              have CA := fun w => apart_any f w (by omega) (by omega)
              simp only [d6] at CA
              have KA : Hid (_ : Prop) := CA
              clear CA d6
              go_enter Tryd.func66, Tryd.ntmps66
              go_wp2_with (first | (go_at_call 49; refine (refsize_any f _).mono ?_; rintro e w' ⟨rfl, rfl⟩; rw [HZ.out]) | (go_at_call 70; refine (KA.out _).mono ?_; rintro e w' ⟨rfl, rfl⟩))
              go_loopw [4] (fun i wr => ∃ k : Int, (l ≤ k ∧ k ≤ 8 * z) ∧ i = .int .i64 k ∧ (∀ j : Nat, l ≤ (j : Int) → (j : Int) < k → bitI s j = 0) ∧ wr = w.alloc (.cells #[.int .i64 f, .int .u64 r, .string s, .int .i64 l] 43)) (fun i _ => (8 * z - intOf i).toNat)
              case atStart => exact ⟨l, by omega, rfl, fun j h1 h2 => by omega, rfl⟩
              case round =>
                obtain ⟨k, hk, rfl, hall, rfl⟩ := hrel
                have HA : Hid (∀ j : Nat, l ≤ (j : Int) → (j : Int) < k → bitI s j = 0) := hall
                clear hall
                by_cases hlt : k < 8 * z
                · obtain ⟨i, rfl⟩ := Int.eq_ofNat_of_zero_le (show 0 ≤ k by omega)
                  by_cases hb : bitI s i = 0
                  · have HB : Hid (bitI s i = 0) := hb
                    have C := fun w => refbit_any s i w hs (by omega) (by omega)
                    simp only [hb] at C
                    clear hb
                    have K : Hid (_ : Prop) := C
                    clear C
                    go_wp2_with (go_at_call 84; refine (K.out _).mono ?_; rintro e w' ⟨rfl, rfl⟩)
                    go_roundw
                    case rel => exact ⟨i + 1, by omega, by go_num, fun j h1 h2 => by
                      by_cases e : j = i
                      · subst e; exact HB.out
                      · exact HA.out j h1 (by omega), by trivial⟩
                    case measure => simp [intOf]; omega
                  · have HB : Hid (¬ bitI s i = 0) := hb
                    have C := fun w => refbit_any s i w hs (by omega) (by omega)
                    have hb' : (bitI s i == 0) = false := by simpa using hb
                    generalize hq : bitI s i = q at *
                    clear hb
                    have HQ : Hid (bitI s i = q) := hq
                    clear hq
                    have K : Hid (_ : Prop) := C
                    clear C
                    go_wp2_with (go_at_call 84; refine (K.out _).mono ?_; rintro e w' ⟨rfl, rfl⟩)
                    go_ret
                    refine ⟨ret_bool (decide_eq_false fun h => ?_).symm, (Below.refl _ _).alloc (Nat.le_refl _) _⟩
                    have := ((chk_iff f r s l).1 h).2.2.2.2.2 i (by omega) (by rw [HZ.out]; omega)
                    rw [HQ.out] at this
                    exact HB.out this
                · go_wp2
                  go_ret
                  refine ⟨ret_bool (decide_eq_true ((chk_iff f r s l).2 ⟨by rw [HZ.out]; omega, by rw [HZ.out]; omega, by omega, by rw [HZ.out]; omega, Or.inr h6, fun j h1 h2 => HA.out j h1 (by rw [HZ.out] at h2; omega)⟩)).symm, (Below.refl _ _).alloc (Nat.le_refl _) _⟩
            · have d6 : decide (4 ≤ f) = false := decide_eq_false h6
              have CA := fun w => apart_any f w (by omega) (by omega)
              simp only [d6] at CA
              have KA : Hid (_ : Prop) := CA
              clear CA d6
              go_enter Tryd.func66, Tryd.ntmps66
              go_wp2_with (first | (go_at_call 49; refine (refsize_any f _).mono ?_; rintro e w' ⟨rfl, rfl⟩; rw [HZ.out]) | (go_at_call 70; refine (KA.out _).mono ?_; rintro e w' ⟨rfl, rfl⟩))
              go_ret
              exact ⟨ret_bool (decide_eq_false fun h => by have := (chk_zero h).2.2.2.2.1; rcases this with x | x; exact HR.out x; omega).symm, (Below.refl _ _).alloc (Nat.le_refl _) _⟩
    · have n2 : ((s.size : Int) == z) = false := by simpa using h2
      go_enter Tryd.func66, Tryd.ntmps66
      go_wp2_with (first | (go_at_call 49; refine (refsize_any f _).mono ?_; rintro e w' ⟨rfl, rfl⟩; rw [HZ.out]))
      go_ret
      exact ⟨ret_bool (decide_eq_false fun h => absurd (chk_zero h) (by rw [HZ.out]; omega)).symm, (Below.refl _ _).alloc (Nat.le_refl _) _⟩
end Go.Proofs.YtjliopclpjeieaaDoor
namespace Go.Proofs.YtjliopclpjeieaaDoor
open Go.RowKit
theorem below_drewN {B : Nat} {a w : World} (h : Below B a w) (n : Nat) : Below B a (w.drewN n) := ⟨h.os, h.tape, h.output, h.size, h.block⟩
theorem PfxAt.drewN {w : World} {b : Nat} {f r : Int} {s : ByteArray} {l : Int} (h : PfxAt w b f r s l) (n : Nat) : PfxAt (w.drewN n) b f r s l := ⟨h.c0, h.c1, h.c2, h.c3, h.f0, h.f1, h.f2, h.f3⟩
end Go.Proofs.YtjliopclpjeieaaDoor
