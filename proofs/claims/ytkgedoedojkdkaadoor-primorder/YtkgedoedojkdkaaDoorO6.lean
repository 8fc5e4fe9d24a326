/-
  Three calls of 'of' and three new variables in one statement, in whatever order.
-/
import Derived.Test.YtkgedoedojkdkaaDoorO5
namespace Go.Proofs.YtkgedoedojkdkaaDoor
open Go.RowKit
theorem ptr_ne {b c : Nat} (h : b ≠ c) : (Value.pointer (some ⟨b, 0, none⟩)) ≠ .pointer (some ⟨c, 0, none⟩) := by
  intro x
  injection x with x
  injection x with x
  injection x with x
  exact h x
/-- What must have been done ahead of operation i. -/
def cond3 (i : Nat) (l0 l1 l2 l3 l4 l5 l6 l7 l8 l9 l10 l11 : Bool) : Bool := match i with
  | 0 => !l0
  | 1 => l0 && !l1
  | 2 => !l2
  | 3 => l2 && !l3
  | 4 => !l4
  | 5 => l4 && !l5
  | 6 => !l6
  | 7 => !l7
  | 8 => !l8
  | 9 => l1 && l6 && !l9
  | 10 => l3 && l7 && !l10
  | 11 => l5 && l8 && !l11
  | _ => false
/-- All slots but the nine are as they were. -/
structure FrB (a0 a : Act) : Prop where
  d : a.defers = a0.defers
  z : a.tmps.size = a0.tmps.size
  k : ∀ i, i ≠ 13 → i ≠ 14 → i ≠ 15 → i ≠ 16 → i ≠ 17 → i ≠ 18 → i ≠ 7 → i ≠ 8 → i ≠ 9 → a.tmps.getD i undef = a0.tmps.getD i undef
theorem FrB.put {a0 a : Act} (h : FrB a0 a) (d : Nat) (v : Value) (hd : d = 13 ∨ d = 14 ∨ d = 15 ∨ d = 16 ∨ d = 17 ∨ d = 18 ∨ d = 7 ∨ d = 8 ∨ d = 9) : FrB a0 (a.put (some d) v) := by
  refine ⟨h.d, by simp [Act.put, h.z], fun i h0 h1 h2 h3 h4 h5 h6 h7 h8 => ?_⟩
  rw [getD_put, if_neg (by omega)]
  exact h.k i h0 h1 h2 h3 h4 h5 h6 h7 h8
theorem FrB.form {a0 a : Act} (h : FrB a0 a) (hz : 18 < a0.tmps.size) {x13 x14 x15 x16 x17 x18 x7 x8 x9 : Value} (q13 : a.tmps.getD 13 undef = x13) (q14 : a.tmps.getD 14 undef = x14) (q15 : a.tmps.getD 15 undef = x15) (q16 : a.tmps.getD 16 undef = x16) (q17 : a.tmps.getD 17 undef = x17) (q18 : a.tmps.getD 18 undef = x18) (q7 : a.tmps.getD 7 undef = x7) (q8 : a.tmps.getD 8 undef = x8) (q9 : a.tmps.getD 9 undef = x9) :
    a = (((((((((a0.put (some 13) x13).put (some 14) x14).put (some 15) x15).put (some 16) x16).put (some 17) x17).put (some 18) x18).put (some 7) x7).put (some 8) x8).put (some 9) x9) := by
  have hs : ∀ (b : Act) (d : Nat) (v : Value), (b.put (some d) v).tmps.size = b.tmps.size := fun b d v => by simp [Act.put]
  have hd : ∀ (b : Act) (d : Nat) (v : Value), (b.put (some d) v).defers = b.defers := fun b d v => rfl
  have hg := getD_put
  generalize hp : Act.put = put at *
  refine Act.ext' (by simp only [hd]; exact h.d) (by simp only [hs]; exact h.z) fun i => ?_
  simp only [hg, hs]
  by_cases e9 : i = 9
  · rw [if_pos ⟨e9, by omega⟩, e9]; exact q9
  rw [if_neg (fun x => e9 x.1)]
  by_cases e8 : i = 8
  · rw [if_pos ⟨e8, by omega⟩, e8]; exact q8
  rw [if_neg (fun x => e8 x.1)]
  by_cases e7 : i = 7
  · rw [if_pos ⟨e7, by omega⟩, e7]; exact q7
  rw [if_neg (fun x => e7 x.1)]
  by_cases e18 : i = 18
  · rw [if_pos ⟨e18, by omega⟩, e18]; exact q18
  rw [if_neg (fun x => e18 x.1)]
  by_cases e17 : i = 17
  · rw [if_pos ⟨e17, by omega⟩, e17]; exact q17
  rw [if_neg (fun x => e17 x.1)]
  by_cases e16 : i = 16
  · rw [if_pos ⟨e16, by omega⟩, e16]; exact q16
  rw [if_neg (fun x => e16 x.1)]
  by_cases e15 : i = 15
  · rw [if_pos ⟨e15, by omega⟩, e15]; exact q15
  rw [if_neg (fun x => e15 x.1)]
  by_cases e14 : i = 14
  · rw [if_pos ⟨e14, by omega⟩, e14]; exact q14
  rw [if_neg (fun x => e14 x.1)]
  by_cases e13 : i = 13
  · rw [if_pos ⟨e13, by omega⟩, e13]; exact q13
  rw [if_neg (fun x => e13 x.1)]
  exact h.k i e13 e14 e15 e16 e17 e18 e7 e8 e9
/-- What holds of what has been done. -/
def Inv3 (S : World → Prop) (base : Nat) (X Y Z : Array Value) (a0 : Act) (l0 l1 l2 l3 l4 l5 l6 l7 l8 l9 l10 l11 : Bool) (a : Act) (w : World) : Prop :=
  FrB a0 a ∧ Held S w ∧ (l0 = true → a.tmps.getD 13 undef = .agg X) ∧ (l1 = true → Good (a.tmps.getD 14 undef)) ∧ (l2 = true → a.tmps.getD 15 undef = .agg Y) ∧ (l3 = true → Good (a.tmps.getD 16 undef)) ∧ (l4 = true → a.tmps.getD 17 undef = .agg Z) ∧ (l5 = true → Good (a.tmps.getD 18 undef)) ∧ (l6 = true → ∃ b, VarAt w base (a.tmps.getD 7 undef) (a.tmps.getD 14 undef) l9 b) ∧ (l7 = true → ∃ b, VarAt w base (a.tmps.getD 8 undef) (a.tmps.getD 16 undef) l10 b) ∧ (l8 = true → ∃ b, VarAt w base (a.tmps.getD 9 undef) (a.tmps.getD 18 undef) l11 b) ∧ (l6 = true → l7 = true → a.tmps.getD 7 undef ≠ a.tmps.getD 8 undef) ∧ (l6 = true → l8 = true → a.tmps.getD 7 undef ≠ a.tmps.getD 9 undef) ∧ (l7 = true → l8 = true → a.tmps.getD 8 undef ≠ a.tmps.getD 9 undef) ∧ (l9 = true → l1 = true ∧ l6 = true) ∧ (l10 = true → l3 = true ∧ l7 = true) ∧ (l11 = true → l5 = true ∧ l8 = true)
section
variable {S : World → Prop} {base : Nat} {X Y Z : Array Value} {a0 a : Act} {w w' : World} {l0 l1 l2 l3 l4 l5 l6 l7 l8 l9 l10 l11 : Bool}
theorem inv3_load0 (h : Inv3 S base X Y Z a0 l0 l1 l2 l3 l4 l5 l6 l7 l8 l9 l10 l11 a w) (hz : 18 < a0.tmps.size) : Inv3 S base X Y Z a0 true l1 l2 l3 l4 l5 l6 l7 l8 l9 l10 l11 (a.put (some 13) (.agg X)) w := by
  have hs := h.1.z
  have G : ∀ i, i ≠ 13 → (a.put (some 13) (.agg X)).tmps.getD i undef = a.tmps.getD i undef := fun i x => by rw [getD_put, if_neg (fun y => x y.1)]
  have G0 : (a.put (some 13) (.agg X)).tmps.getD 13 undef = (.agg X) := by rw [getD_put, if_pos ⟨rfl, by omega⟩]
  obtain ⟨hF, hS, i0, i1, i2, i3, i4, i5, v0, v1, v2, n01, n02, n12, s0, s1, s2⟩ := h
  exact ⟨hF.put 13 _ (by omega), hS, fun _ => by rw [G0],
    fun e => by rw [G 14 (by decide)]; exact i1 e,
    fun e => by rw [G 15 (by decide)]; exact i2 e,
    fun e => by rw [G 16 (by decide)]; exact i3 e,
    fun e => by rw [G 17 (by decide)]; exact i4 e,
    fun e => by rw [G 18 (by decide)]; exact i5 e,
    fun e => by rw [G 7 (by decide), G 14 (by decide)]; exact v0 e,
    fun e => by rw [G 8 (by decide), G 16 (by decide)]; exact v1 e,
    fun e => by rw [G 9 (by decide), G 18 (by decide)]; exact v2 e,
    fun e e' => by rw [G 7 (by decide), G 8 (by decide)]; exact n01 e e',
    fun e e' => by rw [G 7 (by decide), G 9 (by decide)]; exact n02 e e',
    fun e e' => by rw [G 8 (by decide), G 9 (by decide)]; exact n12 e e',
    s0,
    s1,
    s2⟩
theorem inv3_call0 (h : Inv3 S base X Y Z a0 l0 l1 l2 l3 l4 l5 l6 l7 l8 l9 l10 l11 a w) (hz : 18 < a0.tmps.size) (hl : l1 = false) (hb : Below w.heap.size w w') (hS' : Held S w') {v : Value} (hv : Good v) : Inv3 S base X Y Z a0 l0 true l2 l3 l4 l5 l6 l7 l8 l9 l10 l11 (a.put (some 14) v) w' := by
  have hs := h.1.z
  have G : ∀ i, i ≠ 14 → (a.put (some 14) v).tmps.getD i undef = a.tmps.getD i undef := fun i x => by rw [getD_put, if_neg (fun y => x y.1)]
  have G0 : (a.put (some 14) v).tmps.getD 14 undef = v := by rw [getD_put, if_pos ⟨rfl, by omega⟩]
  obtain ⟨hF, hS, i0, i1, i2, i3, i4, i5, v0, v1, v2, n01, n02, n12, s0, s1, s2⟩ := h
  have hst : l9 = false := by cases e : l9 with | false => rfl | true => exact absurd (s0 e).1 (by rw [hl]; simp)
  exact ⟨hF.put 14 _ (by omega), hS', fun e => by rw [G 13 (by decide)]; exact i0 e,
    fun _ => by rw [G0]; exact hv,
    fun e => by rw [G 15 (by decide)]; exact i2 e,
    fun e => by rw [G 16 (by decide)]; exact i3 e,
    fun e => by rw [G 17 (by decide)]; exact i4 e,
    fun e => by rw [G 18 (by decide)]; exact i5 e,
    fun e => by
      obtain ⟨b, q⟩ := v0 e
      have q' := q.kept hb
      rw [G 7 (by decide), G0]
      exact ⟨b, q'.p, q'.lo, q'.hi, q'.room, fun x => by rw [hst] at x; cases x⟩,
    fun e => by
      obtain ⟨b, q⟩ := v1 e
      rw [G 8 (by decide), G 16 (by decide)]
      exact ⟨b, q.kept hb⟩,
    fun e => by
      obtain ⟨b, q⟩ := v2 e
      rw [G 9 (by decide), G 18 (by decide)]
      exact ⟨b, q.kept hb⟩,
    fun e e' => by rw [G 7 (by decide), G 8 (by decide)]; exact n01 e e',
    fun e e' => by rw [G 7 (by decide), G 9 (by decide)]; exact n02 e e',
    fun e e' => by rw [G 8 (by decide), G 9 (by decide)]; exact n12 e e',
    fun x => ⟨rfl, (s0 x).2⟩,
    s1,
    s2⟩
theorem inv3_alloc0 (h : Inv3 S base X Y Z a0 l0 l1 l2 l3 l4 l5 l6 l7 l8 l9 l10 l11 a w) (hz : 18 < a0.tmps.size) (hl : l6 = false) (hbase : base ≤ w.heap.size) (hS' : Held S (w.alloc (.cells #[.int .i64 0, .int .u64 0, .string ⟨#[]⟩, .int .i64 0] 24))) : Inv3 S base X Y Z a0 l0 l1 l2 l3 l4 l5 true l7 l8 l9 l10 l11 (a.put (some 7) (.pointer (some ⟨w.heap.size, 0, none⟩))) (w.alloc (.cells #[.int .i64 0, .int .u64 0, .string ⟨#[]⟩, .int .i64 0] 24)) := by
  have hs := h.1.z
  have G : ∀ i, i ≠ 7 → (a.put (some 7) (.pointer (some ⟨w.heap.size, 0, none⟩))).tmps.getD i undef = a.tmps.getD i undef := fun i x => by rw [getD_put, if_neg (fun y => x y.1)]
  have G0 : (a.put (some 7) (.pointer (some ⟨w.heap.size, 0, none⟩))).tmps.getD 7 undef = (.pointer (some ⟨w.heap.size, 0, none⟩)) := by rw [getD_put, if_pos ⟨rfl, by omega⟩]
  obtain ⟨hF, hS, i0, i1, i2, i3, i4, i5, v0, v1, v2, n01, n02, n12, s0, s1, s2⟩ := h
  have hb : Below w.heap.size w (w.alloc (.cells #[.int .i64 0, .int .u64 0, .string ⟨#[]⟩, .int .i64 0] 24)) := (Below.refl _ _).alloc (Nat.le_refl _) _
  have hst : l9 = false := by cases e : l9 with | false => rfl | true => exact absurd (s0 e).2 (by rw [hl]; simp)
  exact ⟨hF.put 7 _ (by omega), hS', fun e => by rw [G 13 (by decide)]; exact i0 e,
    fun e => by rw [G 14 (by decide)]; exact i1 e,
    fun e => by rw [G 15 (by decide)]; exact i2 e,
    fun e => by rw [G 16 (by decide)]; exact i3 e,
    fun e => by rw [G 17 (by decide)]; exact i4 e,
    fun e => by rw [G 18 (by decide)]; exact i5 e,
    fun _ => by
      rw [G0, G 14 (by decide)]
      exact ⟨w.heap.size, rfl, hbase, by simp, fun _ => PfxAt.of_alloc w _ 0 0 ⟨#[]⟩ 0 rfl, fun x => by rw [hst] at x; cases x⟩,
    fun e => by
      obtain ⟨b, q⟩ := v1 e
      rw [G 8 (by decide), G 16 (by decide)]
      exact ⟨b, q.kept hb⟩,
    fun e => by
      obtain ⟨b, q⟩ := v2 e
      rw [G 9 (by decide), G 18 (by decide)]
      exact ⟨b, q.kept hb⟩,
    fun e e' => by
      obtain ⟨b, q⟩ := v1 e'
      have q2 := q.hi
      rw [G0, G 8 (by decide)]
      rw [q.p]
      exact ptr_ne (by omega),
    fun e e' => by
      obtain ⟨b, q⟩ := v2 e'
      have q2 := q.hi
      rw [G0, G 9 (by decide)]
      rw [q.p]
      exact ptr_ne (by omega),
    fun e e' => by rw [G 8 (by decide), G 9 (by decide)]; exact n12 e e',
    fun x => ⟨(s0 x).1, rfl⟩,
    s1,
    s2⟩
theorem inv3_store0 (h : Inv3 S base X Y Z a0 l0 l1 l2 l3 l4 l5 l6 l7 l8 l9 l10 l11 a w) (h1 : l1 = true) (h4 : l6 = true) (h6 : l9 = false) (hset : ∀ w' (p : Addr) v, Held S w' → base ≤ p.block → Held S (w'.setCell p v)) :
    ∃ (b : Nat) (f r : Int) (s : ByteArray) (l : Int), a.tmps.getD 7 undef = .pointer (some ⟨b, 0, none⟩) ∧ a.tmps.getD 14 undef = .agg #[.int .i64 f, .int .u64 r, .string s, .int .i64 l] ∧ PfxAt w b 0 0 ⟨#[]⟩ 0 ∧ Inv3 S base X Y Z a0 l0 l1 l2 l3 l4 l5 l6 l7 l8 true l10 l11 a (sets w b f r s l) := by
  obtain ⟨hF, hS, i0, i1, i2, i3, i4, i5, v0, v1, v2, n01, n02, n12, s0, s1, s2⟩ := h
  obtain ⟨b, hv⟩ := v0 h4
  obtain ⟨f, r, s, l, e, hc⟩ := i1 h1
  exact ⟨b, f, r, s, l, hv.p, e, hv.room h6, hF, hset _ _ _ (hset _ _ _ (hset _ _ _ (hset _ _ _ hS hv.lo) hv.lo) hv.lo) hv.lo, i0,
    i1,
    i2,
    i3,
    i4,
    i5,
    fun _ => ⟨b, hv.p, hv.lo, Nat.lt_of_lt_of_le hv.hi (sets_size w b f r s l), (fun x => by cases x), fun _ => ⟨f, r, s, l, e, sets_at (hv.room h6) f r s l⟩⟩,
    fun e' => by
      obtain ⟨c, q⟩ := v1 e'
      exact ⟨c, q.sets f r s l (fun x => n01 h4 e' (by subst x; rw [hv.p, q.p]))⟩,
    fun e' => by
      obtain ⟨c, q⟩ := v2 e'
      exact ⟨c, q.sets f r s l (fun x => n02 h4 e' (by subst x; rw [hv.p, q.p]))⟩,
    n01,
    n02,
    n12,
    fun _ => ⟨h1, h4⟩,
    s1,
    s2⟩
theorem inv3_load1 (h : Inv3 S base X Y Z a0 l0 l1 l2 l3 l4 l5 l6 l7 l8 l9 l10 l11 a w) (hz : 18 < a0.tmps.size) : Inv3 S base X Y Z a0 l0 l1 true l3 l4 l5 l6 l7 l8 l9 l10 l11 (a.put (some 15) (.agg Y)) w := by
  have hs := h.1.z
  have G : ∀ i, i ≠ 15 → (a.put (some 15) (.agg Y)).tmps.getD i undef = a.tmps.getD i undef := fun i x => by rw [getD_put, if_neg (fun y => x y.1)]
  have G0 : (a.put (some 15) (.agg Y)).tmps.getD 15 undef = (.agg Y) := by rw [getD_put, if_pos ⟨rfl, by omega⟩]
  obtain ⟨hF, hS, i0, i1, i2, i3, i4, i5, v0, v1, v2, n01, n02, n12, s0, s1, s2⟩ := h
  exact ⟨hF.put 15 _ (by omega), hS, fun e => by rw [G 13 (by decide)]; exact i0 e,
    fun e => by rw [G 14 (by decide)]; exact i1 e,
    fun _ => by rw [G0],
    fun e => by rw [G 16 (by decide)]; exact i3 e,
    fun e => by rw [G 17 (by decide)]; exact i4 e,
    fun e => by rw [G 18 (by decide)]; exact i5 e,
    fun e => by rw [G 7 (by decide), G 14 (by decide)]; exact v0 e,
    fun e => by rw [G 8 (by decide), G 16 (by decide)]; exact v1 e,
    fun e => by rw [G 9 (by decide), G 18 (by decide)]; exact v2 e,
    fun e e' => by rw [G 7 (by decide), G 8 (by decide)]; exact n01 e e',
    fun e e' => by rw [G 7 (by decide), G 9 (by decide)]; exact n02 e e',
    fun e e' => by rw [G 8 (by decide), G 9 (by decide)]; exact n12 e e',
    s0,
    s1,
    s2⟩
theorem inv3_call1 (h : Inv3 S base X Y Z a0 l0 l1 l2 l3 l4 l5 l6 l7 l8 l9 l10 l11 a w) (hz : 18 < a0.tmps.size) (hl : l3 = false) (hb : Below w.heap.size w w') (hS' : Held S w') {v : Value} (hv : Good v) : Inv3 S base X Y Z a0 l0 l1 l2 true l4 l5 l6 l7 l8 l9 l10 l11 (a.put (some 16) v) w' := by
  have hs := h.1.z
  have G : ∀ i, i ≠ 16 → (a.put (some 16) v).tmps.getD i undef = a.tmps.getD i undef := fun i x => by rw [getD_put, if_neg (fun y => x y.1)]
  have G0 : (a.put (some 16) v).tmps.getD 16 undef = v := by rw [getD_put, if_pos ⟨rfl, by omega⟩]
  obtain ⟨hF, hS, i0, i1, i2, i3, i4, i5, v0, v1, v2, n01, n02, n12, s0, s1, s2⟩ := h
  have hst : l10 = false := by cases e : l10 with | false => rfl | true => exact absurd (s1 e).1 (by rw [hl]; simp)
  exact ⟨hF.put 16 _ (by omega), hS', fun e => by rw [G 13 (by decide)]; exact i0 e,
    fun e => by rw [G 14 (by decide)]; exact i1 e,
    fun e => by rw [G 15 (by decide)]; exact i2 e,
    fun _ => by rw [G0]; exact hv,
    fun e => by rw [G 17 (by decide)]; exact i4 e,
    fun e => by rw [G 18 (by decide)]; exact i5 e,
    fun e => by
      obtain ⟨b, q⟩ := v0 e
      rw [G 7 (by decide), G 14 (by decide)]
      exact ⟨b, q.kept hb⟩,
    fun e => by
      obtain ⟨b, q⟩ := v1 e
      have q' := q.kept hb
      rw [G 8 (by decide), G0]
      exact ⟨b, q'.p, q'.lo, q'.hi, q'.room, fun x => by rw [hst] at x; cases x⟩,
    fun e => by
      obtain ⟨b, q⟩ := v2 e
      rw [G 9 (by decide), G 18 (by decide)]
      exact ⟨b, q.kept hb⟩,
    fun e e' => by rw [G 7 (by decide), G 8 (by decide)]; exact n01 e e',
    fun e e' => by rw [G 7 (by decide), G 9 (by decide)]; exact n02 e e',
    fun e e' => by rw [G 8 (by decide), G 9 (by decide)]; exact n12 e e',
    s0,
    fun x => ⟨rfl, (s1 x).2⟩,
    s2⟩
theorem inv3_alloc1 (h : Inv3 S base X Y Z a0 l0 l1 l2 l3 l4 l5 l6 l7 l8 l9 l10 l11 a w) (hz : 18 < a0.tmps.size) (hl : l7 = false) (hbase : base ≤ w.heap.size) (hS' : Held S (w.alloc (.cells #[.int .i64 0, .int .u64 0, .string ⟨#[]⟩, .int .i64 0] 24))) : Inv3 S base X Y Z a0 l0 l1 l2 l3 l4 l5 l6 true l8 l9 l10 l11 (a.put (some 8) (.pointer (some ⟨w.heap.size, 0, none⟩))) (w.alloc (.cells #[.int .i64 0, .int .u64 0, .string ⟨#[]⟩, .int .i64 0] 24)) := by
  have hs := h.1.z
  have G : ∀ i, i ≠ 8 → (a.put (some 8) (.pointer (some ⟨w.heap.size, 0, none⟩))).tmps.getD i undef = a.tmps.getD i undef := fun i x => by rw [getD_put, if_neg (fun y => x y.1)]
  have G0 : (a.put (some 8) (.pointer (some ⟨w.heap.size, 0, none⟩))).tmps.getD 8 undef = (.pointer (some ⟨w.heap.size, 0, none⟩)) := by rw [getD_put, if_pos ⟨rfl, by omega⟩]
  obtain ⟨hF, hS, i0, i1, i2, i3, i4, i5, v0, v1, v2, n01, n02, n12, s0, s1, s2⟩ := h
  have hb : Below w.heap.size w (w.alloc (.cells #[.int .i64 0, .int .u64 0, .string ⟨#[]⟩, .int .i64 0] 24)) := (Below.refl _ _).alloc (Nat.le_refl _) _
  have hst : l10 = false := by cases e : l10 with | false => rfl | true => exact absurd (s1 e).2 (by rw [hl]; simp)
  exact ⟨hF.put 8 _ (by omega), hS', fun e => by rw [G 13 (by decide)]; exact i0 e,
    fun e => by rw [G 14 (by decide)]; exact i1 e,
    fun e => by rw [G 15 (by decide)]; exact i2 e,
    fun e => by rw [G 16 (by decide)]; exact i3 e,
    fun e => by rw [G 17 (by decide)]; exact i4 e,
    fun e => by rw [G 18 (by decide)]; exact i5 e,
    fun e => by
      obtain ⟨b, q⟩ := v0 e
      rw [G 7 (by decide), G 14 (by decide)]
      exact ⟨b, q.kept hb⟩,
    fun _ => by
      rw [G0, G 16 (by decide)]
      exact ⟨w.heap.size, rfl, hbase, by simp, fun _ => PfxAt.of_alloc w _ 0 0 ⟨#[]⟩ 0 rfl, fun x => by rw [hst] at x; cases x⟩,
    fun e => by
      obtain ⟨b, q⟩ := v2 e
      rw [G 9 (by decide), G 18 (by decide)]
      exact ⟨b, q.kept hb⟩,
    fun e e' => by
      obtain ⟨b, q⟩ := v0 e
      have q2 := q.hi
      rw [G 7 (by decide), G0]
      rw [q.p]
      exact ptr_ne (by omega),
    fun e e' => by rw [G 7 (by decide), G 9 (by decide)]; exact n02 e e',
    fun e e' => by
      obtain ⟨b, q⟩ := v2 e'
      have q2 := q.hi
      rw [G0, G 9 (by decide)]
      rw [q.p]
      exact ptr_ne (by omega),
    s0,
    fun x => ⟨(s1 x).1, rfl⟩,
    s2⟩
theorem inv3_store1 (h : Inv3 S base X Y Z a0 l0 l1 l2 l3 l4 l5 l6 l7 l8 l9 l10 l11 a w) (h1 : l3 = true) (h4 : l7 = true) (h6 : l10 = false) (hset : ∀ w' (p : Addr) v, Held S w' → base ≤ p.block → Held S (w'.setCell p v)) :
    ∃ (b : Nat) (f r : Int) (s : ByteArray) (l : Int), a.tmps.getD 8 undef = .pointer (some ⟨b, 0, none⟩) ∧ a.tmps.getD 16 undef = .agg #[.int .i64 f, .int .u64 r, .string s, .int .i64 l] ∧ PfxAt w b 0 0 ⟨#[]⟩ 0 ∧ Inv3 S base X Y Z a0 l0 l1 l2 l3 l4 l5 l6 l7 l8 l9 true l11 a (sets w b f r s l) := by
  obtain ⟨hF, hS, i0, i1, i2, i3, i4, i5, v0, v1, v2, n01, n02, n12, s0, s1, s2⟩ := h
  obtain ⟨b, hv⟩ := v1 h4
  obtain ⟨f, r, s, l, e, hc⟩ := i3 h1
  exact ⟨b, f, r, s, l, hv.p, e, hv.room h6, hF, hset _ _ _ (hset _ _ _ (hset _ _ _ (hset _ _ _ hS hv.lo) hv.lo) hv.lo) hv.lo, i0,
    i1,
    i2,
    i3,
    i4,
    i5,
    fun e' => by
      obtain ⟨c, q⟩ := v0 e'
      exact ⟨c, q.sets f r s l (fun x => n01 e' h4 (by subst x; rw [hv.p, q.p]))⟩,
    fun _ => ⟨b, hv.p, hv.lo, Nat.lt_of_lt_of_le hv.hi (sets_size w b f r s l), (fun x => by cases x), fun _ => ⟨f, r, s, l, e, sets_at (hv.room h6) f r s l⟩⟩,
    fun e' => by
      obtain ⟨c, q⟩ := v2 e'
      exact ⟨c, q.sets f r s l (fun x => n12 h4 e' (by subst x; rw [hv.p, q.p]))⟩,
    n01,
    n02,
    n12,
    s0,
    fun _ => ⟨h1, h4⟩,
    s2⟩
theorem inv3_load2 (h : Inv3 S base X Y Z a0 l0 l1 l2 l3 l4 l5 l6 l7 l8 l9 l10 l11 a w) (hz : 18 < a0.tmps.size) : Inv3 S base X Y Z a0 l0 l1 l2 l3 true l5 l6 l7 l8 l9 l10 l11 (a.put (some 17) (.agg Z)) w := by
  have hs := h.1.z
  have G : ∀ i, i ≠ 17 → (a.put (some 17) (.agg Z)).tmps.getD i undef = a.tmps.getD i undef := fun i x => by rw [getD_put, if_neg (fun y => x y.1)]
  have G0 : (a.put (some 17) (.agg Z)).tmps.getD 17 undef = (.agg Z) := by rw [getD_put, if_pos ⟨rfl, by omega⟩]
  obtain ⟨hF, hS, i0, i1, i2, i3, i4, i5, v0, v1, v2, n01, n02, n12, s0, s1, s2⟩ := h
  exact ⟨hF.put 17 _ (by omega), hS, fun e => by rw [G 13 (by decide)]; exact i0 e,
    fun e => by rw [G 14 (by decide)]; exact i1 e,
    fun e => by rw [G 15 (by decide)]; exact i2 e,
    fun e => by rw [G 16 (by decide)]; exact i3 e,
    fun _ => by rw [G0],
    fun e => by rw [G 18 (by decide)]; exact i5 e,
    fun e => by rw [G 7 (by decide), G 14 (by decide)]; exact v0 e,
    fun e => by rw [G 8 (by decide), G 16 (by decide)]; exact v1 e,
    fun e => by rw [G 9 (by decide), G 18 (by decide)]; exact v2 e,
    fun e e' => by rw [G 7 (by decide), G 8 (by decide)]; exact n01 e e',
    fun e e' => by rw [G 7 (by decide), G 9 (by decide)]; exact n02 e e',
    fun e e' => by rw [G 8 (by decide), G 9 (by decide)]; exact n12 e e',
    s0,
    s1,
    s2⟩
theorem inv3_call2 (h : Inv3 S base X Y Z a0 l0 l1 l2 l3 l4 l5 l6 l7 l8 l9 l10 l11 a w) (hz : 18 < a0.tmps.size) (hl : l5 = false) (hb : Below w.heap.size w w') (hS' : Held S w') {v : Value} (hv : Good v) : Inv3 S base X Y Z a0 l0 l1 l2 l3 l4 true l6 l7 l8 l9 l10 l11 (a.put (some 18) v) w' := by
  have hs := h.1.z
  have G : ∀ i, i ≠ 18 → (a.put (some 18) v).tmps.getD i undef = a.tmps.getD i undef := fun i x => by rw [getD_put, if_neg (fun y => x y.1)]
  have G0 : (a.put (some 18) v).tmps.getD 18 undef = v := by rw [getD_put, if_pos ⟨rfl, by omega⟩]
  obtain ⟨hF, hS, i0, i1, i2, i3, i4, i5, v0, v1, v2, n01, n02, n12, s0, s1, s2⟩ := h
  have hst : l11 = false := by cases e : l11 with | false => rfl | true => exact absurd (s2 e).1 (by rw [hl]; simp)
  exact ⟨hF.put 18 _ (by omega), hS', fun e => by rw [G 13 (by decide)]; exact i0 e,
    fun e => by rw [G 14 (by decide)]; exact i1 e,
    fun e => by rw [G 15 (by decide)]; exact i2 e,
    fun e => by rw [G 16 (by decide)]; exact i3 e,
    fun e => by rw [G 17 (by decide)]; exact i4 e,
    fun _ => by rw [G0]; exact hv,
    fun e => by
      obtain ⟨b, q⟩ := v0 e
      rw [G 7 (by decide), G 14 (by decide)]
      exact ⟨b, q.kept hb⟩,
    fun e => by
      obtain ⟨b, q⟩ := v1 e
      rw [G 8 (by decide), G 16 (by decide)]
      exact ⟨b, q.kept hb⟩,
    fun e => by
      obtain ⟨b, q⟩ := v2 e
      have q' := q.kept hb
      rw [G 9 (by decide), G0]
      exact ⟨b, q'.p, q'.lo, q'.hi, q'.room, fun x => by rw [hst] at x; cases x⟩,
    fun e e' => by rw [G 7 (by decide), G 8 (by decide)]; exact n01 e e',
    fun e e' => by rw [G 7 (by decide), G 9 (by decide)]; exact n02 e e',
    fun e e' => by rw [G 8 (by decide), G 9 (by decide)]; exact n12 e e',
    s0,
    s1,
    fun x => ⟨rfl, (s2 x).2⟩⟩
theorem inv3_alloc2 (h : Inv3 S base X Y Z a0 l0 l1 l2 l3 l4 l5 l6 l7 l8 l9 l10 l11 a w) (hz : 18 < a0.tmps.size) (hl : l8 = false) (hbase : base ≤ w.heap.size) (hS' : Held S (w.alloc (.cells #[.int .i64 0, .int .u64 0, .string ⟨#[]⟩, .int .i64 0] 24))) : Inv3 S base X Y Z a0 l0 l1 l2 l3 l4 l5 l6 l7 true l9 l10 l11 (a.put (some 9) (.pointer (some ⟨w.heap.size, 0, none⟩))) (w.alloc (.cells #[.int .i64 0, .int .u64 0, .string ⟨#[]⟩, .int .i64 0] 24)) := by
  have hs := h.1.z
  have G : ∀ i, i ≠ 9 → (a.put (some 9) (.pointer (some ⟨w.heap.size, 0, none⟩))).tmps.getD i undef = a.tmps.getD i undef := fun i x => by rw [getD_put, if_neg (fun y => x y.1)]
  have G0 : (a.put (some 9) (.pointer (some ⟨w.heap.size, 0, none⟩))).tmps.getD 9 undef = (.pointer (some ⟨w.heap.size, 0, none⟩)) := by rw [getD_put, if_pos ⟨rfl, by omega⟩]
  obtain ⟨hF, hS, i0, i1, i2, i3, i4, i5, v0, v1, v2, n01, n02, n12, s0, s1, s2⟩ := h
  have hb : Below w.heap.size w (w.alloc (.cells #[.int .i64 0, .int .u64 0, .string ⟨#[]⟩, .int .i64 0] 24)) := (Below.refl _ _).alloc (Nat.le_refl _) _
  have hst : l11 = false := by cases e : l11 with | false => rfl | true => exact absurd (s2 e).2 (by rw [hl]; simp)
  exact ⟨hF.put 9 _ (by omega), hS', fun e => by rw [G 13 (by decide)]; exact i0 e,
    fun e => by rw [G 14 (by decide)]; exact i1 e,
    fun e => by rw [G 15 (by decide)]; exact i2 e,
    fun e => by rw [G 16 (by decide)]; exact i3 e,
    fun e => by rw [G 17 (by decide)]; exact i4 e,
    fun e => by rw [G 18 (by decide)]; exact i5 e,
    fun e => by
      obtain ⟨b, q⟩ := v0 e
      rw [G 7 (by decide), G 14 (by decide)]
      exact ⟨b, q.kept hb⟩,
    fun e => by
      obtain ⟨b, q⟩ := v1 e
      rw [G 8 (by decide), G 16 (by decide)]
      exact ⟨b, q.kept hb⟩,
    fun _ => by
      rw [G0, G 18 (by decide)]
      exact ⟨w.heap.size, rfl, hbase, by simp, fun _ => PfxAt.of_alloc w _ 0 0 ⟨#[]⟩ 0 rfl, fun x => by rw [hst] at x; cases x⟩,
    fun e e' => by rw [G 7 (by decide), G 8 (by decide)]; exact n01 e e',
    fun e e' => by
      obtain ⟨b, q⟩ := v0 e
      have q2 := q.hi
      rw [G 7 (by decide), G0]
      rw [q.p]
      exact ptr_ne (by omega),
    fun e e' => by
      obtain ⟨b, q⟩ := v1 e
      have q2 := q.hi
      rw [G 8 (by decide), G0]
      rw [q.p]
      exact ptr_ne (by omega),
    s0,
    s1,
    fun x => ⟨(s2 x).1, rfl⟩⟩
theorem inv3_store2 (h : Inv3 S base X Y Z a0 l0 l1 l2 l3 l4 l5 l6 l7 l8 l9 l10 l11 a w) (h1 : l5 = true) (h4 : l8 = true) (h6 : l11 = false) (hset : ∀ w' (p : Addr) v, Held S w' → base ≤ p.block → Held S (w'.setCell p v)) :
    ∃ (b : Nat) (f r : Int) (s : ByteArray) (l : Int), a.tmps.getD 9 undef = .pointer (some ⟨b, 0, none⟩) ∧ a.tmps.getD 18 undef = .agg #[.int .i64 f, .int .u64 r, .string s, .int .i64 l] ∧ PfxAt w b 0 0 ⟨#[]⟩ 0 ∧ Inv3 S base X Y Z a0 l0 l1 l2 l3 l4 l5 l6 l7 l8 l9 l10 true a (sets w b f r s l) := by
  obtain ⟨hF, hS, i0, i1, i2, i3, i4, i5, v0, v1, v2, n01, n02, n12, s0, s1, s2⟩ := h
  obtain ⟨b, hv⟩ := v2 h4
  obtain ⟨f, r, s, l, e, hc⟩ := i5 h1
  exact ⟨b, f, r, s, l, hv.p, e, hv.room h6, hF, hset _ _ _ (hset _ _ _ (hset _ _ _ (hset _ _ _ hS hv.lo) hv.lo) hv.lo) hv.lo, i0,
    i1,
    i2,
    i3,
    i4,
    i5,
    fun e' => by
      obtain ⟨c, q⟩ := v0 e'
      exact ⟨c, q.sets f r s l (fun x => n02 e' h4 (by subst x; rw [hv.p, q.p]))⟩,
    fun e' => by
      obtain ⟨c, q⟩ := v1 e'
      exact ⟨c, q.sets f r s l (fun x => n12 e' h4 (by subst x; rw [hv.p, q.p]))⟩,
    fun _ => ⟨b, hv.p, hv.lo, Nat.lt_of_lt_of_le hv.hi (sets_size w b f r s l), (fun x => by cases x), fun _ => ⟨f, r, s, l, e, sets_at (hv.room h6) f r s l⟩⟩,
    n01,
    n02,
    n12,
    s0,
    s1,
    fun _ => ⟨h1, h4⟩⟩
end
/-- The whole statement, in whatever order. -/
theorem three_region {S : World → Prop} {base bx by' bz : Nat} {X Y Z : Array Value} {a0 : Act} {w0 : World} {ops : Array Oper} {Q : Exit → Act → World → Prop} {id : Nat} {o0 o1 o2 o3 o4 o5 o6 o7 o8 o9 o10 o11 : Oper}
    (hm : Tryd.prog.follows .mixedOrders = true) (nn : ops.size = 12)
    (h0 : ops[0]? = some o0) (h1 : ops[1]? = some o1) (h2 : ops[2]? = some o2) (h3 : ops[3]? = some o3) (h4 : ops[4]? = some o4) (h5 : ops[5]? = some o5) (h6 : ops[6]? = some o6) (h7 : ops[7]? = some o7) (h8 : ops[8]? = some o8) (h9 : ops[9]? = some o9) (h10 : ops[10]? = some o10) (h11 : ops[11]? = some o11)
    (g0 : o0.guard = none) (g1 : o1.guard = none) (g2 : o2.guard = none) (g3 : o3.guard = none) (g4 : o4.guard = none) (g5 : o5.guard = none) (g6 : o6.guard = none) (g7 : o7.guard = none) (g8 : o8.guard = none) (g9 : o9.guard = none) (g10 : o10.guard = none) (g11 : o11.guard = none)
    (d0 : o0.dst = some 13) (d1 : o1.dst = some 14) (d2 : o2.dst = some 15) (d3 : o3.dst = some 16) (d4 : o4.dst = some 17) (d5 : o5.dst = some 18) (d6 : o6.dst = some 7) (d7 : o7.dst = some 8) (d8 : o8.dst = some 9) (d9 : o9.dst = none) (d10 : o10.dst = none) (d11 : o11.dst = none)
    (p0 : o0.op = .load 43 (.tmp 3)) (p1 : o1.op = .call { callee := .value (.func 30), args := #[.tmp 13], argTypes := #[43] }) (p2 : o2.op = .load 43 (.tmp 4)) (p3 : o3.op = .call { callee := .value (.func 30), args := #[.tmp 15], argTypes := #[43] }) (p4 : o4.op = .load 43 (.tmp 5)) (p5 : o5.op = .call { callee := .value (.func 30), args := #[.tmp 17], argTypes := #[43] }) (p6 : o6.op = .alloc 24) (p7 : o7.op = .alloc 24) (p8 : o8.op = .alloc 24) (p9 : o9.op = .store 24 (.tmp 7) (.tmp 14)) (p10 : o10.op = .store 24 (.tmp 8) (.tmp 16)) (p11 : o11.op = .store 24 (.tmp 9) (.tmp 18))
    (hr : ∀ l0 l1 l2 l3 l4 l5 l6 l7 l8 l9 l10 l11 : Bool, ∀ i ∈ Region.ready .any ops #[l0, l1, l2, l3, l4, l5, l6, l7, l8, l9, l10, l11], cond3 i l0 l1 l2 l3 l4 l5 l6 l7 l8 l9 l10 l11 = true)
    (hf : ∀ l0 l1 l2 l3 l4 l5 l6 l7 l8 l9 l10 l11 : Bool, Region.ready .any ops #[l0, l1, l2, l3, l4, l5, l6, l7, l8, l9, l10, l11] = [] → (l0 && l1 && l2 && l3 && l4 && l5 && l6 && l7 && l8 && l9 && l10 && l11) = true)
    (e0 : a0.tmps.getD 3 undef = .pointer (some ⟨bx, 0, none⟩)) (e1 : a0.tmps.getD 4 undef = .pointer (some ⟨by', 0, none⟩)) (e2 : a0.tmps.getD 5 undef = .pointer (some ⟨bz, 0, none⟩)) (hz : 18 < a0.tmps.size)
    (z0 : (Tryd.prog.info? 43).map (·.size) = some X.size) (z1 : (Tryd.prog.info? 43).map (·.size) = some Y.size) (z2 : (Tryd.prog.info? 43).map (·.size) = some Z.size)
    (t0 : ∀ w', Held S w' → w'.heap[bx]? = some (.cells X 43 (0, 0))) (t1 : ∀ w', Held S w' → w'.heap[by']? = some (.cells Y 43 (0, 0))) (t2 : ∀ w', Held S w' → w'.heap[bz]? = some (.cells Z 43 (0, 0)))
    (sb : ∀ w' w2, Held S w' → Below w'.heap.size w' w2 → Held S w2) (hset : ∀ w' (p : Addr) v, Held S w' → base ≤ p.block → Held S (w'.setCell p v)) (sbase : ∀ w', Held S w' → base ≤ w'.heap.size)
    (k0 : ∀ w', Held S w' → Calls Tryd.prog 30 #[.agg X] w' fun e w2 => ∃ v, e = .returned v ∧ Good v ∧ Below w'.heap.size w' w2) (k1 : ∀ w', Held S w' → Calls Tryd.prog 30 #[.agg Y] w' fun e w2 => ∃ v, e = .returned v ∧ Good v ∧ Below w'.heap.size w' w2) (k2 : ∀ w', Held S w' → Calls Tryd.prog 30 #[.agg Z] w' fun e w2 => ∃ v, e = .returned v ∧ Good v ∧ Below w'.heap.size w' w2)
    (hS : Held S w0.drew)
    (hQ : ∀ (x13 x15 x17 : Value) (b7 b8 b9 : Nat) (fa ra : Int) (sa : ByteArray) (la : Int) (fb rb : Int) (sb : ByteArray) (lb : Int) (fc rc : Int) (sc : ByteArray) (lc : Int) (w' : World), PfxAt w' b7 fa ra sa la → PfxAt w' b8 fb rb sb lb → PfxAt w' b9 fc rc sc lc → chk fa ra sa la = 0 → chk fb rb sb lb = 0 → chk fc rc sc lc = 0 → Held S w' → Q .normal (((((((((a0.put (some 13) x13).put (some 14) (.agg #[.int .i64 fa, .int .u64 ra, .string sa, .int .i64 la])).put (some 15) x15).put (some 16) (.agg #[.int .i64 fb, .int .u64 rb, .string sb, .int .i64 lb])).put (some 17) x17).put (some 18) (.agg #[.int .i64 fc, .int .u64 rc, .string sc, .int .i64 lc])).put (some 7) (.pointer (some ⟨b7, 0, none⟩))).put (some 8) (.pointer (some ⟨b8, 0, none⟩))).put (some 9) (.pointer (some ⟨b9, 0, none⟩))) w') :
    (Code.region id ops true).wp Tryd.prog Q a0 w0 := by
  refine region_inv hm (fun listed a w => ∃ l0 l1 l2 l3 l4 l5 l6 l7 l8 l9 l10 l11 : Bool, listed = #[l0, l1, l2, l3, l4, l5, l6, l7, l8, l9, l10, l11] ∧ Inv3 S base X Y Z a0 l0 l1 l2 l3 l4 l5 l6 l7 l8 l9 l10 l11 a w) ?_ ?_ ?_
  · rintro listed a w ⟨l0, l1, l2, l3, l4, l5, l6, l7, l8, l9, l10, l11, rfl, hI⟩ i hi
    have hc := hr l0 l1 l2 l3 l4 l5 l6 l7 l8 l9 l10 l11 i hi
    have hF := hI.1
    have hS := hI.2.1
    match i, hc with
    | 0, hc =>
      refine op_value h0 g0 (ex_load a w (.tmp 3) bx X (0, 0) p0 ((hF.k 3 (by omega) (by omega) (by omega) (by omega) (by omega) (by omega) (by omega) (by omega) (by omega)).trans e0) (t0 w hS) z0) ?_
      rw [d0]
      exact ⟨true, l1, l2, l3, l4, l5, l6, l7, l8, l9, l10, l11, rfl, inv3_load0 hI hz⟩
    | 1, hc =>
      simp [cond3] at hc
      refine op_enter h1 g1 (ex_call a w (.tmp 13) (.agg X) p1 (hI.2.2.1 hc.1)) ((k0 w hS).mono ?_)
      rintro e w2 ⟨v, rfl, hv, hb⟩
      rw [d1]
      exact ⟨v, rfl, l0, true, l2, l3, l4, l5, l6, l7, l8, l9, l10, l11, rfl, inv3_call0 hI hz hc.2 hb (sb _ _ hS hb) hv⟩
    | 2, hc =>
      refine op_value h2 g2 (ex_load a w (.tmp 4) by' Y (0, 0) p2 ((hF.k 4 (by omega) (by omega) (by omega) (by omega) (by omega) (by omega) (by omega) (by omega) (by omega)).trans e1) (t1 w hS) z1) ?_
      rw [d2]
      exact ⟨l0, l1, true, l3, l4, l5, l6, l7, l8, l9, l10, l11, rfl, inv3_load1 hI hz⟩
    | 3, hc =>
      simp [cond3] at hc
      refine op_enter h3 g3 (ex_call a w (.tmp 15) (.agg Y) p3 (hI.2.2.2.2.1 hc.1)) ((k1 w hS).mono ?_)
      rintro e w2 ⟨v, rfl, hv, hb⟩
      rw [d3]
      exact ⟨v, rfl, l0, l1, l2, true, l4, l5, l6, l7, l8, l9, l10, l11, rfl, inv3_call1 hI hz hc.2 hb (sb _ _ hS hb) hv⟩
    | 4, hc =>
      refine op_value h4 g4 (ex_load a w (.tmp 5) bz Z (0, 0) p4 ((hF.k 5 (by omega) (by omega) (by omega) (by omega) (by omega) (by omega) (by omega) (by omega) (by omega)).trans e2) (t2 w hS) z2) ?_
      rw [d4]
      exact ⟨l0, l1, l2, l3, true, l5, l6, l7, l8, l9, l10, l11, rfl, inv3_load2 hI hz⟩
    | 5, hc =>
      simp [cond3] at hc
      refine op_enter h5 g5 (ex_call a w (.tmp 17) (.agg Z) p5 (hI.2.2.2.2.2.2.1 hc.1)) ((k2 w hS).mono ?_)
      rintro e w2 ⟨v, rfl, hv, hb⟩
      rw [d5]
      exact ⟨v, rfl, l0, l1, l2, l3, l4, true, l6, l7, l8, l9, l10, l11, rfl, inv3_call2 hI hz hc.2 hb (sb _ _ hS hb) hv⟩
    | 6, hc =>
      simp [cond3] at hc
      refine op_value h6 g6 (ex_alloc a w p6) ?_
      rw [d6]
      exact ⟨l0, l1, l2, l3, l4, l5, true, l7, l8, l9, l10, l11, rfl, inv3_alloc0 hI hz hc (sbase w hS) (sb _ _ hS ((Below.refl _ _).alloc (Nat.le_refl _) _))⟩
    | 7, hc =>
      simp [cond3] at hc
      refine op_value h7 g7 (ex_alloc a w p7) ?_
      rw [d7]
      exact ⟨l0, l1, l2, l3, l4, l5, l6, true, l8, l9, l10, l11, rfl, inv3_alloc1 hI hz hc (sbase w hS) (sb _ _ hS ((Below.refl _ _).alloc (Nat.le_refl _) _))⟩
    | 8, hc =>
      simp [cond3] at hc
      refine op_value h8 g8 (ex_alloc a w p8) ?_
      rw [d8]
      exact ⟨l0, l1, l2, l3, l4, l5, l6, l7, true, l9, l10, l11, rfl, inv3_alloc2 hI hz hc (sbase w hS) (sb _ _ hS ((Below.refl _ _).alloc (Nat.le_refl _) _))⟩
    | 9, hc =>
      simp [cond3] at hc
      obtain ⟨b, f, r, s, l, q1, q2, hp, hI'⟩ := inv3_store0 hI hc.1.1 hc.1.2 hc.2 hset
      refine op_skip h9 g9 (ex_store a w (.tmp 7) (.tmp 14) b f r s l _ _ _ _ p9 q1 q2 hp.c0 hp.c1 hp.c2 hp.c3 hp.f0 hp.f1 hp.f2 hp.f3) ?_
      rw [d9]
      exact ⟨l0, l1, l2, l3, l4, l5, l6, l7, l8, true, l10, l11, rfl, hI'⟩
    | 10, hc =>
      simp [cond3] at hc
      obtain ⟨b, f, r, s, l, q1, q2, hp, hI'⟩ := inv3_store1 hI hc.1.1 hc.1.2 hc.2 hset
      refine op_skip h10 g10 (ex_store a w (.tmp 8) (.tmp 16) b f r s l _ _ _ _ p10 q1 q2 hp.c0 hp.c1 hp.c2 hp.c3 hp.f0 hp.f1 hp.f2 hp.f3) ?_
      rw [d10]
      exact ⟨l0, l1, l2, l3, l4, l5, l6, l7, l8, l9, true, l11, rfl, hI'⟩
    | 11, hc =>
      simp [cond3] at hc
      obtain ⟨b, f, r, s, l, q1, q2, hp, hI'⟩ := inv3_store2 hI hc.1.1 hc.1.2 hc.2 hset
      refine op_skip h11 g11 (ex_store a w (.tmp 9) (.tmp 18) b f r s l _ _ _ _ p11 q1 q2 hp.c0 hp.c1 hp.c2 hp.c3 hp.f0 hp.f1 hp.f2 hp.f3) ?_
      rw [d11]
      exact ⟨l0, l1, l2, l3, l4, l5, l6, l7, l8, l9, l10, true, rfl, hI'⟩
    | _ + 12, hc => exact absurd hc (by simp [cond3])
  · rintro listed a w ⟨l0, l1, l2, l3, l4, l5, l6, l7, l8, l9, l10, l11, rfl, hI⟩ hd
    have hall := hf l0 l1 l2 l3 l4 l5 l6 l7 l8 l9 l10 l11 hd
    simp only [Bool.and_eq_true] at hall
    obtain ⟨⟨⟨⟨⟨⟨⟨⟨⟨⟨⟨rfl, rfl⟩, rfl⟩, rfl⟩, rfl⟩, rfl⟩, rfl⟩, rfl⟩, rfl⟩, rfl⟩, rfl⟩, rfl⟩ := hall
    obtain ⟨hF, hS, i0, i1, i2, i3, i4, i5, v0, v1, v2, n01, n02, n12, s0, s1, s2⟩ := hI
    obtain ⟨b7, w0⟩ := v0 rfl
    obtain ⟨fa, ra, sa, la, ea, pa⟩ := w0.has rfl
    obtain ⟨fa', ra', sa', la', ea', ca⟩ := i1 rfl
    have qa := ea.symm.trans ea'
    simp at qa
    obtain ⟨rfl, rfl, rfl, rfl⟩ := qa
    obtain ⟨b8, w1⟩ := v1 rfl
    obtain ⟨fb, rb, sb, lb, eb, pb⟩ := w1.has rfl
    obtain ⟨fb', rb', sb', lb', eb', cb⟩ := i3 rfl
    have qb := eb.symm.trans eb'
    simp at qb
    obtain ⟨rfl, rfl, rfl, rfl⟩ := qb
    obtain ⟨b9, w2⟩ := v2 rfl
    obtain ⟨fc, rc, sc, lc, ec, pc⟩ := w2.has rfl
    obtain ⟨fc', rc', sc', lc', ec', cc⟩ := i5 rfl
    have qc := ec.symm.trans ec'
    simp at qc
    obtain ⟨rfl, rfl, rfl, rfl⟩ := qc
    rw [hF.form hz rfl ea rfl eb rfl ec w0.p w1.p w2.p]
    exact hQ _ _ _ b7 b8 b9 fa ra sa la fb rb sb lb fc rc sc lc w pa pb pc ca cb cc hS
  · refine ⟨false, false, false, false, false, false, false, false, false, false, false, false, by rw [nn]; rfl, ⟨rfl, rfl, fun _ _ _ _ _ _ _ _ _ _ => rfl⟩, hS, ?_, ?_, ?_, ?_, ?_, ?_, ?_, ?_, ?_, ?_, ?_, ?_, ?_, ?_, ?_⟩
    all_goals (intro e; cases e)
end Go.Proofs.YtkgedoedojkdkaaDoor
