/-
  Text of every pattern.
-/
import Derived.Test.YtjchobcmbkiilaaGreatDoorV4
set_option linter.unusedVariables false
set_option linter.unusedSimpArgs false
set_option maxRecDepth 100000
namespace Go.Proofs.YtjchobcmbkiilaaGreatDoor
open Go.RowKit
/-- Texts that lie in a row and may be written. -/
def RowT (w : World) (b : Nat) (l : List ByteArray) : Prop := ∀ j (hj : j < l.length), w.cell? ⟨b, j, none⟩ = some (.string l[j]) ∧ w.frozen? ⟨b, j, none⟩ = false
theorem RowT.below {w w' : World} {b : Nat} {l : List ByteArray} (h : RowT w b l) (hb : Below w.heap.size w w') : RowT w' b l :=
  fun j hj => ⟨below_cell hb (h j hj).1, (hb.frozen (p := ⟨b, j, none⟩) (lt_of_cell (h j hj).1)).trans (h j hj).2⟩
theorem RowT.set {w : World} {b : Nat} {l : List ByteArray} (h : RowT w b l) (k : Nat) (x : ByteArray) : RowT (w.setCell ⟨b, k, none⟩ (.string x)) b (l.set k x) := by
  intro j hj
  have hj' : j < l.length := by simpa using hj
  obtain ⟨h1, h2⟩ := h j hj'
  refine ⟨?_, by rw [World.frozen?_setCell]; exact h2⟩
  by_cases e : k = j
  · subst e
    rw [World.cell?_setCell_same _ _ _ h1]; simp
  · rw [World.cell?_setCell_other _ _ _ _ (by intro h; injection h; omega), h1]
    simp [e]
theorem info9 : (Tryz.prog.info? 9).map (fun i => (i.zero, i.size, i.bytes)) = some (some (.string ⟨#[]⟩), 1, 16) := by kernel_rfl
theorem made_texts (n : Nat) (h : n ≤ 1000) (w : World) : (Instr.makeSlice 82 (.int .i64 (n : Int)) (.int .i64 (n : Int))).run Tryz.prog w = .ok (.slice (some ⟨w.heap.size, 0, none⟩) n n) (w.alloc (.cells (madeCells #[.string ⟨#[]⟩] n) 9)) := by
  obtain ⟨i0, hi, hz0, hz1, hz2⟩ := info_parts info9
  have h := run_make w 82 9 i0 (.string ⟨#[]⟩) Tryz.underlying82 hi hz0 .i64 .i64 n n (by omega) (by omega) (by rw [hz2]; omega) (by omega)
  rw [hz1, Int.toNat_natCast, Nat.mul_one] at h
  exact h
theorem RowT.made (w : World) (n b : Nat) (hb : b = w.heap.size) : RowT (w.alloc (.cells (madeCells #[.string ⟨#[]⟩] n) 9)) b (List.replicate n ⟨#[]⟩) := by
  subst hb
  intro j hj
  have hj' : j < n := by simpa using hj
  refine ⟨?_, by simp⟩
  rw [World.cell?_alloc_at _ _ _ _ rfl]
  simp [madeCells, hj', Nat.mod_one]
/-- The texts xs, of which the first k have been laid. -/
def parts (xs : List ByteArray) (k : Nat) : List ByteArray := xs.mapIdx fun j x => if j < k then x else ⟨#[]⟩
theorem parts_length (xs : List ByteArray) (k : Nat) : (parts xs k).length = xs.length := by simp [parts]
theorem parts_zero (xs : List ByteArray) : parts xs 0 = List.replicate xs.length ⟨#[]⟩ := by
  apply List.ext_getElem
  · simp [parts]
  · intro i h1 h2; simp [parts]
theorem parts_all (xs : List ByteArray) : parts xs xs.length = xs := by
  apply List.ext_getElem
  · simp [parts]
  · intro i h1 h2; simp [parts]; omega
theorem parts_succ (xs : List ByteArray) (k : Nat) (h : k < xs.length) : parts xs (k + 1) = (parts xs k).set k xs[k] := by
  apply List.ext_getElem
  · simp [parts]
  · intro i h1 h2
    rw [List.getElem_set]
    simp only [parts, List.getElem_mapIdx]
    by_cases e : k = i
    · subst e; simp
    · rw [if_neg e]
      by_cases g : i < k
      · rw [if_pos g, if_pos (by omega)]
      · rw [if_neg g, if_neg (by omega)]
theorem join_le (xs : List (List UInt8)) (m : Nat) (h : ∀ x ∈ xs, x.length ≤ m) : (Lib.join xs [32]).length ≤ xs.length * (m + 1) := by
  cases xs with
  | nil => simp [Lib.join_nil]
  | cons x r =>
    rw [Lib.join_length]
    have : ∀ (ys : List (List UInt8)), (∀ y ∈ ys, y.length ≤ m) → Lib.lens ys ≤ ys.length * m := by
      intro ys
      induction ys with
      | nil => intro _; simp [Lib.lens]
      | cons y ys ih =>
        intro hy
        have h1 := hy y (by simp)
        have h2 := ih (fun z hz => hy z (by simp [hz]))
        simp only [Lib.lens, List.length_cons, Nat.add_mul, List.map_cons, List.sum_cons] at *
        omega
    have h3 := this (x :: r) h
    simp only [List.length_cons, List.length_nil, Nat.zero_add, Nat.one_mul, Nat.mul_add, Nat.mul_one] at *
    omega
theorem dig_le (n : Nat) (h : n < 18446744073709551616) : (Lib.decDigits n).length ≤ 20 := by
  rw [Lib.decDigits_length]
  by_cases h1 : 1 ≤ n
  · have := Lib.numDigits_eq n h1 h; split at this <;> omega
  · obtain rfl : n = 0 := by omega
    decide +kernel
/-- A pattern's text. -/
def txP (p : List Atm) : List UInt8 := if p = [] then [45] else Lib.join (p.map txA) [32]
def tx8 (p : List Atm) : List ByteArray := p.map fun a => ⟨(txA a).toArray⟩
theorem tx8_data (p : List Atm) : (tx8 p).map (·.data.toList) = p.map txA := by simp [tx8]
theorem txA_le (a : Atm) (h : a.2 < 4294967296) : (txA a).length ≤ 20 := by
  unfold txA
  split
  · simp
  · split
    · simp
    · exact dig_le _ (by omega)
theorem txj_le (p : List Atm) (h : ∀ a ∈ p, a.2 < 4294967296) (hl : p.length ≤ 64) : (Lib.join (p.map txA) [32]).length ≤ 10000 := by
  have := join_le (p.map txA) 20 (fun x hx => by
    obtain ⟨a, ha, rfl⟩ := List.mem_map.mp hx
    exact txA_le a (h a ha))
  rw [List.length_map] at this
  omega
/-- What stands in memory while a pattern is written. -/
structure TwAt (w wr : World) (xs : List ByteArray) (n b : Nat) : Prop where
  row : RowT wr b (parts xs n)
  bel : Below w.heap.size w wr
  lo : w.heap.size ≤ b
  hi : b < wr.heap.size
theorem TwAt.below {w wr w' : World} {xs : List ByteArray} {n b : Nat} (h : TwAt w wr xs n b) (hb : Below wr.heap.size wr w') : TwAt w w' xs n b :=
  ⟨h.row.below hb, h.bel.trans (hb.mono h.bel.size), h.lo, Nat.lt_of_lt_of_le h.hi hb.size⟩
theorem TwAt.next {w wr : World} {xs : List ByteArray} {n b : Nat} (h : TwAt w wr xs n b) (hn : n < xs.length) (x : ByteArray) (hx : xs[n] = x) : TwAt w (wr.setCell ⟨b, n, none⟩ (.string x)) xs (n + 1) b := by
  refine ⟨?_, h.bel.setCell h.lo _, h.lo, by simpa using h.hi⟩
  rw [parts_succ xs n hn, hx]; exact h.row.set n x
def TxOk (p : List Atm) (w : World) (e : Ending) (w' : World) : Prop :=
  e = (if okP p then .returned (.tuple #[.string ⟨(txP p).toArray⟩, .int .i64 0]) else .returned (.tuple #[.string ⟨#[]⟩, .int .i64 2])) ∧ Below w.heap.size w w'
set_option maxHeartbeats 4000000 in
theorem text_any (v : Value) (p : List Atm) (w : World) (hv : AtAt w v p) (hlen : p.length < 9223372036854775808) (hb : ∀ a ∈ p, a.2 < 4294967296) (hp : PowAt w) :
    Calls Tryz.prog 22 #[v] w (TxOk p w) := by
  have HK : Hid (_ : Prop) := mayPattern_any v p w hv hlen
  have HV : Hid (AtAt w v p) := hv
  have HP : Hid (PowAt w) := hp
  clear hp
  obtain ⟨ad, bb, off, cap, rfl, had, hcap, hrow⟩ := hv
  have HR : Hid (_ : Prop) := hrow
  clear hrow
  cases hz : okP p with
  | false =>
    have HF : Hid (∀ X, Below w.heap.size w X → TxOk p w (.returned (.tuple #[.string ⟨#[]⟩, .int .i64 2])) X) := fun X hX => ⟨by rw [hz]; rfl, hX⟩
    rw [hz] at HK
    clear hz
    go_enter Tryz.func22, Tryz.ntmps22
    go_wp2_with (go_at_call 53; refine Calls.mono HK.out ?_; rintro e w2 ⟨rfl, hb2⟩)
    go_ret2
    exact HF.out _ hb2
  | true =>
    have h64 : p.length ≤ 64 := by
      have h := hz
      unfold okP at h
      rw [Bool.and_eq_true, decide_eq_true_eq] at h
      exact h.1
    have HF : Hid (∀ X, Below w.heap.size w X → TxOk p w (.returned (.tuple #[.string ⟨(txP p).toArray⟩, .int .i64 0])) X) := fun X hX => ⟨by rw [hz]; rfl, hX⟩
    rw [hz] at HK
    clear hz
    by_cases he : p = []
    · subst he
      go_enter Tryz.func22, Tryz.ntmps22
      go_wp2_with (go_at_call 53; refine Calls.mono HK.out ?_; rintro e w2 ⟨rfl, hb2⟩)
      go_ret2
      exact HF.out _ hb2
    · have HT : Hid (txP p = Lib.join ((tx8 p).map (·.data.toList)) [32]) := by unfold Hid txP; rw [if_neg he, tx8_data]
      have HJ : Hid ((Lib.join ((tx8 p).map (·.data.toList)) [32]).length ≤ 10000) := by unfold Hid; rw [tx8_data]; exact txj_le p hb h64
      have hne : 0 < p.length := List.length_pos_iff.2 he
      obtain rfl : ad = some ⟨bb, off, none⟩ := by
        rcases had with h | h
        · exact h
        · omega
      have hl0 : ((p.length : Int) == 0) = false := by rw [beq_eq_false_iff_ne]; omega
      have HX8 : Hid (∀ k (h : k < p.length), (tx8 p)[k]'(by simpa [tx8] using h) = ⟨(txA p[k]).toArray⟩) := fun k h => by simp [tx8]
      have HL8 : Hid ((tx8 p).length = p.length) := by unfold Hid; simp [tx8]
      have hms := made_texts p.length (by omega)
      clear he
      go_enter Tryz.func22, Tryz.ntmps22
      go_wp2_with fail
      refine Calls.mono HK.out ?_
      rintro e w1 ⟨rfl, hb1⟩
      have HB1 : Hid (Below w.heap.size w w1) := hb1
      clear hb1 HK
      go_wp2
      have HS : Hid (TwAt w (w1.alloc (.cells (madeCells #[.string ⟨#[]⟩] p.length) 9)) (tx8 p) 0 w1.heap.size) := by
        have hbx := below_box w1 (.cells (madeCells #[.string ⟨#[]⟩] p.length) 9)
        refine ⟨?_, HB1.out.trans (hbx.mono HB1.out.size), HB1.out.size, by simp⟩
        rw [parts_zero, HL8.out]
        exact RowT.made w1 p.length _ rfl
      go_loopw [18] (fun x18 wr => ∃ k : Nat, x18 = .int .i64 k ∧ k ≤ p.length ∧ TwAt w wr (tx8 p) k w1.heap.size) (fun x18 _ => p.length - (intOf x18).toNat)
      case atStart => exact ⟨0, rfl, Nat.zero_le _, HS.out⟩
      case round =>
        obtain ⟨k, rfl, hk, hT⟩ := hrel
        have HTW : Hid (TwAt w wr (tx8 p) k w1.heap.size) := hT
        clear hT
        by_cases hlt : k < p.length
        · have c0 := below_cell HTW.out.bel (HR.out k hlt).1
          have c1 := below_cell HTW.out.bel (HR.out k hlt).2
          have hbx := below_box wr (.cells #[.int .i64 p[k].1, .int .u32 (p[k].2 : Int)] 53)
          have HT2 : Hid (TwAt w _ (tx8 p) k w1.heap.size) := HTW.out.below hbx
          have HKA : Hid (Calls Tryz.prog 54 #[.agg #[.int .i64 p[k].1, .int .u32 (p[k].2 : Int)]] (wr.alloc (.cells #[.int .i64 p[k].1, .int .u32 (p[k].2 : Int)] 53)) _) := atomText_any p[k] _ (hb _ (List.getElem_mem hlt)) ((HP.out.below HTW.out.bel).below hbx)
          have HX : Hid ((tx8 p)[k]'(by rw [HL8.out]; exact hlt) = ⟨(txA p[k]).toArray⟩) := HX8.out k hlt
          clear hbx HTW
          generalize txA p[k] = tx at *
          generalize p[k].1 = ak at *
          generalize p[k].2 = an at *
          go_wp2_with fail
          refine Calls.mono HKA.out ?_
          rintro e w3 ⟨rfl, hb3⟩
          have HT3 : Hid (TwAt w w3 (tx8 p) k w1.heap.size) := HT2.out.below hb3
          have hlk : k < (parts (tx8 p) k).length := by rw [parts_length, HL8.out]; exact hlt
          obtain ⟨d0, d1⟩ := HT3.out.row k hlk
          have HN : Hid (TwAt w (w3.setCell ⟨w1.heap.size, k, none⟩ (.string ⟨tx.toArray⟩)) (tx8 p) (k + 1) w1.heap.size) := HT3.out.next (by rw [HL8.out]; exact hlt) _ HX.out
          clear hb3 HT2 HKA c0 c1 HX
          go_wp2
          go_roundw
          case rel => exact ⟨k + 1, by go_num, by omega, HN.out⟩
          case measure => simp [intOf]; omega
        · obtain rfl : k = p.length := by omega
          have HRW := HTW.out.row
          rw [← HL8.out, parts_all] at HRW
          have HJN : Hid (Calls Tryz.prog 55 #[.slice (some ⟨w1.heap.size, 0, none⟩) p.length p.length, .string ⟨#[32]⟩] wr fun e w' => e = .returned (.string ⟨(Lib.join ((tx8 p).map (·.data.toList)) [32]).toArray⟩) ∧ Below wr.heap.size wr w') := by
            have h := Tryz.strings_Join w1.heap.size 0 (tx8 p).length (tx8 p) ⟨#[32]⟩ wr (fun j x hj => by
              obtain ⟨hj1, hj2⟩ := List.getElem?_eq_some_iff.1 hj
              rw [Nat.zero_add, ← hj2]
              exact (HRW j hj1).1) HTW.out.hi (by rw [HL8.out]; omega) (Nat.le_refl _) (by have := HJ.out; exact Nat.le_trans this (by decide))
            rw [HL8.out] at h
            exact h
          clear HRW
          rw [← HT.out] at HJN
          generalize txP p = tp at *
          go_wp2_with (go_at_call 55; refine Calls.mono HJN.out ?_; rintro e w3 ⟨rfl, hb3⟩)
          go_ret2
          exact HF.out _ (HTW.out.bel.trans (hb3.mono HTW.out.bel.size))
end Go.Proofs.YtjchobcmbkiilaaGreatDoor
