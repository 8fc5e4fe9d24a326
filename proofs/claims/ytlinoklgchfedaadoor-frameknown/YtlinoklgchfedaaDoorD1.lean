/-
  The example that closes every statement: works.
-/
import Derived.Test.YtlinoklgchfedaaDoorB8
import Derived.Test.YtlinoklgchfedaaDoorB6
import Derived.Test.YtlinoklgchfedaaDoorC3
namespace Go.Proofs.YtlinoklgchfedaaDoor
open Go.RowKit
def k5 : List UInt8 := [255, 255, 255, 255, 255]
def k14 : List UInt8 := [255, 255, 255, 255, 255, 255, 255, 255, 255, 255, 255, 0, 19, 4]
def keepL : List UInt8 := [255, 255, 255, 255, 255, 255, 255, 255, 255, 255, 255, 255, 255, 255, 255, 255, 0, 19, 4]
theorem run_k5 : runI st0 k5 = (⟨k5, 0⟩, []) := by kernel_rfl
theorem run_k14 : runI ⟨k5, 0⟩ k14 = (st0, [⟨4, []⟩]) := by kernel_rfl
theorem make_keep : mkAns 4 [] = .returned (.tuple #[.string ⟨keepL.toArray⟩, .int .i64 0]) := by kernel_rfl
theorem put_fine (p b : Nat) (s s' : St) (c : List UInt8) (R : List Fm) (w : World) (h : FrAt w p b s) (hs : SzAt w) (hp0 : 0 < p) (hb0 : 0 < b) (hl : c.length ≤ 1000000) (hr : runI s c = (s', R)) (h0 : s'.sub = 0) :
    Calls Tryd.prog 9 #[.pointer (some ⟨p, 0, none⟩), .string ⟨c.toArray⟩] w fun e w' => ∃ ad cp, e = .returned (.tuple #[.slice ad R.length cp, .agg #[.int .i64 0, .int .u8 0, .int .u8 0]]) ∧ OwnF w' w.heap.size (.slice ad R.length cp) R ∧ FrAt w' p b s' ∧ Beside p b w w' := by
  have k := put_any p b s c w h hs hp0 hb0 hl
  rw [hr] at k
  refine k.mono ?_
  rintro e w' ⟨v, rfl, ho, hf, hb⟩
  obtain ⟨ad, cp, rfl⟩ := slice_of_owns ho
  refine ⟨ad, cp, ?_, ho, hf, hb⟩
  show Ending.returned (.tuple #[_, verV s'.sub]) = _
  rw [h0]
  rfl
theorem put_wrong (p b : Nat) (s s' : St) (c : List UInt8) (R : List Fm) (w : World) (h : FrAt w p b s) (hs : SzAt w) (hp0 : 0 < p) (hb0 : 0 < b) (hl : c.length ≤ 1000000) (hr : runI s c = (s', R)) (h0 : s'.sub ≠ 0) :
    Calls Tryd.prog 9 #[.pointer (some ⟨p, 0, none⟩), .string ⟨c.toArray⟩] w fun e w' => ∃ ad cp, e = .returned (.tuple #[.slice ad R.length cp, .agg #[.int .i64 3, .int .u8 1, .int .u8 (s'.sub : Int)]]) ∧ OwnF w' w.heap.size (.slice ad R.length cp) R ∧ FrAt w' p b s' ∧ Beside p b w w' := by
  have k := put_any p b s c w h hs hp0 hb0 hl
  rw [hr] at k
  refine k.mono ?_
  rintro e w' ⟨v, rfl, ho, hf, hb⟩
  obtain ⟨ad, cp, rfl⟩ := slice_of_owns ho
  refine ⟨ad, cp, ?_, ho, hf, hb⟩
  show Ending.returned (.tuple #[_, verV s'.sub]) = _
  simp only [verV, vaI, vcI, if_neg h0]
set_option maxRecDepth 100000 in
set_option maxHeartbeats 1600000 in
theorem works_any (w : World) (hs : SzAt w) : Calls Tryd.prog 13 #[] w fun e w' => e = .returned (.bool true) ∧ Below w.heap.size w w' := by
  have HZ : Hid (SzAt w) := hs
  have HW0 : Hid (0 < w.heap.size) := hs.lt
  clear hs
  go_enter Tryd.func13, Tryd.ntmps13
  go_wp2_with fail
  refine (new_any w).mono ?_
  rintro e w1 ⟨p, b, rfl, hf1, hb1, hp, hb⟩
  have HF1 : Hid (FrAt w1 p b st0) := hf1
  have HB1 : Hid (Below w.heap.size w w1) := hb1
  have HPB : Hid (w.heap.size ≤ p ∧ w.heap.size ≤ b) := ⟨hp, hb⟩
  clear hf1 hb1 hp hb
  go_wp2_with fail
  refine (put_fine p b st0 ⟨k5, 0⟩ k5 [] w1 HF1.out (HZ.out.below HB1.out) (by have := HW0.out; have := HPB.out; omega) (by have := HW0.out; have := HPB.out; omega) (by decide) run_k5 rfl).mono ?_
  rintro e w2 ⟨ad2, cp2, rfl, ho2, hf2, hbs2⟩
  have hba2 : Below w2.heap.size w2 (w2.alloc (.cells #[.int .i64 0, .int .u8 0, .int .u8 0] 27)) := (Below.refl _ _).alloc (Nat.le_refl _) _
  have HF2 : Hid (FrAt (w2.alloc (.cells #[.int .i64 0, .int .u8 0, .int .u8 0] 27)) p b ⟨k5, 0⟩) := hf2.below hba2 hf2.ltp hf2.buf.lt
  have HS2 : Hid (Beside p b w1 (w2.alloc (.cells #[.int .i64 0, .int .u8 0, .int .u8 0] 27))) := hbs2.then hba2
  have HR2 : Hid ((w2.alloc (.cells #[.int .i64 0, .int .u8 0, .int .u8 0] 27)).heap[w2.heap.size]? = some (.cells #[.int .i64 0, .int .u8 0, .int .u8 0] 27 (0, 0))) := hp_new rfl
  have HL2 : Hid (p < w2.heap.size ∧ b < w2.heap.size) := ⟨hf2.ltp, hf2.buf.lt⟩
  have HN2 : Hid ((w2.alloc (.cells #[.int .i64 0, .int .u8 0, .int .u8 0] 27)).heap.size = w2.heap.size + 1) := by unfold Hid; simp
  clear hf2 hbs2 hba2 ho2
  simp only [List.length_nil]
  go_wp2_with fail
  have HZ2 : Hid (SzAt (w2.alloc (.cells #[.int .i64 0, .int .u8 0, .int .u8 0] 27))) := (HZ.out.below HB1.out).beside HS2.out (by have := HW0.out; have := HPB.out; omega) (by have := HW0.out; have := HPB.out; omega)
  generalize w2.alloc (.cells #[.int .i64 0, .int .u8 0, .int .u8 0] 27) = V2 at *
  refine (put_fine p b ⟨k5, 0⟩ st0 k14 [⟨4, []⟩] V2 HF2.out HZ2.out (by have := HW0.out; have := HPB.out; omega) (by have := HW0.out; have := HPB.out; omega) (by decide) run_k14 rfl).mono ?_
  rintro e w3 ⟨ad3, cp3, rfl, ho3, hf3, hbs3⟩
  have hba3 : Below w3.heap.size w3 (w3.alloc (.cells #[.int .i64 0, .int .u8 0, .int .u8 0] 27)) := (Below.refl _ _).alloc (Nat.le_refl _) _
  have HS3 : Hid (Beside p b w1 (w3.alloc (.cells #[.int .i64 0, .int .u8 0, .int .u8 0] 27))) := (HS2.out.trans hbs3).then hba3
  have HR3 : Hid ((w3.alloc (.cells #[.int .i64 0, .int .u8 0, .int .u8 0] 27)).heap[w3.heap.size]? = some (.cells #[.int .i64 0, .int .u8 0, .int .u8 0] 27 (0, 0))) := hp_new rfl
  have HR23 : Hid ((w3.alloc (.cells #[.int .i64 0, .int .u8 0, .int .u8 0] 27)).heap[w2.heap.size]? = some (.cells #[.int .i64 0, .int .u8 0, .int .u8 0] 27 (0, 0))) := hp_up ((hbs3.block _ (by have := HN2.out; omega) (by have := HL2.out; omega) (by have := HL2.out; omega)).trans HR2.out)
  have HO3 : Hid (OwnF (w3.alloc (.cells #[.int .i64 0, .int .u8 0, .int .u8 0] 27)) V2.heap.size (.slice ad3 1 cp3) [⟨4, []⟩]) := owns_below ho3 hba3
  have HZ3 : Hid (SzAt (w3.alloc (.cells #[.int .i64 0, .int .u8 0, .int .u8 0] 27))) := (HZ.out.below HB1.out).beside HS3.out (by have := HW0.out; have := HPB.out; omega) (by have := HW0.out; have := HPB.out; omega)
  clear hf3 hbs3 hba3 ho3 HF2 HR2 HZ2
  simp only [List.length_cons, List.length_nil]
  go_wp2_with fail
  generalize w3.alloc (.cells #[.int .i64 0, .int .u8 0, .int .u8 0] 27) = V3 at *
  have KM : Hid (_ : Prop) := make_any 4 [] V3 HZ3.out (by decide)
  rw [make_keep] at KM
  refine Calls.mono KM.out ?_
  rintro e w4 ⟨rfl, hb4⟩
  have HS4 : Hid (Beside p b w1 w4) := HS3.out.then hb4
  have HR4 : Hid (w4.heap[w3.heap.size]? = some (.cells #[.int .i64 0, .int .u8 0, .int .u8 0] 27 (0, 0))) := (hb4.block _ (Array.getElem?_eq_some_iff.mp HR3.out).1).trans HR3.out
  have HR24 : Hid (w4.heap[w2.heap.size]? = some (.cells #[.int .i64 0, .int .u8 0, .int .u8 0] 27 (0, 0))) := (hb4.block _ (Array.getElem?_eq_some_iff.mp HR23.out).1).trans HR23.out
  have HO4 : Hid (OwnF w4 V2.heap.size (.slice ad3 1 cp3) [⟨4, []⟩]) := owns_below HO3.out hb4
  have a0 : w4.cell? ⟨w2.heap.size, 0, none⟩ = some (.int .i64 0) := cl_row HR24.out rfl
  have a1 : w4.cell? ⟨w2.heap.size, 1, none⟩ = some (.int .u8 0) := cl_row HR24.out rfl
  have a2 : w4.cell? ⟨w2.heap.size, 2, none⟩ = some (.int .u8 0) := cl_row HR24.out rfl
  have b0 : w4.cell? ⟨w3.heap.size, 0, none⟩ = some (.int .i64 0) := cl_row HR4.out rfl
  have b1 : w4.cell? ⟨w3.heap.size, 1, none⟩ = some (.int .u8 0) := cl_row HR4.out rfl
  have b2 : w4.cell? ⟨w3.heap.size, 2, none⟩ = some (.int .u8 0) := cl_row HR4.out rfl
  obtain ⟨ad, bb, off, cap, hsl, had, _, hrow⟩ := HO4.out.at
  obtain ⟨rfl, _, rfl⟩ : ad3 = ad ∧ 1 = 1 ∧ cp3 = cap := by
    simp only [Value.slice.injEq] at hsl
    exact ⟨hsl.1, rfl, hsl.2.2⟩
  obtain rfl : ad3 = some ⟨bb, off, none⟩ := by rcases had with h | h; exact h; exact absurd h (by decide)
  obtain ⟨x0, x1⟩ := hrow 0 (by decide)
  simp only [List.getElem_cons_zero, Nat.zero_mul, Nat.add_zero] at x0 x1
  clear hb4 KM hrow had hsl HO3 HO4 HR3 HR23
  go_wp2
  go_ret
  exact ⟨rfl, HB1.out.trans (HS4.out.below HPB.out.1 HPB.out.2 HB1.out.size)⟩
end Go.Proofs.YtlinoklgchfedaaDoor
