/-
  The example that closes every statement: works.
-/
import Derived.Test.YtjliopclpjeieaaDoorFE5
import Derived.Deep.RegionHeld3
import Derived.BigQuiet
namespace Go.Proofs.YtjliopclpjeieaaDoor
open Go.RowKit
/-- The table of families lies as it was laid. -/
structure Tb (w : World) : Prop where
  sizes : FamSizes w
  rds : FamRds w
theorem Tb.below {w w' : World} (h : Tb w) (hb : Below w.heap.size w w') : Tb w' := ⟨h.sizes.below hb, h.rds.below hb⟩
theorem ten_any (f : Int) (w : World) : Calls Tryd.prog 26 #[.int .i64 f] w fun e w' => e = .returned (.agg #[.int .i64 f, .int .u64 0, .string ⟨#[10, 0, 0, 0]⟩, .int .i64 8, .int .u32 0, .int .u32 0]) ∧ Below w.heap.size w w' := by
  go_enter Tryd.func26, Tryd.ntmps26
  go_wp2
  exact bodyPost_ret (v := .agg #[.int .i64 f, .int .u64 0, .string ⟨#[10, 0, 0, 0]⟩, .int .i64 8, .int .u32 0, .int .u32 0]) (by simp [results, Tryd.results26, go_sem]) rfl ⟨rfl, (Below.refl _ _).alloc (Nat.le_refl _) _⟩
def nT (f : Int) : Nl := ⟨f, 0, ⟨#[10, 0, 0, 0]⟩, 8, 0, 0⟩
def hT : List UInt8 := [10, 0, 0, 1]
def bT : List UInt8 := [0, 1, 1, 4, 10, 0, 0, 1, 0, 8, 10]
theorem putT : putAns (headL 1 hT) 1 false [nT 1] = .returned (.tuple #[.string ⟨bT.toArray⟩, .int .i64 0]) := by kernel_rfl
theorem tkT : tkI [] bT = .ok (1, hT, [nT 1]) := by kernel_rfl
theorem wfT (f : Int) : ∀ n ∈ [nT f], NlWf n := by
  intro n hn
  obtain rfl : n = nT f := by simpa using hn
  constructor <;> simp [nT, maxLen, ByteArray.size]
theorem ints_nil (w : World) : IntsAt w (.slice none 0 0) [] := ⟨none, 0, 0, 0, rfl, Or.inr rfl, Nat.le_refl _, fun j hj => absurd hj (by simp)⟩
set_option maxRecDepth 100000 in
set_option maxHeartbeats 3200000 in
theorem works_any (w : World) (h : Tb w) : Calls Tryd.prog 13 #[] w fun e w' => e = .returned (.bool true) ∧ Below w.heap.size w w' := by
  have HT : Hid (Tb w) := h
  clear h
  go_enter Tryd.func13, Tryd.ntmps13
  go_wp2_with fail
  refine (ten_any 1 w).mono ?_
  rintro e w1 ⟨rfl, hb1⟩
  have HB2 : Hid (Below w.heap.size w (w1.alloc (.cells #[.int .i64 1, .int .u64 0, .string ⟨#[10, 0, 0, 0]⟩, .int .i64 8, .int .u32 0, .int .u32 0] 46))) := hb1.alloc hb1.size _
  have H2 : Hid ((w1.alloc (.cells #[.int .i64 1, .int .u64 0, .string ⟨#[10, 0, 0, 0]⟩, .int .i64 8, .int .u32 0, .int .u32 0] 46)).heap[w1.heap.size]? = _) := hp_new rfl
  have HE : Hid (∀ W, Below w.heap.size w W → W.heap[w1.heap.size]? = some (.cells #[.int .i64 1, .int .u64 0, .string ⟨#[10, 0, 0, 0]⟩, .int .i64 8, .int .u32 0, .int .u32 0] 46 (0, 0)) → Calls Tryd.prog 15 #[.int .i64 1, .string ⟨#[10, 0, 0, 1]⟩, .slice (some ⟨w1.heap.size, 0, none⟩) 1 1, .bool false] W fun e w' => e = .returned (.tuple #[.string ⟨#[0, 1, 1, 4, 10, 0, 0, 1, 0, 8, 10]⟩, .int .i64 0]) ∧ Below W.heap.size W w') := fun W hW hh => by
    have hx := put_any' 1 hT (.slice (some ⟨w1.heap.size, 0, none⟩) 1 1) false [nT 1] W rfl (HT.out.below hW).sizes (HT.out.below hW).rds ⟨some ⟨w1.heap.size, 0, none⟩, w1.heap.size, 0, 1, rfl, Or.inl rfl, by decide, fun j hj => by
      obtain rfl : j = 0 := by simp at hj; exact hj
      exact ⟨cl_row hh rfl, cl_row hh rfl, cl_row hh rfl, cl_row hh rfl, cl_row hh rfl, cl_row hh rfl⟩⟩ (wfT 1) (by decide)
    rw [putT] at hx
    exact hx
  have HD : Hid (∀ W, Below w.heap.size w W → Calls Tryd.prog 20 #[.string ⟨#[0, 1, 1, 4, 10, 0, 0, 1, 0, 8, 10]⟩, .slice none 0 0] W fun e w' => TakeOk8 (.ok (1, [10, 0, 0, 1], [nT 1])) W e w') := fun W hW => by
    have hx := take_any8 bT (.slice none 0 0) [] W (HT.out.below hW).sizes (ints_nil W) (by simp) (by decide)
    rw [tkT] at hx
    exact hx
  clear hb1 HT
  go_wp2_with fail
  refine Calls.mono (HE.out _ HB2.out H2.out) ?_
  rintro e w3 ⟨rfl, hb3⟩
  have HB3 : Hid (Below w.heap.size w w3) := HB2.out.trans (hb3.mono HB2.out.size)
  clear hb3 H2 HE HB2
  go_wp2_with fail
  refine Calls.mono (HD.out _ HB3.out) ?_
  rintro e w4 ⟨hb4, v4, rfl, ho4⟩
  have HB4 : Hid (Below w.heap.size w w4) := HB3.out.trans (hb4.mono HB3.out.size)
  obtain ⟨ad, b, off, cap, rfl, had, _, hrow⟩ := ho4.at
  obtain rfl : ad = some ⟨b, off, none⟩ := by rcases had with h | h; exact h; exact absurd h (by decide)
  obtain ⟨c0, c1, c2, c3, c4, c5⟩ := hrow 0 (by decide)
  simp only [List.getElem_cons_zero, Nat.zero_mul, Nat.add_zero, nT, List.length_cons, List.length_nil] at c0 c1 c2 c3 c4 c5 ⊢
  clear hb4 ho4 hrow HD HB3 had
  go_wp2
  have hlt : b < w4.heap.size := lt_of_cell c0
  go_region_held (fun w' => w'.cell? ⟨b, off, none⟩ = some (.int .i64 1) ∧ w'.cell? ⟨b, off + 1, none⟩ = some (.int .u64 0) ∧ w'.cell? ⟨b, off + 2, none⟩ = some (.string ⟨#[10, 0, 0, 0]⟩) ∧ w'.cell? ⟨b, off + 3, none⟩ = some (.int .i64 8) ∧ w'.cell? ⟨b, off + 4, none⟩ = some (.int .u32 0) ∧ w'.cell? ⟨b, off + 5, none⟩ = some (.int .u32 0)) (go_keep)
    (first | (go_at_call 26; refine (ten_any 1 _).mono ?_; rintro e w5 ⟨rfl, hb5⟩; have q0 := (hb5.cell (p := ⟨b, off, none⟩) hlt).trans c0; have q1 := (hb5.cell (p := ⟨b, off + 1, none⟩) hlt).trans c1; have q2 := (hb5.cell (p := ⟨b, off + 2, none⟩) hlt).trans c2; have q3 := (hb5.cell (p := ⟨b, off + 3, none⟩) hlt).trans c3; have q4 := (hb5.cell (p := ⟨b, off + 4, none⟩) hlt).trans c4; have q5 := (hb5.cell (p := ⟨b, off + 5, none⟩) hlt).trans c5))
  all_goals go_wp2
  all_goals go_ret
  all_goals exact ⟨rfl, (below_drewN HB4.out 1).trans (hb5.mono HB4.out.size)⟩
end Go.Proofs.YtjliopclpjeieaaDoor
