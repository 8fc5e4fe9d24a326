/-
  The example that closes every statement: works.
-/
import Derived.Test.YtfhbgpepkplbaaaGreatDoorPW
import Derived.Test.YtfhbgpepkplbaaaGreatDoorE3
import Derived.BigQuiet
namespace Go.Proofs.YtfhbgpepkplbaaaGreatDoor
open Go.RowKit
def nW : Nl := ⟨4, 7, ⟨#[10, 0, 0, 0]⟩, 8, 0, 1000⟩
def bW : List UInt8 := [96, 0, 62, 129, 0, 0, 0, 0, 0, 0, 0, 7, 10]
theorem encW : encAns 4 false [nW] = .returned (.tuple #[.string ⟨#[96, 0, 62, 129, 0, 0, 0, 0, 0, 0, 0, 7, 10]⟩, .int .i64 0]) := by kernel_rfl
theorem decW : decI 4 false 13 bW = some [nW] := by kernel_rfl
theorem wfW : ∀ n ∈ [nW], NlWf n := by
  intro n hn
  obtain rfl : n = nW := by simpa using hn
  exact ⟨by decide, by decide, by decide, by decide, by decide, by decide, by decide⟩
set_option maxRecDepth 100000 in
theorem of_W (w : World) (h : Tabs w) :
    Calls Tryz.prog 22 #[.string ⟨#[118, 112, 110, 52, 32, 55, 32, 49, 48, 46, 48, 46, 48, 46, 48, 47, 56]⟩, .int .u32 0, .int .u32 1000] w fun e w' => e = .returned (.agg #[.int .i64 4, .int .u64 7, .string ⟨#[10, 0, 0, 0]⟩, .int .i64 8, .int .u32 0, .int .u32 1000]) ∧ Below w.heap.size w w' := by
  have hba : Below w.heap.size w (w.alloc (.cells #[.int .i64 0, .int .u64 0, .string ⟨#[]⟩, .int .i64 0, .int .u32 0, .int .u32 0] 27)) := (Below.refl _ _).alloc (Nat.le_refl _) _
  have HK : Hid (_ : Prop) := parse_W _ (h.below hba)
  have HBA : Hid (Below _ _ _) := hba
  clear hba h
  go_enter Tryz.func22, Tryz.ntmps22
  go_wp2_with fail
  refine Calls.mono HK.out ?_
  rintro e w1 ⟨rfl, hb1⟩
  have hs : (w.alloc (.cells #[.int .i64 0, .int .u64 0, .string ⟨#[]⟩, .int .i64 0, .int .u32 0, .int .u32 0] 27)).heap.size = w.heap.size + 1 := by simp
  have HB1 : Hid (Below w.heap.size w (w1.alloc (.cells #[.int .i64 4, .int .u64 7, .string ⟨#[10, 0, 0, 0]⟩, .int .i64 8] 24))) := (HBA.out.trans (hb1.mono (by omega))).alloc (Nat.le_trans HBA.out.size hb1.size) _
  have hb2 : Below (w.heap.size + 1) (w.alloc (.cells #[.int .i64 0, .int .u64 0, .string ⟨#[]⟩, .int .i64 0, .int .u32 0, .int .u32 0] 27)) (w1.alloc (.cells #[.int .i64 4, .int .u64 7, .string ⟨#[10, 0, 0, 0]⟩, .int .i64 8] 24)) := by
    rw [hs] at hb1
    exact hb1.alloc (by have := hb1.size; rw [hs] at this; exact this) _
  have z : ∀ i, i < 6 → (w1.alloc (.cells #[.int .i64 4, .int .u64 7, .string ⟨#[10, 0, 0, 0]⟩, .int .i64 8] 24)).frozen? ⟨w.heap.size, i, none⟩ = false := fun i _ => (hb2.frozen (p := ⟨w.heap.size, i, none⟩) (by simp)).trans (by simp)
  have z0 : (w1.alloc (.cells #[.int .i64 4, .int .u64 7, .string ⟨#[10, 0, 0, 0]⟩, .int .i64 8] 24)).cell? ⟨w.heap.size, 0, none⟩ = some (.int .i64 0) := (hb2.cell (p := ⟨w.heap.size, 0, none⟩) (by simp)).trans (by simp)
  have z1 : (w1.alloc (.cells #[.int .i64 4, .int .u64 7, .string ⟨#[10, 0, 0, 0]⟩, .int .i64 8] 24)).cell? ⟨w.heap.size, 1, none⟩ = some (.int .u64 0) := (hb2.cell (p := ⟨w.heap.size, 1, none⟩) (by simp)).trans (by simp)
  have z2 : (w1.alloc (.cells #[.int .i64 4, .int .u64 7, .string ⟨#[10, 0, 0, 0]⟩, .int .i64 8] 24)).cell? ⟨w.heap.size, 2, none⟩ = some (.string ⟨#[]⟩) := (hb2.cell (p := ⟨w.heap.size, 2, none⟩) (by simp)).trans (by simp)
  have z3 : (w1.alloc (.cells #[.int .i64 4, .int .u64 7, .string ⟨#[10, 0, 0, 0]⟩, .int .i64 8] 24)).cell? ⟨w.heap.size, 3, none⟩ = some (.int .i64 0) := (hb2.cell (p := ⟨w.heap.size, 3, none⟩) (by simp)).trans (by simp)
  have z4 : (w1.alloc (.cells #[.int .i64 4, .int .u64 7, .string ⟨#[10, 0, 0, 0]⟩, .int .i64 8] 24)).cell? ⟨w.heap.size, 4, none⟩ = some (.int .u32 0) := (hb2.cell (p := ⟨w.heap.size, 4, none⟩) (by simp)).trans (by simp)
  have z5 : (w1.alloc (.cells #[.int .i64 4, .int .u64 7, .string ⟨#[10, 0, 0, 0]⟩, .int .i64 8] 24)).cell? ⟨w.heap.size, 5, none⟩ = some (.int .u32 0) := (hb2.cell (p := ⟨w.heap.size, 5, none⟩) (by simp)).trans (by simp)
  have y0 := z 0 (by omega)
  have y1 := z 1 (by omega)
  have y2 := z 2 (by omega)
  have y3 := z 3 (by omega)
  have y4 := z 4 (by omega)
  have y5 := z 5 (by omega)
  clear hb1 hb2 z HBA hs
  go_wp2
  refine bodyPost_ret (v := .agg #[.int .i64 4, .int .u64 7, .string ⟨#[10, 0, 0, 0]⟩, .int .i64 8, .int .u32 0, .int .u32 1000]) (by simp [results, Tryz.results22, go_sem, z0, z1, z2, z3, z4, z5]) rfl ⟨rfl, ?_⟩
  exact (((((HB1.out.setCell (Nat.le_refl _) _).setCell (Nat.le_refl _) _).setCell (Nat.le_refl _) _).setCell (Nat.le_refl _) _).setCell (Nat.le_refl _) _).setCell (Nat.le_refl _) _
set_option maxRecDepth 100000 in
set_option maxHeartbeats 3200000 in
theorem works_any (w : World) (h : Tabs w) : Calls Tryz.prog 13 #[] w fun e w' => e = .returned (.bool true) ∧ Below w.heap.size w w' := by
  have HT : Hid (Tabs w) := h
  clear h
  go_enter Tryz.func13, Tryz.ntmps13
  go_wp2_with fail
  refine (of_W w HT.out).mono ?_
  rintro e w1 ⟨rfl, hb1⟩
  obtain ⟨C, hC⟩ : ∃ C : Array Value, C = #[.int .i64 4, .int .u64 7, .string ⟨#[10, 0, 0, 0]⟩, .int .i64 8, .int .u32 0, .int .u32 1000] := ⟨_, rfl⟩
  have HB2 : Hid (Below w.heap.size w ((w1.alloc (.cells #[.int .i64 4, .int .u64 7, .string ⟨#[10, 0, 0, 0]⟩, .int .i64 8, .int .u32 0, .int .u32 1000] 27)).alloc (.cells #[.int .i64 4, .int .u64 7, .string ⟨#[10, 0, 0, 0]⟩, .int .i64 8, .int .u32 0, .int .u32 1000] 27))) := (hb1.alloc hb1.size _).alloc (Nat.le_trans hb1.size (by simp)) _
  have h1 : ((w1.alloc (.cells #[.int .i64 4, .int .u64 7, .string ⟨#[10, 0, 0, 0]⟩, .int .i64 8, .int .u32 0, .int .u32 1000] 27)).alloc (.cells #[.int .i64 4, .int .u64 7, .string ⟨#[10, 0, 0, 0]⟩, .int .i64 8, .int .u32 0, .int .u32 1000] 27)).heap[w1.heap.size]? = some (.cells #[.int .i64 4, .int .u64 7, .string ⟨#[10, 0, 0, 0]⟩, .int .i64 8, .int .u32 0, .int .u32 1000] 27 (0, 0)) := by
    show ((w1.heap.push _).push _)[w1.heap.size]? = _
    rw [Array.getElem?_push, if_neg (by simp), Array.getElem?_push, if_pos rfl]
  have h2 : ((w1.alloc (.cells #[.int .i64 4, .int .u64 7, .string ⟨#[10, 0, 0, 0]⟩, .int .i64 8, .int .u32 0, .int .u32 1000] 27)).alloc (.cells #[.int .i64 4, .int .u64 7, .string ⟨#[10, 0, 0, 0]⟩, .int .i64 8, .int .u32 0, .int .u32 1000] 27)).heap[w1.heap.size + 1]? = some (.cells #[.int .i64 4, .int .u64 7, .string ⟨#[10, 0, 0, 0]⟩, .int .i64 8, .int .u32 0, .int .u32 1000] 27 (0, 0)) := by
    show ((w1.heap.push _).push _)[w1.heap.size + 1]? = _
    rw [Array.getElem?_push, if_pos (by simp)]
  have HE : Hid (∀ W, Below w.heap.size w W → W.heap[w1.heap.size + 1]? = some (.cells #[.int .i64 4, .int .u64 7, .string ⟨#[10, 0, 0, 0]⟩, .int .i64 8, .int .u32 0, .int .u32 1000] 27 (0, 0)) → Calls Tryz.prog 15 #[.slice (some ⟨w1.heap.size + 1, 0, none⟩) 1 1, .int .i64 4, .bool false] W fun e w' => e = .returned (.tuple #[.string ⟨#[96, 0, 62, 129, 0, 0, 0, 0, 0, 0, 0, 7, 10]⟩, .int .i64 0]) ∧ Below W.heap.size W w') := fun W hW hh => by
    have hx := encode_any 4 false (.slice (some ⟨w1.heap.size + 1, 0, none⟩) 1 1) [nW] W (HT.out.below hW).sizes (HT.out.below hW).rds (by decide) ⟨some ⟨w1.heap.size + 1, 0, none⟩, w1.heap.size + 1, 0, 1, rfl, Or.inl rfl, by decide, fun j hj => by
      obtain rfl : j = 0 := by simp at hj; exact hj
      exact ⟨cell_row hh rfl, cell_row hh rfl, cell_row hh rfl, cell_row hh rfl, cell_row hh rfl, cell_row hh rfl⟩⟩ wfW (by decide)
    rw [encW] at hx
    exact hx
  have HD : Hid (∀ W, Below w.heap.size w W → Calls Tryz.prog 20 #[.string ⟨#[96, 0, 62, 129, 0, 0, 0, 0, 0, 0, 0, 7, 10]⟩, .int .i64 4, .bool false] W fun e w' => DecOk (some [nW]) W e w') := fun W hW => by
    have hx := decode_any 4 false bW W (HT.out.below hW).sizes (by decide) (by decide)
    rw [show bW.length = 13 from rfl, decW] at hx
    exact hx
  clear hb1 HT hC
  have H12 : Hid (_ ∧ _) := ⟨h1, h2⟩
  clear h1 h2
  go_wp2_with fail
  refine Calls.mono (HE.out _ HB2.out H12.out.2) ?_
  rintro e w3 ⟨rfl, hb3⟩
  have HB3 : Hid (Below w.heap.size w w3) := HB2.out.trans (hb3.mono HB2.out.size)
  have k1 : w3.heap[w1.heap.size]? = some (.cells #[.int .i64 4, .int .u64 7, .string ⟨#[10, 0, 0, 0]⟩, .int .i64 8, .int .u32 0, .int .u32 1000] 27 (0, 0)) := (hb3.block _ (Array.getElem?_eq_some_iff.mp H12.out.1).1).trans H12.out.1
  have K1 : Hid (_ = _) := k1
  clear hb3 k1 H12 HE HB2
  go_wp2_with fail
  refine Calls.mono (HD.out _ HB3.out) ?_
  rintro e w4 ⟨hb4, v4, rfl, ho4⟩
  have HB4 : Hid (Below w.heap.size w w4) := HB3.out.trans (hb4.mono HB3.out.size)
  have k4 : w4.heap[w1.heap.size]? = some (.cells #[.int .i64 4, .int .u64 7, .string ⟨#[10, 0, 0, 0]⟩, .int .i64 8, .int .u32 0, .int .u32 1000] 27 (0, 0)) := (hb4.block _ (Array.getElem?_eq_some_iff.mp K1.out).1).trans K1.out
  obtain ⟨ad, b, off, cap, rfl, had, _, hrow⟩ := ho4.at
  obtain rfl : ad = some ⟨b, off, none⟩ := by rcases had with h | h; exact h; exact absurd h (by decide)
  obtain ⟨c0, c1, c2, c3, c4, c5⟩ := hrow 0 (by decide)
  simp only [List.getElem_cons_zero, Nat.zero_mul, Nat.add_zero, nW, List.length_cons, List.length_nil] at c0 c1 c2 c3 c4 c5 ⊢
  have d0 : w4.cell? ⟨w1.heap.size, 0, none⟩ = some (.int .i64 4) := cell_row k4 rfl
  have d1 : w4.cell? ⟨w1.heap.size, 1, none⟩ = some (.int .u64 7) := cell_row k4 rfl
  have d2 : w4.cell? ⟨w1.heap.size, 2, none⟩ = some (.string ⟨#[10, 0, 0, 0]⟩) := cell_row k4 rfl
  have d3 : w4.cell? ⟨w1.heap.size, 3, none⟩ = some (.int .i64 8) := cell_row k4 rfl
  have d4 : w4.cell? ⟨w1.heap.size, 4, none⟩ = some (.int .u32 0) := cell_row k4 rfl
  have d5 : w4.cell? ⟨w1.heap.size, 5, none⟩ = some (.int .u32 1000) := cell_row k4 rfl
  clear hb4 ho4 hrow k4 K1 HD HB3 had
  generalize w1.heap.size = q at *
  go_wp2
  go_quiet (fail)
  go_wp2
  go_ret
  exact ⟨rfl, below_drewN HB4.out _⟩
end Go.Proofs.YtfhbgpepkplbaaaGreatDoor
