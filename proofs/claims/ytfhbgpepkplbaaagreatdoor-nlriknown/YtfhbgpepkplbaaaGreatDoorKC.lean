/-
  The law's of, over any text that Parse reads.
-/
import Derived.Test.YtfhbgpepkplbaaaGreatDoorPW
import Derived.BigQuiet
namespace Go.Proofs.YtfhbgpepkplbaaaGreatDoor
open Go.RowKit
set_option maxRecDepth 100000 in
theorem of_d (s ad : ByteArray) (fam rd ln id lab : Int) (D : World → Prop) (hD : ∀ W W', D W → Below W.heap.size W W' → D W') (hp : ∀ W, Tabs W → D W → Calls Tryz.prog 46 #[.string s] W fun e w' => e = .returned (.tuple #[.agg #[.int .i64 fam, .int .u64 rd, .string ad, .int .i64 ln], .int .i64 0]) ∧ Below W.heap.size W w') (w : World) (h : Tabs w) (hd : D w) :
    Calls Tryz.prog 22 #[.string s, .int .u32 id, .int .u32 lab] w fun e w' => e = .returned (.agg #[.int .i64 fam, .int .u64 rd, .string ad, .int .i64 ln, .int .u32 id, .int .u32 lab]) ∧ Below w.heap.size w w' := by
  have hba : Below w.heap.size w (w.alloc (.cells #[.int .i64 0, .int .u64 0, .string ⟨#[]⟩, .int .i64 0, .int .u32 0, .int .u32 0] 27)) := (Below.refl _ _).alloc (Nat.le_refl _) _
  have HK : Hid (_ : Prop) := hp _ (h.below hba) (hD _ _ hd hba)
  have HBA : Hid (Below _ _ _) := hba
  clear hba h hp hd hD
  go_enter Tryz.func22, Tryz.ntmps22
  go_wp2_with fail
  refine Calls.mono HK.out ?_
  rintro e w1 ⟨rfl, hb1⟩
  have hs : (w.alloc (.cells #[.int .i64 0, .int .u64 0, .string ⟨#[]⟩, .int .i64 0, .int .u32 0, .int .u32 0] 27)).heap.size = w.heap.size + 1 := by simp
  have HB1 : Hid (Below w.heap.size w (w1.alloc (.cells #[.int .i64 fam, .int .u64 rd, .string ad, .int .i64 ln] 24))) := (HBA.out.trans (hb1.mono (by omega))).alloc (Nat.le_trans HBA.out.size hb1.size) _
  have hb2 : Below (w.heap.size + 1) (w.alloc (.cells #[.int .i64 0, .int .u64 0, .string ⟨#[]⟩, .int .i64 0, .int .u32 0, .int .u32 0] 27)) (w1.alloc (.cells #[.int .i64 fam, .int .u64 rd, .string ad, .int .i64 ln] 24)) := by
    rw [hs] at hb1
    exact hb1.alloc (by have := hb1.size; rw [hs] at this; exact this) _
  have z : ∀ i, i < 6 → (w1.alloc (.cells #[.int .i64 fam, .int .u64 rd, .string ad, .int .i64 ln] 24)).frozen? ⟨w.heap.size, i, none⟩ = false := fun i _ => (hb2.frozen (p := ⟨w.heap.size, i, none⟩) (by simp)).trans (by simp)
  have z0 : (w1.alloc (.cells #[.int .i64 fam, .int .u64 rd, .string ad, .int .i64 ln] 24)).cell? ⟨w.heap.size, 0, none⟩ = some (.int .i64 0) := (hb2.cell (p := ⟨w.heap.size, 0, none⟩) (by simp)).trans (by simp)
  have z1 : (w1.alloc (.cells #[.int .i64 fam, .int .u64 rd, .string ad, .int .i64 ln] 24)).cell? ⟨w.heap.size, 1, none⟩ = some (.int .u64 0) := (hb2.cell (p := ⟨w.heap.size, 1, none⟩) (by simp)).trans (by simp)
  have z2 : (w1.alloc (.cells #[.int .i64 fam, .int .u64 rd, .string ad, .int .i64 ln] 24)).cell? ⟨w.heap.size, 2, none⟩ = some (.string ⟨#[]⟩) := (hb2.cell (p := ⟨w.heap.size, 2, none⟩) (by simp)).trans (by simp)
  have z3 : (w1.alloc (.cells #[.int .i64 fam, .int .u64 rd, .string ad, .int .i64 ln] 24)).cell? ⟨w.heap.size, 3, none⟩ = some (.int .i64 0) := (hb2.cell (p := ⟨w.heap.size, 3, none⟩) (by simp)).trans (by simp)
  have z4 : (w1.alloc (.cells #[.int .i64 fam, .int .u64 rd, .string ad, .int .i64 ln] 24)).cell? ⟨w.heap.size, 4, none⟩ = some (.int .u32 0) := (hb2.cell (p := ⟨w.heap.size, 4, none⟩) (by simp)).trans (by simp)
  have z5 : (w1.alloc (.cells #[.int .i64 fam, .int .u64 rd, .string ad, .int .i64 ln] 24)).cell? ⟨w.heap.size, 5, none⟩ = some (.int .u32 0) := (hb2.cell (p := ⟨w.heap.size, 5, none⟩) (by simp)).trans (by simp)
  have y0 := z 0 (by omega)
  have y1 := z 1 (by omega)
  have y2 := z 2 (by omega)
  have y3 := z 3 (by omega)
  have y4 := z 4 (by omega)
  have y5 := z 5 (by omega)
  clear hb1 hb2 z HBA hs
  go_wp2
  refine bodyPost_ret (v := .agg #[.int .i64 fam, .int .u64 rd, .string ad, .int .i64 ln, .int .u32 id, .int .u32 lab]) (by simp [results, Tryz.results22, go_sem, z0, z1, z2, z3, z4, z5]) rfl ⟨rfl, ?_⟩
  exact (((((HB1.out.setCell (Nat.le_refl _) _).setCell (Nat.le_refl _) _).setCell (Nat.le_refl _) _).setCell (Nat.le_refl _) _).setCell (Nat.le_refl _) _).setCell (Nat.le_refl _) _
theorem of_g (s ad : ByteArray) (fam rd ln id lab : Int) (hp : ∀ W, Tabs W → Calls Tryz.prog 46 #[.string s] W fun e w' => e = .returned (.tuple #[.agg #[.int .i64 fam, .int .u64 rd, .string ad, .int .i64 ln], .int .i64 0]) ∧ Below W.heap.size W w') (w : World) (h : Tabs w) :
    Calls Tryz.prog 22 #[.string s, .int .u32 id, .int .u32 lab] w fun e w' => e = .returned (.agg #[.int .i64 fam, .int .u64 rd, .string ad, .int .i64 ln, .int .u32 id, .int .u32 lab]) ∧ Below w.heap.size w w' :=
  of_d s ad fam rd ln id lab (fun _ => True) (fun _ _ _ _ => trivial) (fun W h _ => hp W h) w h trivial
end Go.Proofs.YtfhbgpepkplbaaaGreatDoor
