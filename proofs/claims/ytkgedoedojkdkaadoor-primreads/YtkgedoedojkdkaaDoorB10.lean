/-
  What the reading of raw prefixes stands on: bytes of an array made a text, worlds at a place of a walk, whole masks.
-/
import Derived.Test.YtkgedoedojkdkaaDoorB6
namespace Go.Proofs.YtkgedoedojkdkaaDoor
open Go.RowKit
theorem conv4 (w : World) (x y z : Value) (a0 a1 a2 a3 a4 a5 a6 a7 a8 a9 a10 a11 a12 a13 a14 a15 : UInt8) (o2 o3 : Obj) :
    (convert 59 9 (.slice (some ⟨w.heap.size, 2, none⟩) 4 16)).run Tryd.prog (((w.alloc (.cells #[x, y, .int .u8 a0.toNat, .int .u8 a1.toNat, .int .u8 a2.toNat, .int .u8 a3.toNat, .int .u8 a4.toNat, .int .u8 a5.toNat, .int .u8 a6.toNat, .int .u8 a7.toNat, .int .u8 a8.toNat, .int .u8 a9.toNat, .int .u8 a10.toNat, .int .u8 a11.toNat, .int .u8 a12.toNat, .int .u8 a13.toNat, .int .u8 a14.toNat, .int .u8 a15.toNat, z] 43)).alloc o2).alloc o3)
      = .ok (.string ⟨#[a0, a1, a2, a3]⟩) (((w.alloc (.cells #[x, y, .int .u8 a0.toNat, .int .u8 a1.toNat, .int .u8 a2.toNat, .int .u8 a3.toNat, .int .u8 a4.toNat, .int .u8 a5.toNat, .int .u8 a6.toNat, .int .u8 a7.toNat, .int .u8 a8.toNat, .int .u8 a9.toNat, .int .u8 a10.toNat, .int .u8 a11.toNat, .int .u8 a12.toNat, .int .u8 a13.toNat, .int .u8 a14.toNat, .int .u8 a15.toNat, z] 43)).alloc o2).alloc o3) := by
  refine run_convert_bytes_back _ 59 9 5 ⟨w.heap.size, 2, none⟩ 16 [a0, a1, a2, a3] Tryd.underlying59 Tryd.underlying5 Tryd.underlying9 ?_
  intro j hj
  rw [show Addr.add ⟨w.heap.size, 2, none⟩ j = ⟨w.heap.size, 2 + j, none⟩ from by unfold Addr.add; by_cases e : j = 0 <;> simp [e]]
  rw [World.cell?_alloc_past _ _ _ (by simp; omega), World.cell?_alloc_past _ _ _ (by simp), World.cell?_alloc_at _ _ _ _ rfl]
  match j, hj with
  | 0, _ => rfl
  | 1, _ => rfl
  | 2, _ => rfl
  | 3, _ => rfl
theorem conv16 (w : World) (x y z : Value) (a0 a1 a2 a3 a4 a5 a6 a7 a8 a9 a10 a11 a12 a13 a14 a15 : UInt8) (o2 o3 : Obj) :
    (convert 59 9 (.slice (some ⟨w.heap.size, 2, none⟩) 16 16)).run Tryd.prog (((w.alloc (.cells #[x, y, .int .u8 a0.toNat, .int .u8 a1.toNat, .int .u8 a2.toNat, .int .u8 a3.toNat, .int .u8 a4.toNat, .int .u8 a5.toNat, .int .u8 a6.toNat, .int .u8 a7.toNat, .int .u8 a8.toNat, .int .u8 a9.toNat, .int .u8 a10.toNat, .int .u8 a11.toNat, .int .u8 a12.toNat, .int .u8 a13.toNat, .int .u8 a14.toNat, .int .u8 a15.toNat, z] 43)).alloc o2).alloc o3)
      = .ok (.string ⟨#[a0, a1, a2, a3, a4, a5, a6, a7, a8, a9, a10, a11, a12, a13, a14, a15]⟩) (((w.alloc (.cells #[x, y, .int .u8 a0.toNat, .int .u8 a1.toNat, .int .u8 a2.toNat, .int .u8 a3.toNat, .int .u8 a4.toNat, .int .u8 a5.toNat, .int .u8 a6.toNat, .int .u8 a7.toNat, .int .u8 a8.toNat, .int .u8 a9.toNat, .int .u8 a10.toNat, .int .u8 a11.toNat, .int .u8 a12.toNat, .int .u8 a13.toNat, .int .u8 a14.toNat, .int .u8 a15.toNat, z] 43)).alloc o2).alloc o3) := by
  refine run_convert_bytes_back _ 59 9 5 ⟨w.heap.size, 2, none⟩ 16 [a0, a1, a2, a3, a4, a5, a6, a7, a8, a9, a10, a11, a12, a13, a14, a15] Tryd.underlying59 Tryd.underlying5 Tryd.underlying9 ?_
  intro j hj
  rw [show Addr.add ⟨w.heap.size, 2, none⟩ j = ⟨w.heap.size, 2 + j, none⟩ from by unfold Addr.add; by_cases e : j = 0 <;> simp [e]]
  rw [World.cell?_alloc_past _ _ _ (by simp; omega), World.cell?_alloc_past _ _ _ (by simp), World.cell?_alloc_at _ _ _ _ rfl]
  match j, hj with
  | 0, _ => rfl
  | 1, _ => rfl
  | 2, _ => rfl
  | 3, _ => rfl
  | 4, _ => rfl
  | 5, _ => rfl
  | 6, _ => rfl
  | 7, _ => rfl
  | 8, _ => rfl
  | 9, _ => rfl
  | 10, _ => rfl
  | 11, _ => rfl
  | 12, _ => rfl
  | 13, _ => rfl
  | 14, _ => rfl
  | 15, _ => rfl
  | n + 16, hj => exact absurd hj (by simp)
theorem cellOr {W' w2 : World} (hb : Below W'.heap.size W' w2) (b i : Nat) : w2.cell? ⟨b, i, none⟩ = if b < W'.heap.size then W'.cell? ⟨b, i, none⟩ else w2.cell? ⟨b, i, none⟩ := by
  split
  · exact hb.cell (by assumption)
  · rfl
theorem frozenOr {W' w2 : World} (hb : Below W'.heap.size W' w2) (b i : Nat) : w2.frozen? ⟨b, i, none⟩ = if b < W'.heap.size then W'.frozen? ⟨b, i, none⟩ else w2.frozen? ⟨b, i, none⟩ := by
  split
  · exact hb.frozen (by assumption)
  · rfl
/-- The world at a place of the walk, by what is known of it. -/
theorem with_world {P : Program} {c : Code} {Q : Exit → Act → World → Prop} {a : Act} {W : World} (F : World → Prop) (hF : F W) (h : ∀ wx, F wx → Code.wp P c Q a wx) : Code.wp P c Q a W := h W hF
theorem msk_full (l : List UInt8) (n : Int) (h : 8 * (l.length : Int) ≤ n) : msk l n = l := by
  apply List.ext_getElem
  · simp [msk]
  · intro i h1 h2
    have hm : mk (n - 8 * (i : Int)) = 255 := by unfold mk; rw [if_neg (by omega), if_pos (by omega)]
    simp only [msk, List.getElem_mapIdx, hm]
    apply UInt8.toNat_inj.1
    rw [UInt8.toNat_and]
    have := (l[i]).toNat_lt
    exact Nat.and_two_pow_sub_one_of_lt_two_pow (n := 8) this
theorem cut_from (wx : World) (hg : FamSizes wx) (hr : FamRds wx) (f r : Int) (s : ByteArray) (l n : Int) (w : World) (hB : Below wx.heap.size wx w) (h : chk f r s l = 0) (h0 : 0 ≤ n) (h1 : n ≤ l) :
    Calls Tryd.prog 20 #[.agg #[.int .i64 f, .int .u64 r, .string s, .int .i64 l], .int .i64 n] w fun e w' =>
      e = .returned (.tuple #[.agg #[.int .i64 f, .int .u64 r, .string ⟨(msk s.data.toList n).toArray⟩, .int .i64 n], .int .i64 0]) ∧ Below w.heap.size w w' ∧ Below wx.heap.size wx w' :=
  (cut_yes f r s l n w (hg.below hB) (hr.below hB) h h0 h1).mono fun _ _ ⟨h1, h2⟩ => ⟨h1, h2, hB.trans (h2.mono hB.size)⟩
theorem chk_full (f r : Int) (s : ByteArray) (hz : szOf f ≠ 0) (hs : (s.size : Int) = szOf f) (hr : r = 0 ∨ 4 ≤ f) : chk f r s (8 * szOf f) = 0 := by
  have hb := szOf_bd f
  unfold chk
  rw [if_pos ⟨hz, hs, by omega, by omega, hr, msk_full _ _ (by simp; omega)⟩]
end Go.Proofs.YtkgedoedojkdkaaDoor
